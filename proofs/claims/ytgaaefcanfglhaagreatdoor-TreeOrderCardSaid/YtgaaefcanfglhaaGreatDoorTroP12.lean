/- Several texts in one file: TrOnce, TrRead, MaKeyP, TrKey. -/
import Derived.Test.YtgaaefcanfglhaaGreatDoorTroP5
import Derived.Tactics
import Derived.Tactics2
import Derived.Defers
import Derived.Laws.Pointers
import Derived.Laws.LoneSync
import Derived.RegionTactic
import Derived.RegionCalls
import Derived.ChangeAlike
import Derived.Test.YtgaaefcanfglhaaGreatDoorTroP6
import Derived.Test.YtgaaefcanfglhaaGreatDoorTroP7
import Derived.Test.YtgaaefcanfglhaaGreatDoorTroP1
import Derived.Test.YtgaaefcanfglhaaGreatDoorRefKeyW
namespace Go.Proofs.YtgaaefcanfglhaaGreatDoor
open Go.RowKit
set_option linter.unusedVariables false

theorem raceDisable (w : World) : (callFunc 190 #[]).run Tryz.prog w = .ok (.value (.tuple #[])) w := run_call_mark0 Tryz.func190 (by kernel_rfl) (by kernel_rfl) (by kernel_rfl) .disable (by kernel_rfl) w
theorem raceEnable (w : World) : (callFunc 192 #[]).run Tryz.prog w = .ok (.value (.tuple #[])) w := run_call_mark0 Tryz.func192 (by kernel_rfl) (by kernel_rfl) (by kernel_rfl) .enable (by kernel_rfl) w
theorem raceAcquire (a : Addr) (w : World) : (callFunc 193 #[.pointer (some a)]).run Tryz.prog w = .ok (.value (.tuple #[])) w := run_call_marked Tryz.func193 (by kernel_rfl) (by kernel_rfl) (by kernel_rfl) .acquire (by kernel_rfl) a w
theorem raceRelease (a : Addr) (w : World) : (callFunc 195 #[.pointer (some a)]).run Tryz.prog w = .ok (.value (.tuple #[])) w := run_call_marked Tryz.func195 (by kernel_rfl) (by kernel_rfl) (by kernel_rfl) .releaseMerge (by kernel_rfl) a w

theorem storeTrue (a : Addr) (x : Value) (u : FrameMode) (w : World) (hc : w.cell? a = some x) (hz : w.frozen? a = false) :
    CallsD Tryz.prog 144 #[.pointer (some a), .bool true] u w fun e u' w' => u' = u ∧ (e = .returned (.tuple #[]) ∧ w' = w.drew.setCell a (.int .u32 1)) := by
  have hc' : w.drew.cell? a = some x := by go_simp
  have hz' : w.drew.frozen? a = false := by go_simp
  have hst := run_call_store (P := Tryz.prog) Tryz.func169 (by kernel_rfl) (by kernel_rfl) (by kernel_rfl) (by kernel_rfl) (k := .u32) (y := 1) hc' hz'
  go_enter_d Tryz.func144, Tryz.ntmps144
  go_wp2
  go_region_calls
  all_goals (go_end0; exact ⟨rfl, rfl⟩)

set_option maxRecDepth 100000 in
set_option maxHeartbeats 1600000 in
theorem unlockHeld (a : Addr) (u : FrameMode) (w : World) (hc : w.cell? a = some (.int .i32 1)) (hz : w.frozen? a = false) :
    CallsD Tryz.prog 143 #[.pointer (some a)] u w fun e u' w' => u' = u ∧ (e = .returned (.tuple #[]) ∧ w' = w.setCell a (.int .i32 0)) := by
  have hd := raceDisable
  have he := raceEnable
  have hr := raceRelease
  have hadd := run_call_add (P := Tryz.prog) Tryz.func196 (by kernel_rfl) (by kernel_rfl) (by kernel_rfl) .i32 (by kernel_rfl) (y := -1) (s := 0) hc hz (by simp [go_sem]; rfl)
  have hcv := run_convert_to_unsafe (P := Tryz.prog) (src := 231) (dst := 195) Tryz.underlying231 Tryz.underlying195 (by kernel_rfl) hc
  go_enter_d Tryz.func143, Tryz.ntmps143
  go_wp2
  go_end0
  go_wp2
  go_end0
  exact ⟨rfl, rfl⟩

set_option maxRecDepth 100000 in
set_option maxHeartbeats 1600000 in
theorem lockFree (a : Addr) (w : World) (hc : w.cell? a = some (.int .i32 0)) (hz : w.frozen? a = false) :
    Calls Tryz.prog 142 #[.pointer (some a)] w fun e w' => e = .returned (.tuple #[]) ∧ w' = w.setCell a (.int .i32 1) := by
  have hd := raceDisable
  have he := raceEnable
  have ha := raceAcquire
  have hcas := run_call_cas_hit (P := Tryz.prog) Tryz.func191 (by kernel_rfl) (by kernel_rfl) (by kernel_rfl) .i32 (by kernel_rfl) (y := 1) hc hz
  have hc' : (w.setCell a (.int .i32 1)).cell? a = some (.int .i32 1) := World.cell?_setCell_same w a _ hc
  have hcv := run_convert_to_unsafe (P := Tryz.prog) (src := 231) (dst := 195) Tryz.underlying231 Tryz.underlying195 (by kernel_rfl) hc'
  go_enter Tryz.func142, Tryz.ntmps142
  go_wp2
  first | go_end0 | (simp only [Exit.inBlock, Exit.then]; refine bodyPost_ret (results_none rfl _ _ _) rfl ?_) | refine bodyPost_ret (results_none rfl _ _ _) rfl ?_
  go_wp2
  go_end0
  exact ⟨rfl, rfl⟩

def BoxX (w : World) (b : Nat) (lv : Value) (d s : Int) (kv mv : Value) : Prop := w.heap[b]? = some (.cells #[lv, .int .u32 d, .int .i32 s, .int .u32 0, kv, mv] 83 (0, 0))
theorem BoxX.lt {w : World} {b : Nat} {lv kv mv : Value} {d s : Int} (h : BoxX w b lv d s kv mv) : b < w.heap.size := (Array.getElem?_eq_some_iff.1 h).1
theorem BoxX.cells {w : World} {b : Nat} {lv kv mv : Value} {d s : Int} (h : BoxX w b lv d s kv mv) : w.cell? ⟨b, 0, none⟩ = some lv ∧ w.cell? ⟨b, 1, none⟩ = some (.int .u32 d) ∧ w.cell? ⟨b, 2, none⟩ = some (.int .i32 s) ∧ w.cell? ⟨b, 4, none⟩ = some kv ∧ w.cell? ⟨b, 5, none⟩ = some mv := by
  unfold BoxX at h
  simp [World.cell?, h]
theorem BoxX.free {w : World} {b : Nat} {lv kv mv : Value} {d s : Int} (h : BoxX w b lv d s kv mv) (i : Nat) : w.frozen? ⟨b, i, none⟩ = false := by
  unfold BoxX at h
  simp [World.frozen?, h]
theorem BoxX.same {w w' : World} {b : Nat} {lv kv mv : Value} {d s : Int} (h : BoxX w b lv d s kv mv) (hb : w'.heap[b]? = w.heap[b]?) : BoxX w' b lv d s kv mv := hb.trans h
theorem BoxX.below {w w' : World} {b : Nat} {lv kv mv : Value} {d s : Int} (h : BoxX w b lv d s kv mv) (hb : Below w.heap.size w w') : BoxX w' b lv d s kv mv := h.same (hb.block _ h.lt)
theorem BoxX.drew {w : World} {b : Nat} {lv kv mv : Value} {d s : Int} (h : BoxX w b lv d s kv mv) : BoxX w.drew b lv d s kv mv := h
theorem BoxX.set1 {w : World} {b : Nat} {lv kv mv : Value} {d s x : Int} (h : BoxX w b lv d s kv mv) : BoxX (w.setCell ⟨b, 1, none⟩ (.int .u32 x)) b lv x s kv mv := by
  unfold BoxX at h ⊢
  simp [World.setCell, Array.getElem?_modify, h]
theorem BoxX.set2 {w : World} {b : Nat} {lv kv mv : Value} {d s x : Int} (h : BoxX w b lv d s kv mv) : BoxX (w.setCell ⟨b, 2, none⟩ (.int .i32 x)) b lv d x kv mv := by
  unfold BoxX at h ⊢
  simp [World.setCell, Array.getElem?_modify, h]
theorem BoxX.set4 {w : World} {b : Nat} {lv kv mv x : Value} {d s : Int} (h : BoxX w b lv d s kv mv) : BoxX (w.setCell ⟨b, 4, none⟩ x) b lv d s x mv := by
  unfold BoxX at h ⊢
  simp [World.setCell, Array.getElem?_modify, h]
theorem BoxX.set5 {w : World} {b : Nat} {lv kv mv x : Value} {d s : Int} (h : BoxX w b lv d s kv mv) : BoxX (w.setCell ⟨b, 5, none⟩ x) b lv d s kv x := by
  unfold BoxX at h ⊢
  simp [World.setCell, Array.getElem?_modify, h]
theorem grown_set {w : World} {b i : Nat} (x : Value) : w.grownBy (w.setCell ⟨b, i, none⟩ x) (some b) :=
  ⟨rfl, rfl, rfl, by simp [World.setCell], fun k _ hk => Below.heap_setCell _ _ _ _ (fun e => hk (by rw [e]))⟩
theorem grown_drew {w w' : World} {r : Option Nat} (h : w.grownBy w' r) : w.grownBy w'.drew r := ⟨h.os, h.tape, h.output, h.size, h.block⟩
theorem grown_below {w w' : World} {r : Option Nat} (h : Below w.heap.size w w') : w.grownBy w' r := ⟨h.os, h.tape, h.output, h.size, fun k hk _ => h.block k hk⟩
theorem below_ofGrown {w w' : World} {b : Nat} (h : w.grownBy w' (some b)) (hb : b ≤ w.heap.size) : Below b w w' := ⟨h.os, h.tape, h.output, h.size, fun k hk => h.block k (by omega) (fun e => by have := Option.some.inj e; omega)⟩

set_option maxRecDepth 100000 in
set_option maxHeartbeats 1600000 in
theorem slowX_any (b : Nat) (lv : Value) (Q : World → Value → Value → Prop) (w : World) (hbx : BoxX w b lv 0 0 (.slice none 0 0) (.map none))
    (hf : ∀ w1, BoxX w1 b lv 0 1 (.slice none 0 0) (.map none) → w.grownBy w1 (some b) → w1.heap.size = w.heap.size → Calls Tryz.prog 65 #[.pointer (some ⟨b, 0, none⟩)] w1 fun e w' => e = .returned (.tuple #[]) ∧ ∃ kv mv, BoxX w' b lv 0 1 kv mv ∧ Q w' kv mv ∧ w1.grownBy w' (some b)) :
    Calls Tryz.prog 107 #[.pointer (some ⟨b, 1, none⟩), .func (.func 65) #[.pointer (some ⟨b, 0, none⟩)] #[]] w fun e w' => e = .returned (.tuple #[]) ∧
      ∃ w3 kv mv, w' = ((w3.drew.setCell ⟨b, 1, none⟩ (.int .u32 1)).setCell ⟨b, 2, none⟩ (.int .i32 0)) ∧ BoxX w3 b lv 0 1 kv mv ∧ Q w3 kv mv ∧ w.grownBy w3 (some b) := by
  obtain ⟨c0, c1, c2, c4, c5⟩ := hbx.cells
  have hb1 : BoxX (w.setCell ⟨b, 2, none⟩ (.int .i32 1)) b lv 0 1 (.slice none 0 0) (.map none) := hbx.set2
  have hl := run_call_load (P := Tryz.prog) Tryz.func141 (by kernel_rfl) (by kernel_rfl) (by kernel_rfl) .u32 (by kernel_rfl) (w := w.setCell ⟨b, 2, none⟩ (.int .i32 1)) (a := ⟨b, 1, none⟩) (x := 0) hb1.cells.2.1
  have HF := Lib.hid (hf _ hb1 (grown_set _) (by simp [World.setCell]))
  have hz1 := hbx.free 1
  have hz2 := hbx.free 2
  have HG1 := Lib.hid (grown_set (w := w) (b := b) (i := 2) (.int .i32 1))
  clear hf hb1 c0 c1 c4 c5
  have hnot : ∀ (x : Bool) (w : World), (Op.unary .not (.bool x)).run Tryz.prog w = .ok (.bool (!x)) w := fun _ _ => rfl
  go_enter_defers Tryz.func107, Tryz.ntmps107
  go_wp2_with (first
    | (go_at_call 142; refine (lockFree ⟨b, 2, none⟩ _ c2 hz2).mono ?_; rintro e w' ⟨rfl, rfl⟩)
    | (go_at_call 65; refine (HF.out).mono ?_; rintro e w3 ⟨rfl, kv, mv, hbx3, hq3, hg3⟩)
    | (go_at_call 106; go_in))
  refine leaves_cons (f := 144) (args := #[.pointer (some ⟨b, 1, none⟩), .bool true]) (by simp) (by simp [go_sem]) ?_
  refine (storeTrue ⟨b, 1, none⟩ (.int .u32 0) .returning _ hbx3.cells.2.1 (hbx3.free 1)).mono ?_
  rintro e u' w'' ⟨rfl, rfl, rfl⟩
  refine leaves_cons (f := 143) (args := #[.pointer (some ⟨b, 2, none⟩)]) (by simp [settle]) (by simp [go_sem]) ?_
  refine (unlockHeld ⟨b, 2, none⟩ _ _ hbx3.drew.set1.cells.2.2.1 (hbx3.drew.set1.free 2)).mono ?_
  rintro e u' w'' ⟨rfl, rfl, rfl⟩
  have HE : Hid (∃ w4 kv mv, ((w3.drew.setCell ⟨b, 1, none⟩ (.int .u32 1)).setCell ⟨b, 2, none⟩ (.int .i32 0)) = ((w4.drew.setCell ⟨b, 1, none⟩ (.int .u32 1)).setCell ⟨b, 2, none⟩ (.int .i32 0)) ∧ BoxX w4 b lv 0 1 kv mv ∧ Q w4 kv mv ∧ w.grownBy w4 (some b)) := Lib.hid ⟨w3, kv, mv, rfl, hbx3, hq3, HG1.out.trans hg3⟩
  simp only [Leaves, settle, results, Tryz.results107]
  first | exact ⟨rfl, HE.out⟩ | simpa using HE.out

set_option maxRecDepth 100000 in
set_option maxHeartbeats 1600000 in
theorem doX_first (b : Nat) (lv : Value) (Q : World → Value → Value → Prop) (w : World) (hbx : BoxX w b lv 0 0 (.slice none 0 0) (.map none))
    (hf : ∀ w1, BoxX w1 b lv 0 1 (.slice none 0 0) (.map none) → w.grownBy w1 (some b) → w1.heap.size = w.heap.size → Calls Tryz.prog 65 #[.pointer (some ⟨b, 0, none⟩)] w1 fun e w' => e = .returned (.tuple #[]) ∧ ∃ kv mv, BoxX w' b lv 0 1 kv mv ∧ Q w' kv mv ∧ w1.grownBy w' (some b)) :
    Calls Tryz.prog 64 #[.pointer (some ⟨b, 1, none⟩), .func (.func 65) #[.pointer (some ⟨b, 0, none⟩)] #[]] w fun e w' => e = .returned (.tuple #[]) ∧
      ∃ w3 kv mv, w' = ((w3.drew.setCell ⟨b, 1, none⟩ (.int .u32 1)).setCell ⟨b, 2, none⟩ (.int .i32 0)) ∧ BoxX w3 b lv 0 1 kv mv ∧ Q w3 kv mv ∧ w.grownBy w3 (some b) := by
  have hl := run_call_load (P := Tryz.prog) Tryz.func141 (by kernel_rfl) (by kernel_rfl) (by kernel_rfl) .u32 (by kernel_rfl) hbx.cells.2.1
  have HS := Lib.hid (slowX_any b lv Q w hbx hf)
  clear hf hbx
  have hnot : ∀ (x : Bool) (w : World), (Op.unary .not (.bool x)).run Tryz.prog w = .ok (.bool (!x)) w := fun _ _ => rfl
  go_enter Tryz.func64, Tryz.ntmps64
  go_wp2_with (first | (go_at_call 107; refine (HS.out).mono ?_; rintro e w2 ⟨rfl, h2⟩; have H2 := Lib.hid h2; clear h2) | (go_at_call 106; go_in))
  go_end0
  exact ⟨rfl, H2.out⟩

theorem doX_done (a : Addr) (fv : Value) (w : World) (h0 : w.cell? a = some (.int .u32 1)) :
    Calls Tryz.prog 64 #[.pointer (some a), fv] w fun e w' => e = .returned (.tuple #[]) ∧ w' = w := by
  have hl := run_call_load (P := Tryz.prog) Tryz.func141 (by kernel_rfl) (by kernel_rfl) (by kernel_rfl) .u32 (by kernel_rfl) h0
  have hnot : ∀ (x : Bool) (w : World), (Op.unary .not (.bool x)).run Tryz.prog w = .ok (.bool (!x)) w := fun _ _ => rfl
  go_enter Tryz.func64, Tryz.ntmps64
  go_wp2
  go_end0
  exact ⟨rfl, rfl⟩
end Go.Proofs.YtgaaefcanfglhaaGreatDoor


namespace Go.Proofs.YtgaaefcanfglhaaGreatDoor
open Go.RowKit
set_option linter.unusedVariables false

def IsAo (ok : Nat → Prop) (w : World) (L : List AT) (v : Value) : Prop := ∃ a c, v = .slice a L.length c ∧ L.length ≤ maxLen ∧
  ∀ j, (h : j < L.length) → ∃ b off u, a = some ⟨b, off, none⟩ ∧ ok b ∧ w.cell? ⟨b, off + j * 2, none⟩ = some (strV L[j].1) ∧ w.cell? ⟨b, off + j * 2 + 1, none⟩ = some u ∧ IsTo ok w L[j].2 u
def IsEo (ok : Nat → Prop) (w : World) (L : List ET) (v : Value) : Prop := ∃ a c, v = .slice a L.length c ∧ L.length ≤ maxLen ∧
  ∀ j, (h : j < L.length) → ∃ b off u, a = some ⟨b, off, none⟩ ∧ ok b ∧ w.cell? ⟨b, off + j * 2, none⟩ = some (strV L[j].1) ∧ w.cell? ⟨b, off + j * 2 + 1, none⟩ = some u ∧ IsAo ok w L[j].2 u
abbrev IsE (n : Nat) := IsEo (fun b => b < n)
theorem IsAo.isA {n : Nat} {w : World} {L : List AT} {v : Value} (h : IsAo (fun b => b < n) w L v) : IsA n w L v := h
theorem IsAo.imp {ok ok' : Nat → Prop} {w w' : World} {L : List AT} {v : Value} (h : IsAo ok w L v) (hi : ∀ b, ok b → ok' b) (hc : ∀ b o, ok b → w'.cell? ⟨b, o, none⟩ = w.cell? ⟨b, o, none⟩) : IsAo ok' w' L v := by
  obtain ⟨a, c, hv, hm, h⟩ := h
  refine ⟨a, c, hv, hm, fun j hj => ?_⟩
  obtain ⟨b, off, u, ha, hb, h0, h1, h2⟩ := h j hj
  exact ⟨b, off, u, ha, hi b hb, (hc b _ hb).trans h0, (hc b _ hb).trans h1, h2.imp hi hc⟩
theorem IsEo.imp {ok ok' : Nat → Prop} {w w' : World} {L : List ET} {v : Value} (h : IsEo ok w L v) (hi : ∀ b, ok b → ok' b) (hc : ∀ b o, ok b → w'.cell? ⟨b, o, none⟩ = w.cell? ⟨b, o, none⟩) : IsEo ok' w' L v := by
  obtain ⟨a, c, hv, hm, h⟩ := h
  refine ⟨a, c, hv, hm, fun j hj => ?_⟩
  obtain ⟨b, off, u, ha, hb, h0, h1, h2⟩ := h j hj
  exact ⟨b, off, u, ha, hi b hb, (hc b _ hb).trans h0, (hc b _ hb).trans h1, h2.imp hi hc⟩
theorem IsE.below {n n' : Nat} {w w' : World} {L : List ET} {v : Value} (h : IsE n w L v) (hb : Below n w w') (hn : n ≤ n') : IsE n' w' L v :=
  h.imp (fun b hk => Nat.lt_of_lt_of_le hk hn) (fun b o hk => hb.cell (p := ⟨b, o, none⟩) hk)
theorem IsE.sl {ok : Nat → Prop} {w : World} {L : List ET} {v : Value} (h : IsEo ok w L v) : ∃ a c, v = .slice a L.length c := by
  obtain ⟨a, c, hv, _⟩ := h; exact ⟨a, c, hv⟩
theorem isE_nil (ok : Nat → Prop) (w : World) (c : Nat) (a : Option Addr) : IsEo ok w [] (.slice a 0 c) := ⟨a, c, rfl, Nat.zero_le _, fun j hj => absurd hj (by simp)⟩
theorem IsE.at {n : Nat} {w : World} {L : List ET} {v : Value} (h : IsE n w L v) (j : Nat) (hj : j < L.length) : ∃ a c b off u, v = .slice a L.length c ∧ a = some ⟨b, off, none⟩ ∧ b < n ∧ w.cell? ⟨b, off + j * 2, none⟩ = some (.string (ofL L[j].1)) ∧ w.cell? ⟨b, off + j * 2 + 1, none⟩ = some u ∧ IsA n w L[j].2 u := by
  obtain ⟨a, c, hv, _, h⟩ := h
  obtain ⟨b, off, u, ha, hb, h0, h1, h2⟩ := h j hj
  exact ⟨a, c, b, off, u, hv, ha, hb, h0, h1, h2⟩
theorem IsE.take {ok : Nat → Prop} {w : World} {L : List ET} {a : Option Addr} {n c : Nat} (h : IsEo ok w L (.slice a n c)) (k : Nat) (hk : k ≤ L.length) (c' : Nat) : IsEo ok w (L.take k) (.slice a k c') := by
  obtain ⟨a', c2, hv, hm, h⟩ := h
  obtain ⟨rfl, rfl, rfl⟩ := Value.slice.inj hv
  have hl : (L.take k).length = k := by rw [List.length_take]; omega
  refine ⟨a, c', by rw [hl], by rw [hl]; omega, fun j hj => ?_⟩
  rw [hl] at hj
  obtain ⟨b, off, u, ha, hb, h0, h1, h2⟩ := h j (by omega)
  have e : (L.take k)[j]'(by rw [hl]; exact hj) = L[j]'(by omega) := List.getElem_take
  exact ⟨b, off, u, ha, hb, by rw [e]; exact h0, h1, by rw [e]; exact h2⟩
theorem IsE.drop {ok : Nat → Prop} {w : World} {L : List ET} {b off n c : Nat} (h : IsEo ok w L (.slice (some ⟨b, off, none⟩) n c)) (k : Nat) (hk : k ≤ L.length) (c' : Nat) : IsEo ok w (L.drop k) (.slice (some ⟨b, off + k * 2, none⟩) (L.length - k) c') := by
  obtain ⟨a', c2, hv, hm, h⟩ := h
  obtain ⟨rfl, rfl, rfl⟩ := Value.slice.inj hv
  have hl : (L.drop k).length = L.length - k := List.length_drop
  refine ⟨_, c', by rw [hl], by rw [hl]; omega, fun j hj => ?_⟩
  rw [hl] at hj
  obtain ⟨b2, off2, u, ha, hb, h0, h1, h2⟩ := h (k + j) (by omega)
  have ha := Option.some.inj ha
  have e1 : b2 = b := (congrArg Addr.block ha).symm
  have e2 : off2 = off := (congrArg Addr.off ha).symm
  subst e1 e2
  have e : (L.drop k)[j]'(by rw [hl]; exact hj) = L[k + j]'(by omega) := List.getElem_drop
  refine ⟨b2, off2 + k * 2, u, rfl, hb, ?_, ?_, by rw [e]; exact h2⟩
  · rw [e, ← h0]; congr 2; omega
  · rw [← h1]; congr 2; omega

theorem infoE : (Tryz.prog.info? 27).map (fun i => (i.zero, i.size, i.bytes)) = some (some (.agg #[.string ⟨#[]⟩, .slice none 0 0]), 2, 40) := by kernel_rfl
def RowE (B : Nat) (w : World) (v : Value) (P : List PT) : Prop := w.ownsRow B 27 2 v P.length (cellsP P)
def SaysE (ok : Nat → Prop) (w : World) (P : List PT) (L : List ET) : Prop := P.length = L.length ∧ ∀ j (h : j < L.length) (h' : j < P.length), P[j].1 = L[j].1 ∧ IsAo ok w L[j].2 P[j].2
def OwnE (ok : Nat → Prop) (B : Nat) (w : World) (v : Value) (L : List ET) : Prop := ∃ P, RowE B w v P ∧ SaysE ok w P L
theorem SaysE.imp {ok ok' : Nat → Prop} {w w' : World} {P : List PT} {L : List ET} (h : SaysE ok w P L) (hi : ∀ b, ok b → ok' b) (hc : ∀ b o, ok b → w'.cell? ⟨b, o, none⟩ = w.cell? ⟨b, o, none⟩) : SaysE ok' w' P L :=
  ⟨h.1, fun j h1 h2 => ⟨(h.2 j h1 h2).1, (h.2 j h1 h2).2.imp hi hc⟩⟩
theorem rowE_below {B : Nat} {w w' : World} {v : Value} {P : List PT} (h : RowE B w v P) (hb : Below w.heap.size w w') : RowE B w' v P :=
  World.ownsRow.kept h (row := none) ⟨hb.os, hb.tape, hb.output, hb.size, fun k hk _ => hb.block k hk⟩ (by cases v.ownBlock <;> simp)
theorem ownE_below {ok ok' : Nat → Prop} {B : Nat} {w w' : World} {v : Value} {L : List ET} (h : OwnE ok B w v L) (hb : Below w.heap.size w w') (hk : ∀ b, ok b → b < w.heap.size) (hi : ∀ b, ok b → ok' b) : OwnE ok' B w' v L := by
  obtain ⟨P, h1, h2⟩ := h
  exact ⟨P, rowE_below h1 hb, h2.imp hi (fun b o hb' => hb.cell (p := ⟨b, o, none⟩) (hk b hb'))⟩
theorem rowE_slice {B : Nat} {w : World} {v : Value} {P : List PT} (h : RowE B w v P) : ∃ a c, v = .slice a P.length c := by
  rcases h.2 with ⟨rfl, hz⟩ | ⟨g, cap, cur, rfl, _⟩
  · exact ⟨_, _, by rw [hz]⟩
  · exact ⟨_, _, rfl⟩
theorem ownE_slice {ok : Nat → Prop} {B : Nat} {w : World} {v : Value} {L : List ET} (h : OwnE ok B w v L) : ∃ a c, v = .slice a L.length c := by
  obtain ⟨P, h1, h2⟩ := h
  rw [← h2.1]
  exact rowE_slice h1
theorem ownE_nil (ok : Nat → Prop) (B : Nat) (w : World) : OwnE ok B w (.slice none 0 0) [] := ⟨[], World.ownsRow_nil _ _ _ _, rfl, fun j h => absurd h (by simp)⟩
theorem rowE_at {B : Nat} {w : World} {v : Value} {P : List PT} (h : RowE B w v P) (hl : P ≠ []) : ∃ g c, v = .slice (some ⟨g, 0, none⟩) P.length c ∧ B ≤ g ∧ g < w.heap.size ∧ ∀ j (hj : j < P.length), w.cell? ⟨g, j * 2, none⟩ = some (strV P[j].1) ∧ w.cell? ⟨g, j * 2 + 1, none⟩ = some P[j].2 := by
  have hc := fun g (hg : v.ownBlock = some g) => World.ownsRow.cells h hg
  rcases h.2 with ⟨rfl, hz⟩ | ⟨g, cap, cur, rfl, hB, hg, _⟩
  · exact absurd (List.eq_nil_of_length_eq_zero hz) hl
  · refine ⟨g, cap, rfl, hB, (Array.getElem?_eq_some_iff.1 hg).1, fun j hj => ?_⟩
    obtain ⟨g1, g2⟩ := cellsP_get P j hj
    have h1 := hc g rfl (j * 2) _ g1
    have h2 := hc g rfl (j * 2 + 1) _ g2
    have e1 : ((⟨g, 0, none⟩ : Addr).add (j * 2)) = ⟨g, j * 2, none⟩ := by simp [Addr.add]; omega
    have e2 : ((⟨g, 0, none⟩ : Addr).add (j * 2 + 1)) = ⟨g, j * 2 + 1, none⟩ := by simp [Addr.add]
    rw [e1] at h1
    rw [e2] at h2
    exact ⟨h1, h2⟩
theorem ownE_isE {ok : Nat → Prop} {B : Nat} {w : World} {v : Value} {L : List ET} (h : OwnE ok B w v L) (hl : L.length ≤ maxLen) (hk : ∀ b, ok b → b < w.heap.size) : IsE w.heap.size w L v := by
  obtain ⟨P, h1, h2⟩ := h
  by_cases hne : P = []
  · subst hne
    obtain ⟨a, c, hv⟩ := rowE_slice h1
    have : L = [] := List.eq_nil_of_length_eq_zero (by have := h2.1; simpa using this.symm)
    subst this
    exact ⟨a, c, hv, hl, fun j hj => absurd hj (by simp)⟩
  · obtain ⟨g, c, hv, _, hg, hc⟩ := rowE_at h1 hne
    refine ⟨_, c, by rw [hv, h2.1], hl, fun j hj => ?_⟩
    have hj' : j < P.length := by rw [h2.1]; exact hj
    obtain ⟨e1, e2⟩ := h2.2 j hj hj'
    refine ⟨g, 0, P[j].2, rfl, hg, ?_, ?_, e2.imp hk (fun _ _ _ => rfl)⟩
    · rw [Nat.zero_add, ← e1]; exact (hc j hj').1
    · rw [Nat.zero_add]; exact (hc j hj').2
theorem saysE_app {ok : Nat → Prop} {w : World} {P Q : List PT} {L M : List ET} (h : SaysE ok w P L) (hm : SaysE ok w Q M) : SaysE ok w (P ++ Q) (L ++ M) := by
  refine ⟨by simp [h.1, hm.1], fun j h1 h2 => ?_⟩
  by_cases hj : j < L.length
  · have hj' : j < P.length := by rw [h.1]; exact hj
    rw [List.getElem_append_left hj', List.getElem_append_left hj]
    exact h.2 j hj hj'
  · have hjP : ¬ j < P.length := by rw [h.1]; exact hj
    rw [List.getElem_append_right (by omega), List.getElem_append_right (by omega)]
    have e := h.1
    simp only [e]
    exact hm.2 _ (by simp at h1; omega) (by simp at h2; omega)
theorem isE_cells {n : Nat} {w : World} {L : List ET} {b off m c : Nat} (h : IsE n w L (.slice (some ⟨b, off, none⟩) m c)) : ∃ P : List PT, SaysE (fun b => b < n) w P L ∧ (L ≠ [] → b < n) ∧ ∀ j u, (cellsP P)[j]? = some u → w.cell? ((⟨b, off, none⟩ : Addr).add j) = some u := by
  obtain ⟨a', c2, hv, hm, h⟩ := h
  obtain ⟨rfl, rfl, rfl⟩ := Value.slice.inj hv
  have each : ∀ j, ∃ u : Value, (hj : j < L.length) → b < n ∧ w.cell? ⟨b, off + j * 2, none⟩ = some (strV L[j].1) ∧ w.cell? ⟨b, off + j * 2 + 1, none⟩ = some u ∧ IsAo (fun b => b < n) w L[j].2 u := fun j => by
    by_cases hj : j < L.length
    · obtain ⟨b2, off2, u, ha, hb, h0, h1, h2⟩ := h j hj
      have ha := Option.some.inj ha
      have e1 : b2 = b := (congrArg Addr.block ha).symm
      have e2 : off2 = off := (congrArg Addr.off ha).symm
      subst e1 e2
      exact ⟨u, fun _ => ⟨hb, h0, h1, h2⟩⟩
    · exact ⟨.bool true, fun h' => absurd h' hj⟩
  obtain ⟨f, hf⟩ := Classical.skolem.1 each
  refine ⟨(List.range L.length).map (fun j => ((L.getD j ([], [])).1, f j)), ⟨by simp, fun j h1 h2 => ?_⟩, fun hne => ?_, fun j u hu => ?_⟩
  · simp only [List.getElem_map, List.getElem_range]
    rw [getD_in _ _ h1]
    exact ⟨rfl, (hf j h1).2.2.2⟩
  · exact (hf 0 (List.length_pos_iff.2 hne)).1
  · have hlen := cellsP_length ((List.range L.length).map (fun j => ((L.getD j ([], [])).1, f j)))
    obtain ⟨hjl, _⟩ := List.getElem?_eq_some_iff.1 hu
    rw [hlen, List.length_map, List.length_range] at hjl
    have hq : j / 2 < L.length := by omega
    obtain ⟨g1, g2⟩ := cellsP_get ((List.range L.length).map (fun j => ((L.getD j ([], [])).1, f j))) (j / 2) (by simpa using hq)
    simp only [List.getElem_map, List.getElem_range] at g1 g2
    rw [getD_in _ _ hq] at g1
    obtain ⟨_, c0, c1, _⟩ := hf (j / 2) hq
    have hadd : (⟨b, off, none⟩ : Addr).add j = ⟨b, off + j, none⟩ := by unfold Addr.add; split <;> simp_all
    rw [hadd]
    rcases Nat.mod_two_eq_zero_or_one j with e | e
    · have ej : j = j / 2 * 2 := by omega
      rw [ej, g1] at hu
      rw [ej, c0, ← hu]
    · have ej : j = j / 2 * 2 + 1 := by omega
      rw [ej, g2] at hu
      rw [ej, show off + (j / 2 * 2 + 1) = off + j / 2 * 2 + 1 from by omega, c1, ← hu]
theorem cellsE_one {P : List PT} (h : ∀ j (hj : j < P.length), P[j].2.oneCell' = true) : ∀ u ∈ cellsP P, u.oneCell' = true := by
  induction P with
  | nil => intro u hu; cases hu
  | cons r P ih =>
    intro u hu
    rcases List.mem_cons.1 hu with rfl | hu
    · rfl
    · rcases List.mem_cons.1 hu with rfl | hu
      · exact h 0 (by simp)
      · exact ih (fun j hj => h (j + 1) (by simpa using hj)) u hu
theorem isAo_one {ok : Nat → Prop} {w : World} {L : List AT} {v : Value} (h : IsAo ok w L v) : v.oneCell' = true := by
  obtain ⟨a, c, rfl, _⟩ := h; rfl
theorem SaysE.one {ok : Nat → Prop} {w : World} {P : List PT} {L : List ET} (h : SaysE ok w P L) : ∀ u ∈ cellsP P, u.oneCell' = true :=
  cellsE_one fun j hj => isAo_one (h.2 j (by rw [← h.1]; exact hj) hj).2
theorem ownE_more {ok : Nat → Prop} {B : Nat} {w w' : World} {v v' : Value} {P Q : List PT} {L M : List ET} (hr : RowE B w v P) (hs : SaysE ok w P L) (hm : SaysE ok w Q M) (hr' : w'.ownsRow B 27 2 v' (P.length + Q.length) (cellsP P ++ cellsP Q)) (hg : w.grownBy w' v.ownBlock)
    (hk : ∀ b, ok b → b < w.heap.size ∧ some b ≠ v.ownBlock) : OwnE ok B w' v' (L ++ M) := by
  refine ⟨P ++ Q, ?_, (saysE_app hs hm).imp (fun _ h => h) (fun b o hb => by
    have := hg.block b (hk b hb).1 (hk b hb).2
    simp only [World.cell?, this])⟩
  unfold RowE
  rw [List.length_append, cellsP_append]
  exact hr'

theorem wpList_append_entries {ok : Nat → Prop} {ops : Array Oper} {rest : List Oper} {o : Oper} {a : Act} {w : World} {Q : Exit → Act → World → Prop} (hgd : o.guard = none) (sl x : Operand)
    (ho : o.op = .call { callee := .builtin .append, args := #[sl, x], argTypes := #[23, 23] })
    (base : Nat) (v : Value) (L M : List ET) (hs : a.eval sl = v) (b off m c : Nat) (hown : OwnE ok base w v L) (PM : List PT) (hm : SaysE ok w PM M) (hc : ∀ j u, (cellsP PM)[j]? = some u → w.cell? ((⟨b, off, none⟩ : Addr).add j) = some u) (hx : a.eval x = .slice (some ⟨b, off, none⟩) m c) (hml : m = M.length)
    (hk : ∀ b, ok b → b < w.heap.size ∧ some b ≠ v.ownBlock) (h63 : L.length + M.length ≤ 1000000) (hbase : base ≤ w.heap.size) (hm0 : M ≠ [])
    (h : ∀ v' w', OwnE ok base w' v' (L ++ M) → Below base w w' → w.grownBy w' v.ownBlock → (v'.ownBlock = v.ownBlock ∨ v'.ownBlock = some w.heap.size) → wpList Tryz.prog ops Q rest (a.put o.dst v') w') : wpList Tryz.prog ops Q (o :: rest) a w := by
  obtain ⟨i0, hi, hz0, hz1, hz2⟩ := info_parts infoE
  obtain ⟨P, hr, hsay⟩ := hown
  have hPL := hsay.1
  have hQ := hm.1
  have h0 : 0 < M.length := List.length_pos_iff.2 hm0
  refine wpList_append_own_at _ hgd sl x 23 ho base 27 i0 (.agg #[.string ⟨#[]⟩, .slice none 0 0]) 2 40 Tryz.underlying23 hi hz0 hz1 hz2 rfl (by decide) v P.length (cellsP P) hs hr ⟨b, off, none⟩ m c (cellsP PM) hx (by rw [cellsP_length, hQ, hml]) hc hm.one (by unfold maxLen; omega) (by omega) hbase ?_
  intro v' w' hown' hgrow _ hat
  rw [hml, ← hQ] at hown'
  refine h v' w' (ownE_more hr hsay hm hown' hgrow hk) ?_ hgrow hat
  exact (Below.refl base w).grown hgrow hbase (fun k e => (World.ownsRow.lt hr k e).1)
end Go.Proofs.YtgaaefcanfglhaaGreatDoor


namespace Go.Proofs.YtgaaefcanfglhaaGreatDoor
set_option linter.unusedVariables false

theorem escC_zero {f l : Bool} {c : UInt8} (h : kindC c = 0) : (escC f l c).length = 3 := by unfold escC; rw [if_pos h]; rfl
theorem escC_need {f l : Bool} {c : UInt8} (h : kindC c ≠ 0) (hn : needC c f l = true) : (escC f l c).length = 2 := by unfold escC; rw [if_neg h, if_pos hn]; rfl
theorem escC_one {f l : Bool} {c : UInt8} (h : kindC c ≠ 0) (hn : ¬ needC c f l = true) : (escC f l c).length = 1 := by unfold escC; rw [if_neg h, if_neg hn]; rfl
theorem escC_le3 (f l : Bool) (c : UInt8) : (escC f l c).length ≤ 3 := by unfold escC; split <;> (try split) <;> simp
theorem escC_le2 {f l : Bool} {c : UInt8} (h : kindC c ≠ 0) : (escC f l c).length ≤ 2 := by unfold escC; rw [if_neg h]; split <;> simp
theorem escC_ge1 (f l : Bool) (c : UInt8) : 1 ≤ (escC f l c).length := by unfold escC; split <;> (try split) <;> simp

theorem valN_empty {n : Nat} {f : Bool} {s : List UInt8} (h : valN n f s = some []) : s = [] := by
  cases n with
  | zero => unfold valN at h; split at h; assumption; cases h
  | succ n =>
    unfold valN at h
    split at h
    · assumption
    · split at h
      · cases h
      · cases hv : valN n false (s.drop (oneD f s).2) with
        | none => rw [hv] at h; cases h
        | some v => rw [hv] at h; simp at h
theorem valN_of_nil {n : Nat} {f : Bool} {v : List UInt8} (h : valN n f [] = some v) : v = [] := by
  cases n with
  | zero => simp [valN] at h; exact h
  | succ n => simp [valN] at h; exact h

theorem val_len : ∀ (n : Nat) (f : Bool) (s v : List UInt8), valN n f s = some v → (escR f v).length ≤ s.length
  | 0, f, s, v, h => by
    unfold valN at h
    split at h
    · cases h; simp [escR]
    · cases h
  | n + 1, f, s, v, h => by
    unfold valN at h
    split at h
    · cases h; simp [escR]
    · rename_i hne
      split at h
      · cases h
      · rename_i hk
        cases hv : valN n false (s.drop (oneD f s).2) with
        | none => rw [hv] at h; cases h
        | some v' =>
          rw [hv] at h
          simp only [Option.map_some, Option.some.injEq] at h
          subst h
          have ih := val_len n false _ _ hv
          rw [List.length_drop] at ih
          have key : (escC f v'.isEmpty (oneD f s).1).length ≤ (oneD f s).2 ∧ (oneD f s).2 ≤ s.length := by
            cases s with
            | nil => exact absurd rfl hne
            | cons a r =>
              by_cases h92 : a.toNat = 92
              · have e1 : oneD f (a :: r) = behD r := by simp only [oneD]; rw [if_pos h92]
                rw [e1] at hk ⊢
                cases r with
                | nil => exact absurd rfl hk
                | cons x r' =>
                  by_cases h2 : 2 ≤ kindC x
                  · rw [behD_free h2]
                    exact ⟨escC_le2 (by show kindC x ≠ 0; omega), by simp⟩
                  · cases r' with
                    | nil => rw [behD_nil h2] at hk; exact absurd rfl hk
                    | cons y r'' =>
                      rw [behD_hex h2] at hk ⊢
                      split
                      · exact ⟨escC_le3 _ _ _, by simp⟩
                      · rename_i hh
                        rw [if_neg hh] at hk
                        exact absurd rfl hk
              · by_cases hb : kindC a = 0 ∨ needC a f r.isEmpty = true
                · have e1 : oneD f (a :: r) = (0, 0) := by simp only [oneD]; rw [if_neg h92, if_pos hb]
                  rw [e1] at hk
                  exact absurd rfl hk
                · have e1 : oneD f (a :: r) = (a, 1) := by simp only [oneD]; rw [if_neg h92, if_neg hb]
                  rw [e1] at hv ⊢
                  have he : v'.isEmpty = r.isEmpty := by
                    simp only [List.drop_succ_cons, List.drop_zero] at hv
                    cases r with
                    | nil => rw [valN_of_nil hv]
                    | cons x y =>
                      cases v' with
                      | nil => exact absurd (valN_empty hv) (by simp)
                      | cons p q => rfl
                  rw [he]
                  refine ⟨?_, by simp⟩
                  have := escC_one (f := f) (l := r.isEmpty) (c := a) (fun e => hb (.inl e)) (fun e => hb (.inr e))
                  show (escC f r.isEmpty a).length ≤ 1
                  omega
          simp only [escR, List.length_append]
          omega
theorem cut_len : ∀ (s : List UInt8), (cutD s).1.length + (if (cutD s).2.2 = true then 1 + (cutD s).2.1.length else 0) ≤ s.length := by
  intro s
  induction s using cutD.induct with
  | case1 => simp [cutD]
  | case2 c r h => rw [cutD_com h]; simp; omega
  | case3 c h1 h2 => 
    have e : c = 92 := UInt8.toNat_inj.1 h2
    subst e
    simp [cutD]
  | case4 c h1 h2 x r ih =>
    have e : c = 92 := UInt8.toNat_inj.1 h2
    subst e
    rw [cutD_two]
    simp only [List.length_cons]
    split at ih <;> rename_i hh <;> simp only [hh, if_true, Bool.false_eq_true, if_false] at ih ⊢ <;> omega
  | case5 c r h1 h2 ih =>
    rw [cutD_one ⟨h1, h2⟩]
    simp only [List.length_cons]
    split at ih <;> rename_i hh <;> simp only [hh, if_true, Bool.false_eq_true, if_false] at ih ⊢ <;> omega
theorem rdn_len {s : List UInt8} {r : R} (h : rdnD s = some r) : (textR r).length ≤ s.length := by
  unfold rdnD at h
  split at h
  · split at h
    · rename_i v hv
      split at h
      · rename_i h2
        cases h
        have h3 := val_len _ _ _ _ hv
        have h4 : (nameD s).length + (s.dropWhile (· ≠ 61)).length = s.length := by
          have := congrArg List.length (List.takeWhile_append_dropWhile (p := (· ≠ (61 : UInt8))) (l := s))
          rw [List.length_append] at this
          exact this
        have h5 : afterD s ≠ [] := by
          intro e
          rw [e] at hv
          exact h2.1 (valN_of_nil hv)
        have h6 : (afterD s).length + 1 = (s.dropWhile (· ≠ 61)).length := by
          unfold afterD at h5 ⊢
          rw [List.length_drop]
          cases hd : s.dropWhile (· ≠ 61) with
          | nil => rw [hd] at h5; exact absurd rfl h5
          | cons a b => simp
        unfold textR escV
        simp only [List.length_append, List.length_cons]
        omega
      · cases h
    · cases h
  · cases h
theorem par_len : ∀ (k : Nat) (s : List UInt8) (l : List R), parN k s = some l → (textD l).length ≤ s.length
  | 0, s, l, h => by cases h
  | k + 1, s, l, h => by
    unfold parN at h
    split at h
    · cases h
    · rename_i r hr
      have hl := rdn_len hr
      have hc := cut_len s
      split at h
      · rename_i hm
        rw [if_pos hm] at hc
        cases hp : parN k (cutD s).2.1 with
        | none => rw [hp] at h; cases h
        | some l' =>
          rw [hp] at h
          simp only [Option.map_some, Option.some.injEq] at h
          subst h
          have ih := par_len k _ _ hp
          have hne := (par_ok k _ _ hp).2.2
          cases l' with
          | nil => exact absurd rfl hne
          | cons x y =>
            rw [text_cons]
            simp only [List.length_append, List.length_cons]
            omega
      · cases h
        show (textR r).length ≤ _
        omega
theorem parse_len {s : List UInt8} {l : List R} (h : parseD s = some l) : (textD l).length ≤ s.length := by
  unfold parseD at h
  split at h
  · cases h; simp [textD]
  · exact par_len 8 s l h

-- a folded value's text is no longer than the value's
def baseC (c : UInt8) : Nat := if kindC c = 0 then 3 else if kindC c = 5 then 2 else 1
def sumB (l : List UInt8) : Nat := (l.map baseC).sum
theorem sumB_app (a b : List UInt8) : sumB (a ++ b) = sumB a + sumB b := by simp [sumB]
theorem sumB_one (c : UInt8) : sumB [c] = baseC c := by simp [sumB]
theorem sumB_cons (c : UInt8) (l : List UInt8) : sumB (c :: l) = baseC c + sumB l := by simp [sumB]
theorem baseC_low (c : UInt8) : baseC (lowC c) = baseC c := by
  have := all_bytes (fun c => baseC (lowC c) == baseC c) (by decide +kernel) c
  simpa using this
theorem kind_spec (c : UInt8) : (kindC c = 4 → c.toNat = 32) ∧ (kindC c = 3 → c.toNat = 35) := by
  have := all_bytes (fun c => (!(kindC c == 4) || decide (c.toNat = 32)) && (!(kindC c == 3) || decide (c.toNat = 35))) (by decide +kernel) c
  simp only [Bool.and_eq_true, Bool.or_eq_true, Bool.not_eq_true', beq_eq_false_iff_ne, decide_eq_true_eq] at this
  exact ⟨fun h => this.1.resolve_left (fun e => e h), fun h => this.2.resolve_left (fun e => e h)⟩
theorem kind_of (c : UInt8) : (c.toNat = 32 → kindC c = 4) ∧ (c.toNat = 35 → kindC c = 3) := by
  have := all_bytes (fun c => (!decide (c.toNat = 32) || kindC c == 4) && (!decide (c.toNat = 35) || kindC c == 3)) (by decide +kernel) c
  simp only [Bool.and_eq_true, Bool.or_eq_true, Bool.not_eq_true', decide_eq_false_iff_not, beq_iff_eq] at this
  exact ⟨fun h => this.1.resolve_left (fun e => e h), fun h => this.2.resolve_left (fun e => e h)⟩
theorem esc_up : ∀ (w : List UInt8) (f : Bool), (∀ y, w.getLast? = some y → y.toNat ≠ 32) → (f = true → ∀ y, w.head? = some y → y.toNat ≠ 32) →
    (escR f w).length ≤ sumB w + (if f = true ∧ (∃ y, w.head? = some y ∧ y.toNat = 35) then 1 else 0)
  | [], f, _, _ => by simp [escR, sumB]
  | c :: r, f, hl, hh => by
    have ih := esc_up r false (fun y hy => by
      cases r with
      | nil => simp at hy
      | cons a b => exact hl y (by rw [List.getLast?_cons_cons]; exact hy)) (fun h => by cases h)
    simp only [Bool.false_eq_true, false_and, if_false, Nat.add_zero] at ih
    have hc : (escC f r.isEmpty c).length ≤ baseC c + (if f = true ∧ c.toNat = 35 then 1 else 0) := by
      by_cases h0 : kindC c = 0
      · rw [escC_zero h0]; unfold baseC; rw [if_pos h0]; omega
      · by_cases hn : needC c f r.isEmpty = true
        · rw [escC_need h0 hn]
          unfold baseC
          rw [if_neg h0]
          unfold needC at hn
          simp only [Bool.or_eq_true, beq_iff_eq, Bool.and_eq_true] at hn
          rcases hn with (h5 | ⟨h3, hf⟩) | ⟨h4, hfl⟩
          · rw [if_pos h5]; omega
          · rw [if_pos (⟨hf, (kind_spec c).2 h3⟩ : f = true ∧ c.toNat = 35)]; split <;> omega
          · exfalso
            have h32 := (kind_spec c).1 h4
            rcases hfl with hf | hlast
            · exact hh hf c rfl h32
            · cases r with
              | nil => exact hl c rfl h32
              | cons a b => simp at hlast
        · rw [escC_one h0 hn]; unfold baseC; rw [if_neg h0]; split <;> omega
    simp only [escR, List.length_append, sumB_cons]
    have e : (f = true ∧ ∃ y, (c :: r).head? = some y ∧ y.toNat = 35) ↔ (f = true ∧ c.toNat = 35) := by simp
    simp only [e]
    omega
theorem esc_low : ∀ (v : List UInt8) (f : Bool), sumB v + (if f = true ∧ (∃ y, v.head? = some y ∧ (y.toNat = 35 ∨ y.toNat = 32)) then 1 else 0) ≤ (escR f v).length
  | [], f => by simp [escR, sumB]
  | c :: r, f => by
    have ih := esc_low r false
    simp only [Bool.false_eq_true, false_and, if_false, Nat.add_zero] at ih
    have hc : baseC c + (if f = true ∧ (c.toNat = 35 ∨ c.toNat = 32) then 1 else 0) ≤ (escC f r.isEmpty c).length := by
      by_cases hx : f = true ∧ (c.toNat = 35 ∨ c.toNat = 32)
      · rw [if_pos hx]
        have hk : (kindC c = 3 ∨ kindC c = 4) := by
          rcases hx.2 with h | h
          · exact .inl ((kind_of c).2 h)
          · exact .inr ((kind_of c).1 h)
        have hn : needC c f r.isEmpty = true := by
          unfold needC
          rw [hx.1]
          rcases hk with h | h <;> simp [h]
        have h0 : kindC c ≠ 0 := by omega
        rw [escC_need h0 hn]
        unfold baseC
        rw [if_neg h0, if_neg (by omega)]
        omega
      · rw [if_neg hx]
        unfold baseC
        by_cases h0 : kindC c = 0
        · rw [if_pos h0, escC_zero h0]; omega
        · rw [if_neg h0]
          by_cases h5 : kindC c = 5
          · rw [if_pos h5, escC_need h0 (by unfold needC; simp [h5])]; omega
          · rw [if_neg h5]; have := escC_ge1 f r.isEmpty c; omega
    simp only [escR, List.length_append, sumB_cons]
    have e : (f = true ∧ ∃ y, (c :: r).head? = some y ∧ (y.toNat = 35 ∨ y.toNat = 32)) ↔ (f = true ∧ (c.toNat = 35 ∨ c.toNat = 32)) := by simp
    simp only [e]
    omega
theorem frun_sum : ∀ l : List UInt8, sumB (frun l).1 + (if (frun l).2 = true then 1 else 0) ≤ sumB l := by
  refine snoc_ind (by simp [frun, sumB]) ?_
  intro l c ih
  rw [frun_snoc, sumB_app, sumB_one]
  by_cases h : c.toNat = 32
  · rw [fstep_blank _ _ h]
    have hb : baseC c = 1 := by unfold baseC; rw [(kind_of c).1 h]; rfl
    rw [hb]
    dsimp only
    split <;> split at ih <;> omega
  · rw [fstep_other _ _ h]
    simp only [sumB_app, sumB_one, baseC_low]
    have : sumB (if (frun l).2 = true then ([32] : List UInt8) else []) = if (frun l).2 = true then 1 else 0 := by
      split
      · rw [sumB_one]; decide
      · rfl
    rw [this]
    simp only [Bool.false_eq_true, if_false]
    omega
theorem frun_first : ∀ l : List UInt8, ∀ y, (frun l).1.head? = some y → y.toNat ≠ 32 := by
  refine snoc_ind (by simp [frun]) ?_
  intro l c ih y hy
  rw [frun_snoc] at hy
  by_cases h : c.toNat = 32
  · rw [fstep_blank _ _ h] at hy
    exact ih y hy
  · rw [fstep_other _ _ h] at hy
    cases ho : (frun l).1 with
    | nil =>
      have hg : (frun l).2 = false := by
        cases hw : (frun l).2 with
        | false => rfl
        | true => exact absurd ho (frun_gap l hw)
      rw [ho, hg] at hy
      simp at hy
      rw [← hy]
      exact fun e => h ((lowC_blank c).1 e)
    | cons a b =>
      rw [ho] at hy
      simp at hy
      exact ih y (by rw [ho]; simpa using hy)
theorem foldl_head : ∀ (r : List UInt8) (st : List UInt8 × Bool) (x : UInt8), st.1.head? = some x → (r.foldl fstep st).1.head? = some x
  | [], _, _, h => h
  | c :: r, st, x, h => by
    rw [List.foldl_cons]
    refine foldl_head r _ x ?_
    unfold fstep
    split
    · exact h
    · cases hs : st.1 with
      | nil => rw [hs] at h; cases h
      | cons a b => rw [hs] at h; simpa using h
theorem fold_head {c : UInt8} {r : List UInt8} (h : c.toNat ≠ 32) : (fold (c :: r)).head? = some (lowC c) := by
  unfold fold frun
  rw [List.foldl_cons]
  refine foldl_head r _ _ ?_
  rw [fstep_other _ _ h]; rfl
theorem esc_fold (v : List UInt8) : (escV (fold v)).length ≤ (escV v).length := by
  have h1 := esc_up (fold v) true (frun_spaced v).2 (fun _ => frun_first v)
  have h2 := esc_low v true
  have h3 := frun_sum v
  have h3' : sumB (fold v) ≤ sumB v := by unfold fold; split at h3 <;> omega
  unfold escV
  by_cases hx : ∃ y, (fold v).head? = some y ∧ y.toNat = 35
  · rw [if_pos ⟨rfl, hx⟩] at h1
    have hv : ∃ y, v.head? = some y ∧ (y.toNat = 35 ∨ y.toNat = 32) := by
      obtain ⟨y, hy, h35⟩ := hx
      cases v with
      | nil => simp [fold, frun] at hy
      | cons c r =>
        refine ⟨c, rfl, ?_⟩
        by_cases h32 : c.toNat = 32
        · exact .inr h32
        · rw [fold_head h32] at hy
          simp only [Option.some.injEq] at hy
          rw [← hy, lowC_toNat] at h35
          split at h35
          · omega
          · exact .inl h35
    rw [if_pos ⟨rfl, hv⟩] at h2
    omega
  · rw [if_neg (fun e => hx e.2)] at h1
    split at h2 <;> omega
theorem text_norm_len : ∀ l : List R, (textD (l.map normR)).length ≤ (textD l).length
  | [] => by simp [textD]
  | [r] => by
    show (textR (normR r)).length ≤ (textR r).length
    have := esc_fold r.2
    unfold textR normR
    simp only [List.length_append, List.length_cons, low_length]
    omega
  | r :: x :: l => by
    have ih := text_norm_len (x :: l)
    have := esc_fold r.2
    rw [List.map_cons, List.map_cons, text_cons, text_cons]
    rw [List.map_cons] at ih
    have e : (textR (normR r)).length ≤ (textR r).length := by
      unfold textR normR
      simp only [List.length_append, List.length_cons, low_length]
      omega
    simp only [List.length_append, List.length_cons]
    omega
theorem normR_norm (r : R) : normR (normR r) = normR r := by simp [normR, low_low, fold_fold]
theorem key_key {v k : List UInt8} (h : keyD v = some k) : keyD k = some k ∧ k.length ≤ v.length := by
  unfold keyD at h
  cases hp : parseD v with
  | none => rw [hp] at h; cases h
  | some l =>
    rw [hp] at h
    simp only at h
    split at h
    · rename_i hf
      cases h
      have hok := parse_ok hp
      have h1 := okL_norm hok hf
      have h2 : (l.map normR).all okF = true := by
        rw [List.all_map]
        have : (okF ∘ normR) = okF := by funext r; simp [okF, normR, fold_fold]
        rw [this]; exact hf
      have h3 := key_text h1 h2
      have h4 : (l.map normR).map normR = l.map normR := by
        rw [List.map_map]
        congr 1
        funext r
        exact normR_norm r
      rw [h4] at h3
      exact ⟨h3, Nat.le_trans (text_norm_len l) (parse_len hp)⟩
    · cases h
end Go.Proofs.YtgaaefcanfglhaaGreatDoor


namespace Go.Proofs.YtgaaefcanfglhaaGreatDoor
open Go.RowKit
set_option linter.unusedVariables false

def keyB (o : Option (List UInt8)) : ByteArray := ofL (o.getD [])
theorem keyV_kB (o : Option (List UInt8)) : keyV o = .tuple #[.string (keyB o), .bool o.isSome] := by cases o <;> rfl
theorem keyB_list (o : Option (List UInt8)) : (keyB o).data.toList = o.getD [] := ofL_list _
theorem keyB_size (D : List UInt8) : (keyB (keyD D)).size ≤ D.length := by
  cases e : keyD D with
  | none => exact Nat.zero_le _
  | some k => exact (by rw [← bytes_len, keyB_list]; exact (key_key e).2)
theorem kE_len (e : ET) : (kE e).length ≤ e.1.length := by
  unfold kE
  cases h : keyD e.1 with
  | none => exact Nat.zero_le _
  | some k => exact (key_key h).2
set_option maxRecDepth 100000 in
set_option maxHeartbeats 2000000 in
theorem treeKey_any (D : ByteArray) (hD : D.size ≤ 100000) (a : Option Addr) (n c : Nat) (w : World) :
    Calls Tryz.prog 9 #[.agg #[.string D, .slice a n c]] w fun e w' => e = .returned (.string (keyB (keyD D.data.toList))) ∧ Below w.heap.size w w' := by
  have hk := fun w => key_any D (by omega) w
  obtain ⟨o, ho⟩ : ∃ o, o = keyD D.data.toList := ⟨_, rfl⟩
  rw [← ho] at hk ⊢
  simp only [keyV_kB] at hk
  obtain ⟨K, hK⟩ : ∃ K, K = keyB o := ⟨_, rfl⟩
  obtain ⟨b, hb⟩ : ∃ b, b = o.isSome := ⟨_, rfl⟩
  rw [← hK, ← hb] at hk
  rw [← hK]
  have HK := Lib.hid hk
  have HA := Lib.hid (Below.alloc (Below.refl w.heap.size w) (Nat.le_refl _) (.cells #[.string D, .slice a n c] 27))
  clear hk hK ho hb
  go_enter Tryz.func9, Tryz.ntmps9
  go_wp2_with (go_at_call 32; refine (HK.out _).mono ?_; rintro e w2 ⟨rfl, hb2⟩; have HB2 := Lib.hid (bthen HA.out hb2); clear hb2)
  go_ret
  exact ⟨rfl, HB2.out⟩

end Go.Proofs.YtgaaefcanfglhaaGreatDoor

