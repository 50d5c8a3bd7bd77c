/- Folded twice is folded, whatever case and blanks: the walk; what awake answers is a hypothesis. -/
import Derived.Test.YtimkobcclkjdeaaDnFold
import Derived.Test.YtimkobcclkjdeaaDnFoldP
namespace Go.Proofs.Ytimkobcclkjdeaa
open Go.RowKit
set_option linter.unusedVariables false

theorem then_ {w a b : World} (h : Below w.heap.size w a) (k : Below a.heap.size a b) : Below w.heap.size w b := h.trans (k.mono h.size)
def blanks (j : Nat) : ByteArray := ⟨(List.replicate j 32).toArray⟩
theorem blanks_list (j : Nat) : (blanks j).data.toList = List.replicate j 32 := by simp [blanks]
theorem blanks_size (j : Nat) : (blanks j).size = j := by rw [← bytes_len, blanks_list, List.length_replicate]
theorem blanks_succ (j : Nat) : blanks j ++ ⟨#[32]⟩ = blanks (j + 1) := bytes_ext (by rw [app_list, blanks_list, blanks_list, List.replicate_succ'])
theorem ofL_list' (l : List UInt8) : (⟨l.toArray⟩ : ByteArray).data.toList = l := by simp
theorem lowB_list (s : ByteArray) : (lowB s).data.toList = low s.data.toList := by simp [lowB]
def ofL (l : List UInt8) : ByteArray := ⟨l.toArray⟩
theorem ofL_list (l : List UInt8) : (ofL l).data.toList = l := by simp [ofL]
theorem ofL_app (a b : List UInt8) : ofL a ++ ofL b = ofL (a ++ b) := bytes_ext (by rw [app_list, ofL_list, ofL_list, ofL_list])

set_option maxRecDepth 100000 in
set_option maxHeartbeats 2000000 in
theorem dnFold_walk (trim : ∀ (B : ByteArray) (w : World), B.size ≤ 9223372036854775807 → Calls Try.prog 35 #[.string B, .string ⟨#[32]⟩] w fun e w' => e = .returned (.string ⟨(Lib.trimSuffix B.data.toList [32]).toArray⟩) ∧ w = w')
    (awake : ∀ w : World, Calls Try.prog 11 #[] w fun e w' => e = .returned (.bool true) ∧ Below w.heap.size w w')
    (s : ByteArray) (n : Nat) (hn : n ≤ 255) (w : World) :
    Calls Try.prog 9 #[.string s, .int .u8 n] w fun e w' => e = .returned (.bool true) ∧ Below w.heap.size w w' := by
  have HA := Lib.hid awake
  clear awake
  by_cases hlen : s.size ≤ 200
  · have hd : decide ((200 : Int) < (s.size : Int)) = false := by simp; omega
    have hf := fun w => fold_any trim s w (by omega)
    have HF := Lib.hid hf
    obtain ⟨F, hF⟩ : ∃ F, F = foldB s := ⟨_, rfl⟩
    rw [← hF] at hf
    have HTr := Lib.hid trim
    have HF := Lib.hid hf
    have HFe := Lib.hid hF
    clear hf hF trim
    go_enter Try.func9, Try.ntmps9
    go_wp2_with (first
      | (go_at_call 17; refine (HF.out _).mono ?_; rintro e w1 ⟨rfl, hb1⟩; have HB1 := Lib.hid hb1; clear hb1))
    go_loop [6, 7] (fun g i => ∃ j : Nat, j ≤ n % 4 ∧ i = .int .i64 j ∧ g = .string (blanks j)) (fun _ i => n % 4 - (intOf i).toNat)
    case atStart => exact ⟨0, by omega, rfl, by rfl⟩
    case round =>
      obtain ⟨j, hj, rfl, rfl⟩ := hrel
      by_cases hlt : j < n % 4
      · have t1 : decide ((j : Int) < (n : Int) % 4) = true := by simp; omega
        have hs := blanks_size j
        have h4 : j ≤ 3 := by omega
        have hs2 : (blanks j).size + 1 ≤ 9223372036854775807 := by omega
        go_wp2
        go_round
        case rel => exact ⟨j + 1, by omega, by go_num, by rw [← blanks_succ]⟩
        case measure => simp [intOf]; omega
      · obtain rfl : j = n % 4 := by omega
        have t1 : decide (((n % 4 : Nat) : Int) < (n : Int) % 4) = false := by simp
        have hG4 := blanks_size (n % 4)
        have hGl := blanks_list (n % 4)
        obtain ⟨G, hG⟩ : ∃ G, G = blanks (n % 4) := ⟨_, rfl⟩
        rw [← hG] at hG4 hGl ⊢
        have HGl := Lib.hid hGl
        have hG3 : G.size ≤ 3 := by omega
        clear hG hGl
        go_wp2
        go_loopw [8, 10] (fun x i wr => ∃ j : Nat, j ≤ s.size ∧ i = .int .i64 j ∧ x = .string (ofL (low (nonb (s.data.toList.take j)))) ∧ Below w.heap.size w wr) (fun _ i _ => s.size - (intOf i).toNat)
        case atStart => exact ⟨0, by omega, rfl, by rfl, HB1.out⟩
        case round =>
          obtain ⟨j, hj, rfl, rfl, hbel⟩ := hrel
          have HBel := Lib.hid hbel
          have hbs := hbel.size
          clear hbel
          by_cases hlt : j < s.size
          · have t1 : decide ((j : Int) < (s.size : Int)) = true := by simp; omega
            have hjl : j < s.data.toList.length := by simpa using hlt
            have htk : s.data.toList.take (j + 1) = s.data.toList.take j ++ [s[j]] := by rw [List.take_succ_eq_append_getElem hjl]; rfl
            have h1b := one_byte s j hlt
            have h1s := one_size s j hlt
            have hsz : (ofL (low (nonb (s.data.toList.take j)))).size ≤ j := by
              rw [← bytes_len, ofL_list, low_length]
              exact Nat.le_trans (List.length_filter_le _ _) (List.length_take_le _ _)
            obtain ⟨c, hc⟩ : ∃ c : UInt8, c = s[j] := ⟨_, rfl⟩
            have hc' : s[j]'hlt = c := hc.symm
            rw [← hc] at htk h1b
            have hcl := c.toNat_lt
            have hnew : low (nonb (s.data.toList.take (j + 1))) = low (nonb (s.data.toList.take j)) ++ (if c.toNat = 32 then [] else [lowC c]) := by
              rw [htk, nonb_append, low_append, nonb_one]; split <;> rfl
            obtain ⟨A, hA⟩ : ∃ A, A = low (nonb (s.data.toList.take j)) := ⟨_, rfl⟩
            rw [← hA] at hnew hsz ⊢
            by_cases h32 : c.toNat = 32
            · have t2 : ((c.toNat : Int) == 32) = true := by simp [h32]
              have t3 : ((c.toNat : Int) != 32) = false := by simp [h32]
              rw [if_pos h32, List.append_nil] at hnew
              have HN := Lib.hid hnew
              clear hnew hA hc htk h1b
              go_wp2
              go_roundw
              case rel => exact ⟨j + 1, by omega, by go_num, by rw [HN.out], HBel.out⟩
              case measure => simp [intOf]; omega
            · have t2 : ((c.toNat : Int) == 32) = false := by simp; omega
              have t3 : ((c.toNat : Int) != 32) = true := by simp; omega
              rw [if_neg h32] at hnew
              have HN := Lib.hid hnew
              have hlo := fun w => lowerRef_any (s.extract j (j + 1)) w (by omega)
              have hlb : lowB (s.extract j (j + 1)) = ofL [lowC c] := bytes_ext (by unfold lowB; rw [h1b]; rfl)
              have hos : (ofL [lowC c]).size = 1 := rfl
              rw [hlb] at hlo
              have HLo := Lib.hid hlo
              have hs3 : (ofL A).size + 1 ≤ 9223372036854775807 := by omega
              clear hnew hA hc htk h1b hlo hlb
              go_wp2_with (go_at_call 28; refine (HLo.out _).mono ?_; rintro e w4 ⟨rfl, hb4⟩; have HB4 := Lib.hid hb4; clear hb4)
              go_roundw
              case rel => exact ⟨j + 1, by omega, by go_num, by rw [HN.out, ofL_app], then_ HBel.out HB4.out⟩
              case measure => simp [intOf]; omega
          · obtain rfl : j = s.size := by omega
            have t1 : decide ((s.size : Int) < (s.size : Int)) = false := by simp
            rw [List.take_of_length_le (by simp)]
            have hFl : F.data.toList = fold s.data.toList := by rw [HFe.out]; rfl
            have hFs : F.size ≤ s.size := by rw [← bytes_len, hFl]; have := fold_len s.data.toList; rwa [bytes_len] at this
            have hab : low (nonb s.data.toList) = nonb F.data.toList := by rw [hFl, nonb_fold]
            have hsp := fold_spaced s.data.toList
            rw [← hFl] at hsp
            rw [hab]
            have HFl := Lib.hid hFl
            have HSp := Lib.hid hsp
            clear hab hsp hFl
            go_wp2
            go_loop [9, 11] (fun x i => ∃ j : Nat, j ≤ F.size ∧ i = .int .i64 j ∧ x = .string (ofL (nonb (F.data.toList.take j)))) (fun _ i => F.size - (intOf i).toNat)
            case atStart => exact ⟨0, by omega, rfl, by rfl⟩
            case round =>
              obtain ⟨j, hj, rfl, rfl⟩ := hrel
              by_cases hlt : j < F.size
              · have t1 : decide ((j : Int) < (F.size : Int)) = true := by simp; omega
                have hjl : j < F.data.toList.length := by simpa using hlt
                have htk : F.data.toList.take (j + 1) = F.data.toList.take j ++ [F[j]] := by rw [List.take_succ_eq_append_getElem hjl]; rfl
                have h1b := one_byte F j hlt
                have h1s := one_size F j hlt
                have hsz : (ofL (nonb (F.data.toList.take j))).size ≤ j := by
                  rw [← bytes_len, ofL_list]
                  exact Nat.le_trans (List.length_filter_le _ _) (List.length_take_le _ _)
                have hsp := HSp.out j (F[j]) (by rw [List.getElem?_eq_getElem hjl]; rfl)
                obtain ⟨c, hc⟩ : ∃ c : UInt8, c = F[j] := ⟨_, rfl⟩
                have hc' : F[j]'hlt = c := hc.symm
                rw [← hc] at htk h1b hsp
                have hcl := c.toNat_lt
                have hnew : nonb (F.data.toList.take (j + 1)) = nonb (F.data.toList.take j) ++ (if c.toNat = 32 then [] else [c]) := by
                  rw [htk, nonb_append, nonb_one]
                obtain ⟨A, hA⟩ : ∃ A, A = nonb (F.data.toList.take j) := ⟨_, rfl⟩
                rw [← hA] at hnew hsz ⊢
                by_cases h32 : c.toNat = 32
                · obtain ⟨s1, s2, s3⟩ := hsp h32
                  rw [if_pos h32, List.append_nil] at hnew
                  have HN := Lib.hid hnew
                  obtain ⟨k, rfl⟩ : ∃ k, j = k + 1 := ⟨j - 1, by omega⟩
                  have hkl : k < F.data.toList.length := by omega
                  have hk : k < F.size := by omega
                  have s4 := s3 (F[k]) (by show F.data.toList[k]? = _; rw [List.getElem?_eq_getElem hkl]; rfl)
                  obtain ⟨d, hd2⟩ : ∃ d : UInt8, d = F[k] := ⟨_, rfl⟩
                  have hd' : F[k]'hk = d := hd2.symm
                  rw [← hd2] at s4
                  have hdl := d.toNat_lt
                  have t2 : ((c.toNat : Int) == 32) = true := by simp [h32]
                  have t3 : ((c.toNat : Int) != 32) = false := by simp [h32]
                  have t4 : ((k : Int) + 1 == 0) = false := by simp; omega
                  have t5 : ((k : Int) + 1 == (F.size : Int) - 1) = false := by rw [bytes_len] at s2; simp; omega
                  have t6 : ((d.toNat : Int) == 32) = false := by simp; omega
                  clear hnew hA hc htk h1b hsp s3 hd2
                  go_wp2
                  go_round
                  case rel => exact ⟨k + 1 + 1, by omega, by go_num, by rw [HN.out]⟩
                  case measure => simp [intOf]; omega
                · have t2 : ((c.toNat : Int) == 32) = false := by simp; omega
                  have t3 : ((c.toNat : Int) != 32) = true := by simp; omega
                  rw [if_neg h32] at hnew
                  have HN := Lib.hid hnew
                  have hx : F.extract j (j + 1) = ofL [c] := bytes_ext (by rw [h1b, ofL_list])
                  have hs3 : (ofL A).size + 1 ≤ 9223372036854775807 := by omega
                  have HX := Lib.hid hx
                  clear hnew hA hc htk h1b hsp hx
                  go_wp2
                  go_round
                  case rel => exact ⟨j + 1, by omega, by go_num, by rw [HN.out, HX.out, ofL_app]⟩
                  case measure => simp [intOf]; omega
              · obtain rfl : j = F.size := by omega
                have t1 : decide ((F.size : Int) < (F.size : Int)) = false := by simp
                rw [List.take_of_length_le (by simp)]
                obtain ⟨A, hA⟩ : ∃ A, A = ofL (nonb F.data.toList) := ⟨_, rfl⟩
                rw [← hA]
                have hFF : foldB F = F := bytes_ext (by unfold foldB; rw [ofL_list', HFl.out, fold_fold])
                have hff := fun w => fold_any HTr.out F w (by omega)
                rw [hFF] at hff
                have HFF := Lib.hid hff
                have hls : (lowB s).size = s.size := by rw [← bytes_len, lowB_list, low_length, bytes_len]
                have hlo := fun w => lowerRef_any s w (by omega)
                have hgs : (G ++ lowB s ++ G).size ≤ 300 := by rw [ByteArray.size_append, ByteArray.size_append]; omega
                have hgf : foldB (G ++ lowB s ++ G) = F := bytes_ext (by unfold foldB; rw [ofL_list', app_list, app_list, HGl.out, lowB_list, fold_round, HFl.out])
                have hfg := fun w => fold_any HTr.out (G ++ lowB s ++ G) w (by omega)
                rw [hgf] at hfg
                obtain ⟨B, hB⟩ : ∃ B, B = lowB s := ⟨_, rfl⟩
                rw [← hB] at hlo hfg hgs hls
                have hz1 : G.size + B.size ≤ 9223372036854775807 := by omega
                have hz2 : (G ++ B).size + G.size ≤ 9223372036854775807 := by rw [ByteArray.size_append]; omega
                have hz3 : G.size + B.size + G.size ≤ 9223372036854775807 := by omega
                have HFG := Lib.hid hfg
                have HLo := Lib.hid hlo
                clear hff hfg hlo hB hA hFF hgf
                have tok1 : True := trivial
                go_wp2_with (first
                  | (go_at_call 17; have _t := tok1; refine (HFF.out _).mono ?_; clear _t tok1; rintro e w5 ⟨rfl, hb5⟩; have HB5 := Lib.hid hb5; clear hb5)
                  | (go_at_call 17; refine (HFG.out _).mono ?_; rintro e w6 ⟨rfl, hb6⟩; have HB6 := Lib.hid hb6; clear hb6)
                  | (go_at_call 28; refine (HLo.out _).mono ?_; rintro e w7 ⟨rfl, hb7⟩; have HB7 := Lib.hid hb7; clear hb7)
                  | (go_at_call 11; refine (HA.out _).mono ?_; rintro e w8 ⟨rfl, hb8⟩; have HB8 := Lib.hid hb8; clear hb8))
                go_ret
                exact ⟨rfl, then_ (then_ (then_ (then_ HBel.out HB5.out) HB7.out) HB6.out) HB8.out⟩
  · have hd : decide ((200 : Int) < (s.size : Int)) = true := by simp; omega
    go_enter Try.func9, Try.ntmps9
    go_wp2_with (go_at_call 11; refine (HA.out _).mono ?_; rintro e w2 ⟨rfl, hb2⟩)
    go_ret
    exact ⟨rfl, hb2⟩
end Go.Proofs.Ytimkobcclkjdeaa
