/- Several texts in one file: MaUp, MaAwake, MaCasesW, ScFst, MaDig, ScFstW, RegInv, RegFact, RegTwo, ScNedA. -/
import Derived.Test.YtlimajgmdhhggaaGreatDoorDnLow
import Derived.Test.YtlimajgmdhhggaaGreatDoorOfL
import Derived.Test.YtlimajgmdhhggaaGreatDoorTraP1
import Derived.Test.YtlimajgmdhhggaaGreatDoorTraP2
import Derived.Test.YtlimajgmdhhggaaGreatDoorTraP6
import Derived.Test.YtlimajgmdhhggaaGreatDoorDnOwn
import Derived.Lib.ItoaLen
import Derived.Lib.ItoaMem
import Derived.Deep.CutRange
import Derived.RegionTactic
import Derived.Below
namespace Go.Proofs.YtlimajgmdhhggaaGreatDoor
open Go.RowKit
set_option linter.unusedVariables false
def MapAt (f:UInt8 → UInt8) (w:World) (s:ByteArray) (j:Nat) (wr:World):Prop:=
 Below w.heap.size w wr ∧ ∃ A:Array Value,wr.heap[w.heap.size]? = some (.cells A 5 (A.size,A.size + 1)) ∧ s.size ≤ A.size ∧ ∀ k (h:k < s.size),A[k]? = some (.int .u8 ((if k < j then f s[k] else s[k]).toNat:Int))
theorem MapAt.cell {f:UInt8 → UInt8} {w wr:World} {s:ByteArray} {j:Nat} (h:MapAt f w s j wr) (hj:j < s.size):wr.cell? ⟨w.heap.size,j,none⟩ = some (.int .u8 (s[j].toNat:Int)) ∧ wr.frozen? ⟨w.heap.size,j,none⟩ = false:=by
 obtain ⟨_,A,hA,hs,hc⟩:=h
 have:=hc j hj
 rw [if_neg (by omega)] at this
 refine ⟨by simp only [World.cell?,hA];simpa using this,by simp only [World.frozen?,hA];simp;omega⟩
theorem MapAt.skip {f:UInt8 → UInt8} {w wr:World} {s:ByteArray} {j:Nat} (h:MapAt f w s j wr) (hj:j < s.size) (he:f s[j] = s[j]):MapAt f w s (j + 1) wr:=by
 obtain ⟨hb,A,hA,hs,hc⟩:=h
 refine ⟨hb,A,hA,hs,fun k hk=>?_⟩
 rw [hc k hk]
 by_cases h1:k < j
 ·rw [if_pos h1,if_pos (by omega)]
 ·rw [if_neg h1]
  by_cases h2:k = j
  ·subst h2;rw [if_pos (by omega),he]
  ·rw [if_neg (by omega)]
theorem MapAt.store {f:UInt8 → UInt8} {w wr:World} {s:ByteArray} {j:Nat} (h:MapAt f w s j wr) (hj:j < s.size) (n:Int) (hn:n = ((f s[j]).toNat:Int)):MapAt f w s (j + 1) (wr.setCell ⟨w.heap.size,j,none⟩ (.int .u8 n)):=by
 subst hn
 obtain ⟨hb,A,hA,hs,hc⟩:=h
 refine ⟨hb.setCell (p:=⟨w.heap.size,j,none⟩) (Nat.le_refl _) _,A.setIfInBounds j (.int .u8 (f s[j]).toNat),?_,by simpa using hs,fun k hk=>?_⟩
 ·obtain ⟨hlt,hv⟩:=Array.getElem?_eq_some_iff.1 hA
  show (wr.heap.modify w.heap.size _)[w.heap.size]? = _
  rw [Array.getElem?_eq_getElem (by rw [Array.size_modify];exact hlt),Array.getElem_modify_self,hv]
  simp
 ·rw [Array.getElem?_setIfInBounds]
  by_cases h2:j = k
  ·subst h2;rw [if_pos rfl,if_pos (by omega),if_pos (by omega)]
  ·rw [if_neg h2,hc k hk]
   by_cases h1:k < j
   ·rw [if_pos h1,if_pos (by omega)]
   ·rw [if_neg h1,if_neg (by omega)]
theorem MapAt.conv {f:UInt8 → UInt8} {w wr:World} {s:ByteArray} {cap:Nat} (h:MapAt f w s s.size wr) :
  (convert 43 9 (.slice (some ⟨w.heap.size,0,none⟩) s.size cap)).run Tryz.prog wr = .ok (.string ⟨(s.data.toList.map f).toArray⟩) wr:=by
 obtain ⟨_,A,hA,hs,hc⟩:=h
 have hl:s.size = (s.data.toList.map f).length:=by simp
 conv=>lhs;rw [hl]
 refine run_convert_bytes_back wr 43 9 5 _ cap (s.data.toList.map f) Tryz.underlying43 Tryz.underlying5 Tryz.underlying9 fun j hj=>?_
 have hj':j < s.size:=by rw [hl];exact hj
 have e:((⟨w.heap.size,0,none⟩:Addr).add j) = ⟨w.heap.size,j,none⟩:=by simp [Addr.add];omega
 have:=hc j hj'
 rw [if_pos hj'] at this
 rw [e]
 simp only [World.cell?,hA]
 simp
 exact this
def upC (c:UInt8):UInt8:=if 97 ≤ c.toNat ∧ c.toNat ≤ 122 then UInt8.ofNat (c.toNat - 32) else c
def upL (l:List UInt8):List UInt8:=l.map upC
end Go.Proofs.YtlimajgmdhhggaaGreatDoor
namespace Go.Proofs.YtlimajgmdhhggaaGreatDoor
open Go.RowKit
set_option linter.unusedVariables false
end Go.Proofs.YtlimajgmdhhggaaGreatDoor
namespace Go.Proofs.YtlimajgmdhhggaaGreatDoor
open Go.RowKit
set_option linter.unusedVariables false
end Go.Proofs.YtlimajgmdhhggaaGreatDoor
namespace Go.Proofs.YtlimajgmdhhggaaGreatDoor
open Go.RowKit
set_option linter.unusedVariables false
def codeL:List Int:=[17,19,21,19,20,20]
def badL:List AT:=[([110,111,110,101],[[120]]),([100,101,115,99,114,105,112,116,105,111,110],[]),([117,105,100,110,117,109,98,101,114],[[120]]),([117,105,100,110,117,109,98,101,114],[[49],[50]]),([109,97,105,108],[[97],[65,32]]),([67,78],[[122]])]
def othD:List UInt8:=[99,110,61,111,116,104,101,114]
def pName (d:List UInt8):List UInt8:=112 :: d
def ouA:AT:=([111,117],[[97]])
end Go.Proofs.YtlimajgmdhhggaaGreatDoor
namespace Go.Proofs.YtlimajgmdhhggaaGreatDoor
open Go.RowKit
set_option linter.unusedVariables false
theorem conv_one (m:Int) (b:UInt8) (h:(b.toNat:Int) = m) (w:World):(convert 43 9 (.slice (some ⟨w.heap.size,0,none⟩) 1 1)).run Tryz.prog (w.alloc (.cells #[.int .u8 m] 5)) = .ok (.string (ofL [b])) (w.alloc (.cells #[.int .u8 m] 5)):=by
 subst h
 refine run_convert_bytes_back _ 43 9 5 _ 1 [b] Tryz.underlying43 Tryz.underlying5 Tryz.underlying9 fun j hj=>?_
 have:j = 0:=by simp at hj;omega
 subst this
 simp [Addr.add]
theorem decDigits_big {u:Nat} (h:10 ≤ u):Lib.decDigits u = Lib.decDigits (u / 10) ++ [UInt8.ofNat (48 + u % 10)]:=by rw [Lib.decDigits,dif_neg (by omega)]
theorem digit_val (u:Nat):((UInt8.ofNat (48 + u % 10)).toNat:Int) = 48 + (u:Int) % 10:=by simp;omega
theorem digit_val1 (u:Nat) (h:u < 10):((UInt8.ofNat (48 + u)).toNat:Int) = 48 + (u:Int):=by simp;omega
theorem wrap_u64 (n:Int):IntKind.u64.wrap n = n % 18446744073709551616:=by
 unfold IntKind.wrap
 simp [IntKind.bits,IntKind.signed]
set_option maxRecDepth 100000 in
set_option maxHeartbeats 4000000 in
theorem digitsNat_any (neg:Bool) (N:Nat) (hN:N ≤ 1000000000000000000) (hneg:neg = true → 1 ≤ N) (w:World) :
  Calls Tryz.prog 78 #[.int .i64 (if neg then -(N:Int) else N)] w fun e w'=>e = .returned (.string (ofL (if neg then 45 :: Lib.decDigits N else Lib.decDigits N))) ∧ Below w.heap.size w w':=by
 have hlen:(Lib.decDigits N).length ≤ 21:=by
  have:=Lib.itoa_length_le (N:Int) (by omega) (by omega)
  rw [Lib.itoa_nonneg] at this
  exact this
 obtain ⟨V,hV⟩:∃ V,V = (if neg then -(N:Int) else N):=⟨_,rfl⟩
 rw [← hV]
 obtain ⟨U,hU⟩:∃ U,IntKind.u64.wrap V = U:=⟨_,rfl⟩
 have key:decide (V < 0) = neg ∧ (neg = true → IntKind.u64.wrap (-U) = N) ∧ (neg = false → U = N):=by
  cases neg with
  | false=>
   simp at hV
   refine ⟨by simp;omega,by simp,fun _=>?_⟩
   rw [← hU,hV];simp only [wrap_u64];omega
  | true=>
   simp at hV
   have:=hneg rfl
   refine ⟨by simp;omega,fun _=>?_,by simp⟩
   rw [← hU,hV];simp only [wrap_u64];omega
 obtain ⟨k1,k2,k3⟩:=key
 clear hV
 have HLen:=Lib.hid hlen
 clear hlen
 cases neg with
 | false=>
  have hUN:=k3 rfl
  clear k3 k2 hneg
  subst hUN
  go_enter Tryz.func78,Tryz.ntmps78
  go_wp2
  go_loopw [3,4] (fun u s wr=>∃ (m:Nat) (D:List UInt8),u = .int .u64 m ∧ s = .string (ofL D) ∧ m ≤ 1000000000000000000 ∧ Hid (Lib.decDigits N = Lib.decDigits m ++ D) ∧ D.length ≤ 21 ∧ Below w.heap.size w wr) (fun u _ _=>(intOf u).toNat)
  case atStart=>exact ⟨N,[],rfl,rfl,hN,Lib.hid (by simp),by simp,Below.refl _ _⟩
  case round=>
   obtain ⟨m,D,rfl,rfl,hm,HD,hDl,hbel⟩:=hrel
   have HBel:=Lib.hid hbel
   have hsz:=hbel.size
   clear hbel
   have hs1:=ofL_size D
   by_cases h10:10 ≤ m
   ·have t1:decide ((10:Int) ≤ (m:Int)) = true:=by simp;omega
    have hcv:=conv_one (48 + (m:Int) % 10) (UInt8.ofNat (48 + m % 10)) (digit_val m) wr
    have hnew:Lib.decDigits N = Lib.decDigits (m / 10) ++ (UInt8.ofNat (48 + m % 10) :: D):=by rw [HD.out,decDigits_big h10];simp
    have hl2:(UInt8.ofNat (48 + m % 10) :: D).length ≤ 21:=by have:=HLen.out;rw [hnew] at this;simp at this ⊢;omega
    have HNew:=Lib.hid hnew
    have hs2:=ofL_size [UInt8.ofNat (48 + m % 10)]
    have hap:ofL [UInt8.ofNat (48 + m % 10)] ++ ofL D = ofL (UInt8.ofNat (48 + m % 10) :: D):=ofL_app _ _
    have hs1':(ofL D).size ≤ 21:=by omega
    have hs2':(ofL [UInt8.ofNat (48 + m % 10)]).size ≤ 1:=by rw [hs2];simp
    have HAp:=Lib.hid hap
    clear hnew hs1 hs2 hap
    generalize UInt8.ofNat (48 + m % 10) = b at *
    go_wp2
    go_roundw
    case rel=>exact ⟨m / 10,b :: D,by go_num,by rw [HAp.out],by omega,HNew,hl2,HBel.out.alloc hsz _⟩
    case measure=>simp [intOf];omega
   ·have t1:decide ((10:Int) ≤ (m:Int)) = false:=by simp;omega
    have hcv:=conv_one (48 + (m:Int)) (UInt8.ofNat (48 + m)) (digit_val1 m (by omega)) wr
    have hnew:Lib.decDigits N = UInt8.ofNat (48 + m) :: D:=by rw [HD.out,Lib.decDigits_one (by omega)];rfl
    have hs2:=ofL_size [UInt8.ofNat (48 + m)]
    have hap:ofL [UInt8.ofNat (48 + m)] ++ ofL D = ofL (Lib.decDigits N):=by rw [ofL_app,hnew];rfl
    have hs1':(ofL D).size ≤ 21:=by omega
    have hs2':(ofL [UInt8.ofNat (48 + m)]).size ≤ 1:=by rw [hs2];simp
    have hs3:(ofL (Lib.decDigits N)).size ≤ 21:=by rw [ofL_size];exact HLen.out
    have hs4:(⟨#[45]⟩:ByteArray).size = 1:=rfl
    have hap2:(⟨#[45]⟩:ByteArray) ++ ofL (Lib.decDigits N) = ofL (45 :: Lib.decDigits N):=ofL_app [45] _
    have HAp2:=Lib.hid hap2
    clear hnew hs1 hs2 hap2
    generalize UInt8.ofNat (48 + m) = b at *
    obtain ⟨R,hR⟩:∃ R,R = ofL (Lib.decDigits N):=⟨_,rfl⟩
    rw [← hR] at hap hs3 HAp2
    have HR:=Lib.hid hR
    clear hR
    go_wp2
    go_ret
    exact ⟨by rw [← HR.out];rfl,HBel.out.alloc hsz _⟩
 | true=>
  have hN1:=hneg rfl
  have k2':=k2 rfl
  clear k3 k2 hneg
  go_enter Tryz.func78,Tryz.ntmps78
  go_wp2
  go_loopw [3,4] (fun u s wr=>∃ (m:Nat) (D:List UInt8),u = .int .u64 m ∧ s = .string (ofL D) ∧ m ≤ 1000000000000000000 ∧ Hid (Lib.decDigits N = Lib.decDigits m ++ D) ∧ D.length ≤ 21 ∧ Below w.heap.size w wr) (fun u _ _=>(intOf u).toNat)
  case atStart=>exact ⟨N,[],rfl,rfl,hN,Lib.hid (by simp),by simp,Below.refl _ _⟩
  case round=>
   obtain ⟨m,D,rfl,rfl,hm,HD,hDl,hbel⟩:=hrel
   have HBel:=Lib.hid hbel
   have hsz:=hbel.size
   clear hbel
   have hs1:=ofL_size D
   by_cases h10:10 ≤ m
   ·have t1:decide ((10:Int) ≤ (m:Int)) = true:=by simp;omega
    have hcv:=conv_one (48 + (m:Int) % 10) (UInt8.ofNat (48 + m % 10)) (digit_val m) wr
    have hnew:Lib.decDigits N = Lib.decDigits (m / 10) ++ (UInt8.ofNat (48 + m % 10) :: D):=by rw [HD.out,decDigits_big h10];simp
    have hl2:(UInt8.ofNat (48 + m % 10) :: D).length ≤ 21:=by have:=HLen.out;rw [hnew] at this;simp at this ⊢;omega
    have HNew:=Lib.hid hnew
    have hs2:=ofL_size [UInt8.ofNat (48 + m % 10)]
    have hap:ofL [UInt8.ofNat (48 + m % 10)] ++ ofL D = ofL (UInt8.ofNat (48 + m % 10) :: D):=ofL_app _ _
    have hs1':(ofL D).size ≤ 21:=by omega
    have hs2':(ofL [UInt8.ofNat (48 + m % 10)]).size ≤ 1:=by rw [hs2];simp
    have HAp:=Lib.hid hap
    clear hnew hs1 hs2 hap
    generalize UInt8.ofNat (48 + m % 10) = b at *
    go_wp2
    go_roundw
    case rel=>exact ⟨m / 10,b :: D,by go_num,by rw [HAp.out],by omega,HNew,hl2,HBel.out.alloc hsz _⟩
    case measure=>simp [intOf];omega
   ·have t1:decide ((10:Int) ≤ (m:Int)) = false:=by simp;omega
    have hcv:=conv_one (48 + (m:Int)) (UInt8.ofNat (48 + m)) (digit_val1 m (by omega)) wr
    have hnew:Lib.decDigits N = UInt8.ofNat (48 + m) :: D:=by rw [HD.out,Lib.decDigits_one (by omega)];rfl
    have hs2:=ofL_size [UInt8.ofNat (48 + m)]
    have hap:ofL [UInt8.ofNat (48 + m)] ++ ofL D = ofL (Lib.decDigits N):=by rw [ofL_app,hnew];rfl
    have hs1':(ofL D).size ≤ 21:=by omega
    have hs2':(ofL [UInt8.ofNat (48 + m)]).size ≤ 1:=by rw [hs2];simp
    have hs3:(ofL (Lib.decDigits N)).size ≤ 21:=by rw [ofL_size];exact HLen.out
    have hs4:(⟨#[45]⟩:ByteArray).size = 1:=rfl
    have hap2:(⟨#[45]⟩:ByteArray) ++ ofL (Lib.decDigits N) = ofL (45 :: Lib.decDigits N):=ofL_app [45] _
    have HAp2:=Lib.hid hap2
    clear hnew hs1 hs2 hap2
    generalize UInt8.ofNat (48 + m) = b at *
    obtain ⟨R,hR⟩:∃ R,R = ofL (Lib.decDigits N):=⟨_,rfl⟩
    rw [← hR] at hap hs3 HAp2
    have HR:=Lib.hid hR
    clear hR
    go_wp2
    go_ret
    exact ⟨by rw [HAp2.out];rfl,HBel.out.alloc hsz _⟩
theorem digits_any (n:Int) (h0:-1000000000000000000 ≤ n) (h1:n ≤ 1000000000000000000) (w:World) :
  Calls Tryz.prog 78 #[.int .i64 n] w fun e w'=>e = .returned (.string (ofL (Lib.itoa n))) ∧ Below w.heap.size w w':=by
 by_cases h:n < 0
 ·have:=digitsNat_any true n.natAbs (by omega) (by intro _;omega) w
  simp only [if_true] at this
  have e:-(n.natAbs:Int) = n:=by omega
  rw [e] at this
  unfold Lib.itoa
  rw [if_pos h]
  exact this
 ·have:=digitsNat_any false n.toNat (by omega) (by intro h;cases h) w
  simp only [Bool.false_eq_true,if_false] at this
  have e:(n.toNat:Int) = n:=by omega
  rw [e] at this
  unfold Lib.itoa
  rw [if_neg h]
  exact this
end Go.Proofs.YtlimajgmdhhggaaGreatDoor
namespace Go.Proofs.YtlimajgmdhhggaaGreatDoor
open Go.RowKit
set_option linter.unusedVariables false
theorem itoa_short:∀ n:Fin 256,(Lib.itoa (n.1:Int)).length ≤ 3:=by decide +kernel
def bA (k:Nat):AT:=badL.getD k ([],[])
def bT (k:Nat):ByteArray:=ofL (bA k).1
def cK (k:Nat):Int:=codeL.getD k 0
def bV (h:Nat) (k:Nat):Value:=[.slice (some ⟨h + 1,0,none⟩) 1 1,.slice none 0 0,.slice (some ⟨h + 2,0,none⟩) 1 1,.slice (some ⟨h + 3,0,none⟩) 2 2,.slice (some ⟨h + 4,0,none⟩) 2 2,.slice (some ⟨h + 5,0,none⟩) 1 1].getD k .nilIface
structure FstAt (h:Nat) (W:World) (E:ByteArray) (u:Value):Prop where
 box:BoxN W h E u
 b1:W.heap[h + 1]? = some (.cells #[.string ⟨#[120]⟩] 9 (0,0))
 b2:W.heap[h + 2]? = some (.cells #[.string ⟨#[120]⟩] 9 (0,0))
 b3:W.heap[h + 3]? = some (.cells #[.string ⟨#[49]⟩,.string ⟨#[50]⟩] 9 (0,0))
 b4:W.heap[h + 4]? = some (.cells #[.string ⟨#[97]⟩,.string ⟨#[65,32]⟩] 9 (0,0))
 b5:W.heap[h + 5]? = some (.cells #[.string ⟨#[122]⟩] 9 (0,0))
 b6:W.heap[h + 6]? = some (.cells #[.string ⟨#[110,111,110,101]⟩,.slice (some ⟨h + 1,0,none⟩) 1 1,.string ⟨#[100,101,115,99,114,105,112,116,105,111,110]⟩,.slice none 0 0,.string ⟨#[117,105,100,110,117,109,98,101,114]⟩,.slice (some ⟨h + 2,0,none⟩) 1 1,.string ⟨#[117,105,100,110,117,109,98,101,114]⟩,.slice (some ⟨h + 3,0,none⟩) 2 2,.string ⟨#[109,97,105,108]⟩,.slice (some ⟨h + 4,0,none⟩) 2 2,.string ⟨#[67,78]⟩,.slice (some ⟨h + 5,0,none⟩) 1 1] 54 (0,0))
 b7:W.heap[h + 7]? = some (.cells #[.int .i64 17,.int .i64 19,.int .i64 21,.int .i64 19,.int .i64 20,.int .i64 20] 3 (0,0))
 size:W.heap.size = h + 8
def XAt (W7:World) (E:ByteArray) (L:List AT) (wx:World) (b:Nat) (u:Value):Prop:=W7.heap.size ≤ b ∧ b < wx.heap.size ∧ BoxN wx b E u ∧ IsA wx.heap.size wx L u ∧ Below W7.heap.size W7 wx
theorem XAt.drew {W7 wx:World} {E:ByteArray} {L:List AT} {b:Nat} {u:Value} (h:XAt W7 E L wx b u):XAt W7 E L wx.drew b u:=⟨h.1,h.2.1,h.2.2.1,h.2.2.2.1,h.2.2.2.2.drew⟩
theorem XAt.from {W7 wx:World} {E:ByteArray} {L:List AT} {b:Nat} {u:Value} (h:XAt W7.drew E L wx b u):XAt W7 E L wx b u:=⟨h.1,h.2.1,h.2.2.1,h.2.2.2.1,(Below.refl W7.heap.size W7).drew.trans h.2.2.2.2⟩
def At9 (w9 w:World):Prop:=Below w9.heap.size w9 w
theorem At9.go {w9 w w':World} (h:At9 w9 w) (hb:Below w.heap.size w w'):At9 w9 w':=bthen h hb
theorem At9.mono {w9 w:World} (h:At9 w9 w) {n:Nat} (hn:n ≤ w9.heap.size):Below n w9 w:=Below.mono h hn
theorem At9.size {w9 w:World} (h:At9 w9 w):w9.heap.size ≤ w.heap.size:=Below.size h
theorem At9.cell {w9 w:World} (h:At9 w9 w) {p:Addr} (hp:p.block < w9.heap.size):w.cell? p = w9.cell? p:=Below.cell h hp
abbrev C6 (N1 N2 N3:ByteArray) (v1 v2 v3:Value):Obj:=.cells #[.string N1,v1,.string N2,v2,.string N3,v3] 54
abbrev C8 (g q:Nat):Array Value:=#[.string ⟨#[99,110]⟩,.slice (some ⟨g - 3,0,none⟩) 1 1,.string ⟨#[111,98,106,101,99,116,99,108,97,115,115]⟩,.slice (some ⟨g - 2,0,none⟩) 1 1,.string ⟨#[115,110]⟩,.slice (some ⟨g - 1,0,none⟩) 1 1,.string ⟨#[111,117]⟩,.slice (some ⟨q,0,none⟩) 1 1]
end Go.Proofs.YtlimajgmdhhggaaGreatDoor
namespace Go.Proofs.YtlimajgmdhhggaaGreatDoor
set_option linter.unusedVariables false
section
variable {P:Program} {ops:Array Oper} {Q:Exit → Act → World → Prop} {md:Region.Mode}
def toCome (l:Array Bool):Nat:=l.toList.count false
theorem toCome_some {l:Array Bool} {i:Nat} (h:l.getD i true = false):∃ hi:i < l.size,l[i] = false:=by
 rcases Nat.lt_or_ge i l.size with hi | hi
 ·refine ⟨hi,?_⟩
  simpa [hi] using h
 ·simp [Array.getElem?_eq_none hi] at h
theorem toCome_set {l:Array Bool} {i:Nat} (h:l.getD i true = false):toCome (l.setIfInBounds i true) + 1 = toCome l:=by
 obtain ⟨hi,he⟩:=toCome_some h
 unfold toCome
 have hi':i < l.toList.length:=by simpa using hi
 have he':l.toList[i] = false:=by simpa using he
 have hpos:0 < l.toList.count false:=List.count_pos_iff.2 (by rw [← he'];exact List.getElem_mem hi')
 rw [Array.toList_setIfInBounds,List.count_set hi',he']
 rw [if_pos (by rfl),if_neg (by decide)]
 omega
theorem toCome_none {l:Array Bool} (h:toCome l = 0) {i:Nat}:l.getD i true ≠ false:=fun hf=>by
 have:=toCome_set hf
 omega
theorem wpAny_inv (Inv:Array Bool → Act → World → Prop)
  (hstep:∀ listed a w,Inv listed a w → ∀ i ∈ Region.ready md ops listed,wpOp P ops Q i (Inv (listed.setIfInBounds i true)) a w)
  (hend:∀ listed a w,Inv listed a w → Region.ready md ops listed = [] → Q .normal a w) :
  ∀ (fuel:Nat) (listed:Array Bool) (a:Act) (w:World),toCome listed ≤ fuel → Inv listed a w → wpAny P md ops Q fuel listed a w
 | 0,listed,a,w,hf,hI=>by
  have hr:Region.ready md ops listed = []:=by
   cases hc:Region.ready md ops listed with
   | nil=>rfl
   | cons j rs=>exact absurd (mem_ready.1 (hc ▸ List.mem_cons_self:j ∈ Region.ready md ops listed)).1 (toCome_none (by omega))
  exact ⟨hr,hend _ _ _ hI hr⟩
 | fuel + 1,listed,a,w,hf,hI=>by
  refine ⟨fun hr=>hend _ _ _ hI hr,fun i hi=>wpOp_mono (fun a' w' h=>?_) (hstep _ _ _ hI i hi)⟩
  have:=toCome_set (mem_ready.1 hi).1
  exact wpAny_inv Inv hstep hend fuel _ a' w' (by omega) h
theorem all_come {listed:Array Bool} (hb:∀ (i:Nat) (o:Oper),ops[i]? = some o → ∀ e ∈ o.after,e.on < i) (hs:listed.size = ops.size) (hr:Region.ready md ops listed = []) :
  ∀ (n i:Nat),i < n → i < ops.size → listed.getD i false = true
 | 0,i,h,_=>by omega
 | n + 1,i,h,hi=>by
  have ih:=all_come hb hs hr n
  cases hc:listed.getD i false with
  | true=>rfl
  | false=>
   exfalso
   have hm:i ∈ Region.ready md ops listed:=by
    refine mem_ready.2 ⟨?_,ops[i],Array.getElem?_eq_getElem hi,fun e he _=>?_⟩
    ·have hi':i < listed.size:=by omega
     simpa [hi'] using hc
    ·have:=hb i _ (Array.getElem?_eq_getElem hi) e he
     exact ih e.on (by omega) (by omega)
   rw [hr] at hm
   cases hm
theorem region_inv {id:Nat} {a:Act} {w:World} (hm:P.follows .mixedOrders = true) (Inv:Array Bool → Act → World → Prop)
  (h0:Inv (Array.replicate ops.size false) a { w with drawn:=w.drawn + 1 })
  (hb:∀ (i:Nat) (o:Oper),ops[i]? = some o → ∀ e ∈ o.after,e.on < i)
  (hsize:∀ listed a w,Inv listed a w → listed.size = ops.size)
  (hstep:∀ listed a w,Inv listed a w → ∀ (i:Nat) (o:Oper),ops[i]? = some o → listed.getD i true = false → (∀ e ∈ o.after,Region.binds .any e = true → listed.getD e.on false = true) →
   wpOp P ops Q i (Inv (listed.setIfInBounds i true)) a w)
  (hend:∀ listed a w,Inv listed a w → (∀ i,i < ops.size → listed.getD i false = true) → Q .normal a w):(Code.region id ops true).wp P Q a w:=by
 refine wp_region_any hm (wpAny_inv Inv (fun listed a w hI i hi=>?_) (fun listed a w hI hr=>?_) _ _ _ _ ?_ h0)
 ·obtain ⟨h1,o,h2,h3⟩:=mem_ready.1 hi
  exact hstep listed a w hI i o h2 h1 h3
 ·exact hend listed a w hI fun i hi=>all_come hb (hsize _ _ _ hI) hr (i + 1) i (by omega) hi
 ·unfold toCome
  refine Nat.le_trans List.count_le_length ?_
  simp
end
end Go.Proofs.YtlimajgmdhhggaaGreatDoor
namespace Go.Proofs.YtlimajgmdhhggaaGreatDoor
set_option linter.unusedVariables false
section
variable {P:Program} {ops:Array Oper} {Q:Exit → Act → World → Prop}
def Came (listed:Array Bool) (o:Oper):Prop:=∀ e ∈ o.after,Region.binds .any e = true → listed.getD e.on false = true
structure Kept (ops:Array Oper) (F:Nat → Value → World → Prop) (G:World → World → Prop) (a0:Act) (w0:World) (listed:Array Bool) (a:Act) (w:World):Prop where
 size:listed.size = ops.size
 shut:∀ (i:Nat) (o:Oper),ops[i]? = some o → listed.getD i false = true → Came listed o
 defers:a.defers = a0.defers
 slots:a.tmps.size = a0.tmps.size
 grown:G w0 w
 other:∀ t,(∀ (i:Nat) (o:Oper),ops[i]? = some o → o.dst ≠ some t) → a.tmps[t]? = a0.tmps[t]?
 fact:∀ (i:Nat) (o:Oper) (d:Tmp),ops[i]? = some o → o.dst = some d → listed.getD i false = true → ∃ v,a.tmps[d]? = some v ∧ F i v w
theorem came_more {listed:Array Bool} {i:Nat} {o:Oper} (h:Came listed o):Came (listed.setIfInBounds i true) o:=fun e he hb=>getD_set_true (h e he hb)
theorem getD_set_self {listed:Array Bool} {i:Nat} (h:i < listed.size):(listed.setIfInBounds i true).getD i false = true:=by simp [h]
theorem Kept.more {F:Nat → Value → World → Prop} {G:World → World → Prop} {a0 a:Act} {w0 w w':World} {listed:Array Bool} (hk:Kept ops F G a0 w0 listed a w) {i:Nat} {o:Oper} {d:Tmp} {v:Value}
  (hF:∀ i v w w',F i v w → G w w' → F i v w') (hG:∀ w w' w'',G w w' → G w' w'' → G w w'')
  (hd:∀ (i j:Nat) (o o':Oper) (d:Tmp),ops[i]? = some o → ops[j]? = some o' → o.dst = some d → o'.dst = some d → i = j)
  (hin:∀ (i:Nat) (o:Oper) (d:Tmp),ops[i]? = some o → o.dst = some d → d < a0.tmps.size)
  (ho:ops[i]? = some o) (hod:o.dst = some d) (hc:Came listed o) (hg:G w w') (hv:F i v w'):Kept ops F G a0 w0 (listed.setIfInBounds i true) (a.put (some d) v) w':=by
 have hi:i < listed.size:=by rw [hk.size];exact (Array.getElem?_eq_some_iff.1 ho).1
 refine ⟨by simp [hk.size],fun j o' ho' hl=>?_,hk.defers,by simp [Act.put,hk.slots],hG _ _ _ hk.grown hg,fun t ht=>?_,fun j o' d' ho' hd' hl=>?_⟩
 ·by_cases hij:i = j
  ·subst hij
   rw [ho] at ho';cases ho'
   exact came_more hc
  ·rw [getD_set_ne false hij] at hl
   exact came_more (hk.shut j o' ho' hl)
 ·have:d ≠ t:=fun h=>ht i o ho (by rw [hod,h])
  simp only [Act.put]
  rw [Array.getElem?_setIfInBounds_ne this]
  exact hk.other t ht
 ·by_cases hij:i = j
  ·subst hij
   rw [ho] at ho';cases ho'
   rw [hod] at hd';cases hd'
   refine ⟨v,?_,hv⟩
   have:d < a.tmps.size:=by rw [hk.slots];exact hin i o d ho hod
   simp [Act.put,this]
  ·rw [getD_set_ne false hij] at hl
   obtain ⟨u,hu,hf⟩:=hk.fact j o' d' ho' hd' hl
   have:d ≠ d':=fun h=>hij (hd i j o o' d ho ho' hod (by rw [hd',h]))
   refine ⟨u,?_,hF _ _ _ _ hf hg⟩
   simp only [Act.put]
   rw [Array.getElem?_setIfInBounds_ne this]
   exact hu
theorem rest_came {listed:Array Bool} (hs:∀ (i:Nat) (o:Oper),ops[i]? = some o → listed.getD i false = true → Came listed o)
  (hw:∀ i,i + 1 < ops.size → ∃ (j:Nat) (o:Oper),i < j ∧ ops[j]? = some o ∧ ∃ e ∈ o.after,Region.binds .any e = true ∧ e.on = i)
  {l:Oper} (hl:ops[ops.size - 1]? = some l) (hc:Came listed l):∀ (n i:Nat),ops.size ≤ i + 1 + n → i + 1 < ops.size → listed.getD i false = true
 | 0,i,h,hi=>by omega
 | n + 1,i,h,hi=>by
  obtain ⟨j,o,hij,ho,e,he,hb,rfl⟩:=hw i hi
  have hj:j < ops.size:=(Array.getElem?_eq_some_iff.1 ho).1
  by_cases hlast:j = ops.size - 1
  ·subst hlast
   rw [ho] at hl;cases hl
   exact hc e he hb
  ·exact hs j o ho (rest_came hs hw hl hc n j (by omega) (by omega)) e he hb
theorem region_facts {id:Nat} {a0:Act} {w0:World} (hm:P.follows .mixedOrders = true) (F:Nat → Value → World → Prop) (G:World → World → Prop)
  (hF:∀ i v w w',F i v w → G w w' → F i v w') (hG:∀ w w' w'',G w w' → G w' w'' → G w w'') (h0:G w0 { w0 with drawn:=w0.drawn + 1 })
  (hb:∀ (i:Nat) (o:Oper),ops[i]? = some o → ∀ e ∈ o.after,e.on < i)
  (hd:∀ (i j:Nat) (o o':Oper) (d:Tmp),ops[i]? = some o → ops[j]? = some o' → o.dst = some d → o'.dst = some d → i = j)
  (hin:∀ (i:Nat) (o:Oper) (d:Tmp),ops[i]? = some o → o.dst = some d → d < a0.tmps.size)
  (hw:∀ i,i + 1 < ops.size → ∃ (j:Nat) (o:Oper),i < j ∧ ops[j]? = some o ∧ ∃ e ∈ o.after,Region.binds .any e = true ∧ e.on = i)
  {l:Oper} (hl:ops[ops.size - 1]? = some l)
  (hstep:∀ listed a w,Kept ops F G a0 w0 listed a w → ∀ (i:Nat) (o:Oper),ops[i]? = some o → i + 1 < ops.size → Came listed o →
   wpOp P ops Q i (fun a' w'=>∃ d v,o.dst = some d ∧ a' = a.put (some d) v ∧ G w w' ∧ F i v w') a w)
  (hlast:∀ listed a w,Kept ops F G a0 w0 listed a w → (∀ i,i + 1 < ops.size → listed.getD i false = true) → wpOp P ops Q (ops.size - 1) (fun a' w'=>Q .normal a' w') a w) :
  (Code.region id ops true).wp P Q a0 w0:=by
 have hne:0 < ops.size:=by
  have:=(Array.getElem?_eq_some_iff.1 hl).1
  omega
 refine region_inv hm (fun listed a w=>(Kept ops F G a0 w0 listed a w ∧ listed.getD (ops.size - 1) false = false) ∨ (listed.size = ops.size ∧ (∀ i,i < ops.size → listed.getD i false = true) ∧ Q .normal a w)) ?_ hb ?_ ?_ ?_
 ·have hno:∀ i,(Array.replicate ops.size false).getD i false = false:=fun i=>by
   rcases Nat.lt_or_ge i ops.size with h | h <;> simp [h]
  exact .inl ⟨⟨by simp,fun i o _ h=>(by rw [hno] at h;cases h),rfl,rfl,h0,fun _ _=>rfl,fun i o d _ _ h=>(by rw [hno] at h;cases h)⟩,hno _⟩
 ·rintro listed a w (⟨h,_⟩ | ⟨h,_⟩)
  ·exact h.size
  ·exact h
 ·rintro listed a w (⟨hk,hn⟩ | ⟨hs,ha,_⟩) i o ho hi hc
  ·have hio:i < ops.size:=(Array.getElem?_eq_some_iff.1 ho).1
   by_cases hlst:i = ops.size - 1
   ·subst hlst
    rw [ho] at hl;cases hl
    have hall:=fun j=>rest_came hk.shut hw ho hc ops.size j (by omega)
    refine wpOp_mono (fun a' w' hq=>.inr ⟨by simp [hk.size],fun j hj=>?_,hq⟩) (hlast listed a w hk hall)
    by_cases hjl:j = ops.size - 1
    ·subst hjl;exact getD_set_self (by rw [hk.size];exact hio)
    ·exact getD_set_true (hall j (by omega))
   ·refine wpOp_mono (fun a' w' hq=>?_) (hstep listed a w hk i o ho (by omega) hc)
    obtain ⟨d,v,hod,rfl,hg,hv⟩:=hq
    exact .inl ⟨hk.more hF hG hd hin ho hod hc hg hv,by rw [getD_set_ne false hlst];exact hn⟩
  ·exfalso
   have hio:i < ops.size:=(Array.getElem?_eq_some_iff.1 ho).1
   have:=ha i hio
   have hi':i < listed.size:=by omega
   simp [hi'] at this hi
   rw [this] at hi;cases hi
 ·rintro listed a w (⟨hk,hn⟩ | ⟨_,_,hq⟩) ha
  ·rw [ha _ (by omega)] at hn;cases hn
  ·exact hq
def regOk (ops:Array Oper) (n:Nat):Bool:=(List.range ops.size).all fun i=>match ops[i]? with
 | none=>true
 | some o=>(o.after.all fun e=>decide (e.on < i)) && (match o.dst with
   | none=>true
   | some d=>decide (d < n) && (List.range ops.size).all fun j=>match ops[j]? with
    | none=>true
    | some o'=>decide (o'.dst ≠ some d) || decide (i = j)) &&
  (decide (ops.size ≤ i + 1) || (List.range ops.size).any fun j=>match ops[j]? with
    | none=>false
    | some o'=>decide (i < j) && o'.after.any fun e=>Region.binds .any e && decide (e.on = i))
theorem regOk_at {n:Nat} (h:regOk ops n = true) {i:Nat} {o:Oper} (ho:ops[i]? = some o) :
  (∀ e ∈ o.after,e.on < i) ∧ (∀ d,o.dst = some d → d < n ∧ ∀ (j:Nat) (o':Oper),ops[j]? = some o' → o'.dst = some d → i = j) ∧
   (i + 1 < ops.size → ∃ (j:Nat) (o':Oper),i < j ∧ ops[j]? = some o' ∧ ∃ e ∈ o'.after,Region.binds .any e = true ∧ e.on = i):=by
 have hi:i < ops.size:=(Array.getElem?_eq_some_iff.1 ho).1
 have h1:=List.all_eq_true.1 h i (List.mem_range.2 hi)
 rw [ho] at h1
 simp only [Bool.and_eq_true,Bool.or_eq_true,decide_eq_true_eq] at h1
 obtain ⟨⟨ha,hb⟩,hc⟩:=h1
 refine ⟨fun e he=>?_,fun d hd=>?_,fun hlt=>?_⟩
 ·have:=Array.all_eq_true_iff_forall_mem.1 ha e he
  simpa using this
 ·rw [hd] at hb
  simp only [Bool.and_eq_true,decide_eq_true_eq] at hb
  refine ⟨hb.1,fun j o' ho' hd'=>?_⟩
  have h2:=List.all_eq_true.1 hb.2 j (List.mem_range.2 (Array.getElem?_eq_some_iff.1 ho').1)
  rw [ho'] at h2
  simp only [Bool.or_eq_true,decide_eq_true_eq] at h2
  rcases h2 with h2 | h2
  ·exact absurd hd' h2
  ·exact h2
 ·rcases hc with hc | hc
  ·omega
  ·obtain ⟨j,_,hj⟩:=List.any_eq_true.1 hc
   cases ho':ops[j]? with
   | none=>rw [ho'] at hj;cases hj
   | some o'=>
    rw [ho'] at hj
    simp only [Bool.and_eq_true,decide_eq_true_eq] at hj
    obtain ⟨e,he,hbe⟩:=Array.any_eq_true'.1 hj.2
    simp only [Bool.and_eq_true,decide_eq_true_eq] at hbe
    exact ⟨j,o',hj.1,ho',e,he,hbe.1,hbe.2⟩
theorem region_factsB {id:Nat} {a0:Act} {w0:World} (hm:P.follows .mixedOrders = true) (F:Nat → Value → World → Prop) (G:World → World → Prop)
  (hF:∀ i v w w',F i v w → G w w' → F i v w') (hG:∀ w w' w'',G w w' → G w' w'' → G w w'') (h0:G w0 { w0 with drawn:=w0.drawn + 1 })
  (hok:regOk ops a0.tmps.size = true) {l:Oper} (hl:ops[ops.size - 1]? = some l)
  (hstep:∀ listed a w,Kept ops F G a0 w0 listed a w → ∀ (i:Nat) (o:Oper),ops[i]? = some o → i + 1 < ops.size → Came listed o →
   wpOp P ops Q i (fun a' w'=>∃ d v,o.dst = some d ∧ a' = a.put (some d) v ∧ G w w' ∧ F i v w') a w)
  (hlast:∀ listed a w,Kept ops F G a0 w0 listed a w → (∀ i,i + 1 < ops.size → listed.getD i false = true) → wpOp P ops Q (ops.size - 1) (fun a' w'=>Q .normal a' w') a w) :
  (Code.region id ops true).wp P Q a0 w0:=
 region_facts hm F G hF hG h0 (fun i o ho=>(regOk_at hok ho).1) (fun i j o o' d ho ho' hd hd'=>((regOk_at hok ho).2.1 d hd).2 j o' ho' hd') (fun i o d ho hd=>((regOk_at hok ho).2.1 d hd).1)
  (fun i hi=>(regOk_at hok (Array.getElem?_eq_getElem (show i < ops.size by omega))).2.2 hi) hl hstep hlast
theorem wpOp_val {i:Nat} {o:Oper} {a:Act} {w w':World} {v:Value} {K:Act → World → Prop} (ho:ops[i]? = some o) (hg:o.guard = none) (hr:(execOp a.eval o).run P w = .ok (.value v) w') (hk:K (a.put o.dst v) w'):wpOp P ops Q i K a w:=by
 unfold wpOp
 rw [ho]
 show if Region.wanted o (yielded ops a.tmps) = true then _ else _
 rw [if_pos (by unfold Region.wanted;rw [hg])]
 refine .inl ?_
 unfold Oper.wp
 rw [hr]
 exact hk
def noDst (ops:Array Oper) (t:Nat):Bool:=(List.range ops.size).all fun i=>match ops[i]? with
 | none=>true
 | some o=>decide (o.dst ≠ some t)
theorem Kept.read {F:Nat → Value → World → Prop} {G:World → World → Prop} {a0 a:Act} {w0 w:World} {listed:Array Bool} (hk:Kept ops F G a0 w0 listed a w) {t:Nat} {v:Value} (hn:noDst ops t = true) (h:a0.tmps[t]? = some v):a.tmps[t]?.getD undef = v:=by
 have h1:=hk.other t fun i o ho=>by
  have h2:=List.all_eq_true.1 hn i (List.mem_range.2 (Array.getElem?_eq_some_iff.1 ho).1)
  rw [ho] at h2
  simpa using h2
 rw [h1,h]
 rfl
theorem Kept.got {F:Nat → Value → World → Prop} {G:World → World → Prop} {a0 a:Act} {w0 w:World} {listed:Array Bool} (hk:Kept ops F G a0 w0 listed a w) {j:Nat} {o:Oper} {d:Tmp} (ho:ops[j]? = some o) (hd:o.dst = some d) (hl:listed.getD j false = true) :
  ∃ v,a.tmps[d]?.getD undef = v ∧ F j v w:=by
 obtain ⟨v,h,hf⟩:=hk.fact j o d ho hd hl
 refine ⟨v,?_,hf⟩
 rw [h]
 rfl
end
end Go.Proofs.YtlimajgmdhhggaaGreatDoor
namespace Go.Proofs.YtlimajgmdhhggaaGreatDoor
open Go.RowKit
set_option linter.unusedVariables false
section
variable {P:Program} {ops:Array Oper} {Q:Exit → Act → World → Prop}
theorem Kept.more2 {F F':Nat → Value → World → Prop} {G:World → World → Prop} {a0 a:Act} {w0 w w':World} {listed:Array Bool} (hk:Kept ops F G a0 w0 listed a w) {i:Nat} {o:Oper} {d:Tmp} {v:Value}
  (hF:∀ j u,j ≠ i → F j u w → F' j u w') (hgr:G w0 w')
  (hd:∀ (i j:Nat) (o o':Oper) (d:Tmp),ops[i]? = some o → ops[j]? = some o' → o.dst = some d → o'.dst = some d → i = j)
  (hin:∀ (i:Nat) (o:Oper) (d:Tmp),ops[i]? = some o → o.dst = some d → d < a0.tmps.size)
  (ho:ops[i]? = some o) (hod:o.dst = some d) (hc:Came listed o) (hv:F' i v w'):Kept ops F' G a0 w0 (listed.setIfInBounds i true) (a.put (some d) v) w':=by
 have hi:i < listed.size:=by rw [hk.size];exact (Array.getElem?_eq_some_iff.1 ho).1
 refine ⟨by simp [hk.size],fun j o' ho' hl=>?_,hk.defers,by simp [Act.put,hk.slots],hgr,fun t ht=>?_,fun j o' d' ho' hd' hl=>?_⟩
 ·by_cases hij:i = j
  ·subst hij
   rw [ho] at ho';cases ho'
   exact came_more hc
  ·rw [getD_set_ne false hij] at hl
   exact came_more (hk.shut j o' ho' hl)
 ·have:d ≠ t:=fun h=>ht i o ho (by rw [hod,h])
  simp only [Act.put]
  rw [Array.getElem?_setIfInBounds_ne this]
  exact hk.other t ht
 ·by_cases hij:i = j
  ·subst hij
   rw [ho] at ho';cases ho'
   rw [hod] at hd';cases hd'
   refine ⟨v,?_,hv⟩
   have:d < a.tmps.size:=by rw [hk.slots];exact hin i o d ho hod
   simp [Act.put,this]
  ·rw [getD_set_ne false hij] at hl
   obtain ⟨u,hu,hf⟩:=hk.fact j o' d' ho' hd' hl
   have:d ≠ d':=fun h=>hij (hd i j o o' d ho ho' hod (by rw [hd',h]))
   refine ⟨u,?_,hF _ _ (fun h=>hij h.symm) hf⟩
   simp only [Act.put]
   rw [Array.getElem?_setIfInBounds_ne this]
   exact hu
def depOn (ops:Array Oper) (l2 l1:Nat):Bool:=match ops[l2]? with
 | none=>false
 | some o=>o.after.any fun e=>Region.binds .any e && decide (e.on = l1)
def laidT (a:Array Value):List Oper → Array Value → Array Value
 | [],r=>r
 | o :: l,r=>laidT a l (match o.dst with | none=>r | some d=>r.setIfInBounds d (a[d]?.getD undef))
theorem laidT_at (a:Array Value) (t:Nat):∀ (l:List Oper) (r:Array Value),r[t]? = a[t]? ∨ (∃ o ∈ l,o.dst = some t) → a.size = r.size → (laidT a l r)[t]? = a[t]?
 | [],r,h,_=>by
  rcases h with h | ⟨o,ho,_⟩
  ·exact h
  ·simp at ho
 | o :: l,r,h,hs=>by
  rw [laidT]
  cases e:o.dst with
  | none=>
   refine laidT_at a t l r ?_ hs
   rcases h with h | ⟨o',ho',he⟩
   ·exact .inl h
   ·rcases List.mem_cons.1 ho' with rfl | ho'
    ·rw [e] at he;cases he
    ·exact .inr ⟨o',ho',he⟩
  | some d=>
   simp only
   refine laidT_at a t l _ ?_ (by simpa using hs)
   by_cases hdt:d = t
   ·subst hdt
    left
    rcases Nat.lt_or_ge d a.size with hlt | hge
    ·rw [Array.getElem?_setIfInBounds_self_of_lt (by omega),Array.getElem?_eq_getElem hlt]
     rfl
    ·rw [Array.getElem?_eq_none hge,Array.getElem?_eq_none (by simp;omega)]
   ·rcases h with h | ⟨o',ho',he⟩
    ·left
     rw [Array.getElem?_setIfInBounds_ne hdt]
     exact h
    ·rcases List.mem_cons.1 ho' with rfl | ho'
     ·rw [e] at he;cases he;exact absurd rfl hdt
     ·exact .inr ⟨o',ho',he⟩
theorem Kept.frame {F:Nat → Value → World → Prop} {G:World → World → Prop} {a0 a:Act} {w0 w:World} {listed:Array Bool} (hk:Kept ops F G a0 w0 listed a w):a = { a0 with tmps:=laidT a.tmps ops.toList a0.tmps }:=by
 have h1:a.tmps = laidT a.tmps ops.toList a0.tmps:=by
  refine Array.ext_getElem? fun t=>?_
  symm
  refine laidT_at a.tmps t _ _ ?_ hk.slots
  by_cases h:∃ o ∈ ops.toList,o.dst = some t
  ·exact .inr h
  ·left
   refine (hk.other t fun i o ho hd=>h ⟨o,?_,hd⟩).symm
   exact List.mem_of_getElem? (i:=i) (by simpa using ho)
 cases a
 cases a0
 have h2:=hk.defers
 simp only at h1 h2
 simp only [← h1,h2]
def putT (t:Array Value):List Oper → Act → Act
 | [],r=>r
 | o :: l,r=>putT t l (r.put o.dst (match o.dst with | none=>undef | some d=>t[d]?.getD undef))
theorem putT_eq (t:Array Value):∀ (l:List Oper) (r:Act),putT t l r = { r with tmps:=laidT t l r.tmps }
 | [],r=>rfl
 | o :: l,r=>by
  rw [putT,putT_eq t l,laidT]
  cases o.dst <;> rfl
theorem Kept.puts {F:Nat → Value → World → Prop} {G:World → World → Prop} {a0 a:Act} {w0 w:World} {listed:Array Bool} (hk:Kept ops F G a0 w0 listed a w):a = putT a.tmps ops.toList a0:=by
 rw [putT_eq]
 exact hk.frame
end
end Go.Proofs.YtlimajgmdhhggaaGreatDoor
namespace Go.Proofs.YtlimajgmdhhggaaGreatDoor
open Go.RowKit
set_option linter.unusedVariables false
def StrB (w:World) (b:Nat):Prop:=∃ cs fr,w.heap[b]? = some (.cells cs 9 fr)
def SaysM (w:World) (P:List PT) (L:List AT):Prop:=P.length = L.length ∧ ∀ j (h:j < L.length) (h':j < P.length),P[j].1 = L[j].1 ∧ IsTo (StrB w) w L[j].2 P[j].2
def OwnM (B:Nat) (w:World) (v:Value) (L:List AT):Prop:=∃ P,RowP B w v P ∧ SaysM w P L
theorem strB_at {w:World} {b:Nat} {cs:Array Value} (h:w.heap[b]? = some (.cells cs 9 (0,0))):StrB w b:=⟨cs,_,h⟩
theorem StrB.lt {w:World} {b:Nat} (h:StrB w b):b < w.heap.size:=by
 obtain ⟨_,_,h⟩:=h
 exact (Array.getElem?_eq_some_iff.1 h).1
theorem saysM_to {w w':World} {P:List PT} {L:List AT} (h:SaysM w P L) (hk:∀ b,StrB w b → w'.heap[b]? = w.heap[b]?):SaysM w' P L:=
 ⟨h.1,fun j h1 h2=>⟨(h.2 j h1 h2).1,(h.2 j h1 h2).2.imp (fun b hb=>by obtain ⟨cs,fr,e⟩:=hb;exact ⟨cs,fr,(hk b ⟨cs,fr,e⟩).trans e⟩) (fun b o hb=>by simp only [World.cell?,hk b hb])⟩⟩
theorem saysM_below {w w':World} {P:List PT} {L:List AT} (h:SaysM w P L) (hb:Below w.heap.size w w'):SaysM w' P L:=saysM_to h fun b hs=>hb.block b hs.lt
theorem ownM_below {B:Nat} {w w':World} {v:Value} {L:List AT} (h:OwnM B w v L) (hb:Below w.heap.size w w'):OwnM B w' v L:=by
 obtain ⟨P,h1,h2⟩:=h
 exact ⟨P,rowP_below h1 hb,saysM_below h2 hb⟩
theorem ownM_empty {B b:Nat} {w:World} (hb:w.heap[b]? = some (.cells #[] 54 (0,0))) (hB:B ≤ b):OwnM B w (.slice (some ⟨b,0,none⟩) 0 0) []:=
 ⟨[],⟨rfl,.inr ⟨b,0,#[],rfl,hB,hb,Nat.le_refl _,Nat.zero_le _,rfl,rfl⟩⟩,rfl,fun j h=>absurd h (by simp)⟩
theorem row_keep {B:Nat} {w w':World} {v:Value} {P:List PT} (hr:RowP B w v P) (hg:w.grownBy w' v.ownBlock) {b:Nat} {cs:Array Value} {e:TypeId} {fr:Nat × Nat} (hb:w.heap[b]? = some (.cells cs e fr)) (hne:e ≠ 54):w'.heap[b]? = w.heap[b]?:=by
 refine hg.block b (Array.getElem?_eq_some_iff.1 hb).1 fun he=>hne ?_
 rcases hr.2 with ⟨rfl,_⟩ | ⟨g,cap,cur,rfl,_,hc,_⟩
 ·cases he
 ·have:b = g:=by simpa [Value.ownBlock] using he
  subst this
  rw [hb] at hc
  cases hc
  rfl
theorem saysM_grown {B:Nat} {w w':World} {v:Value} {P P':List PT} {L:List AT} (hr:RowP B w v P') (hg:w.grownBy w' v.ownBlock) (h:SaysM w P L):SaysM w' P L:=
 saysM_to h fun b hs=>by obtain ⟨cs,fr,e⟩:=hs;exact row_keep hr hg e (by decide)
theorem saysM_app {w:World} {P PM:List PT} {L M:List AT} (h:SaysM w P L) (hm:SaysM w PM M):SaysM w (P ++ PM) (L ++ M):=by
 refine ⟨by simp [h.1,hm.1],fun j h1 h2=>?_⟩
 by_cases hj:j < L.length
 ·have hj':j < P.length:=by rw [h.1];exact hj
  rw [List.getElem_append_left hj',List.getElem_append_left hj]
  exact h.2 j hj hj'
 ·have e:=h.1
  have hm1:j - L.length < M.length:=by simp at h1;omega
  have hm2:j - L.length < PM.length:=by rw [hm.1];exact hm1
  have g1:(P ++ PM)[j] = PM[j - L.length]:=by
   rw [List.getElem_append_right (by omega)]
   simp only [e]
  have g2:(L ++ M)[j] = M[j - L.length]:=List.getElem_append_right (by omega)
  rw [g1,g2]
  exact hm.2 _ hm1 hm2
theorem one_isTo {ok:Nat → Prop} {w:World} {L:List (List UInt8)} {v:Value} (h:IsTo ok w L v):v.oneCell' = true:=by
 obtain ⟨_,_,rfl,_⟩:=h
 rfl
theorem run_append_M {B:Nat} {w:World} {v:Value} {L:List AT} (hown:OwnM B w v L) (hB:B ≤ w.heap.size) {PM:List PT} {M:List AT} (hs:SaysM w PM M) (ad:Addr) (c:Nat)
  (hc:∀ j u,(cellsP PM)[j]? = some u → w.cell? (ad.add j) = some u) (hlen:L.length + M.length ≤ 1000) (ty:TypeId) :
  ∃ v' w',(Builtin.append_ #[22,22] ty #[v,.slice (some ad) M.length c]).run Tryz.prog w = .ok v' w' ∧ OwnM B w' v' (L ++ M) ∧ Below B w w' ∧ ∃ P,RowP B w v P ∧ w.grownBy w' v.ownBlock:=by
 obtain ⟨i0,hi,hz0,hz1,hz2⟩:=info_parts infoA
 obtain ⟨P,hr,hsay⟩:=hown
 have e1:=hsay.1
 have e2:=hs.1
 have h1:∀ u ∈ cellsP PM,u.oneCell' = true:=by
  intro u hu
  have:∀ (l:List PT),(∀ j (h:j < l.length),l[j].2.oneCell' = true) → ∀ u ∈ cellsP l,u.oneCell' = true:=by
   intro l
   induction l with
   | nil=>intro _ u hu;simp [cellsP] at hu
   | cons r l ih=>
    intro h u hu
    simp only [cellsP,List.mem_cons] at hu
    rcases hu with rfl | rfl | hu
    ·rfl
    ·exact h 0 (by simp)
    ·exact ih (fun j hj=>h (j + 1) (by simpa using hj)) u hu
  exact this PM (fun j hj=>one_isTo (hs.2 j (by omega) hj).2) u hu
 obtain ⟨v',w',hrun,hown',hgrow,_,hat⟩:=run_append_own_at (P:=Tryz.prog) w B 22 ty 54 i0 (.agg #[.string ⟨#[]⟩,.slice none 0 0]) 2 40 Tryz.underlying22 hi hz0 hz1 hz2 rfl (by decide) v P.length (cellsP P) hr ad PM.length c (cellsP PM) (cellsP_length PM) hc h1 (by unfold maxLen;omega) (by omega) hB
 rw [e2] at hrun
 refine ⟨v',w',hrun,⟨P ++ PM,?_,saysM_app (saysM_grown hr hgrow hsay) (saysM_grown hr hgrow hs)⟩,(Below.refl B w).grown hgrow hB (fun k e=>(World.ownsRow.lt hr k e).1),P,hr,hgrow⟩
 unfold RowP
 rw [List.length_append,cellsP_append]
 exact hown'
theorem exec_append {P:Program} {o:Oper} {a:Act} {w w':World} {s x:Operand} {t:TypeId} {v u v':Value} (ho:o.op = .call { callee:=.builtin .append,args:=#[s,x],argTypes:=#[t,t] }) (hs:a.eval s = v) (hx:a.eval x = u)
  (hr:(Builtin.append_ #[t,t] o.type #[v,u]).run P w = .ok v' w'):(execOp a.eval o).run P w = .ok (.value v') w':=by
 unfold execOp
 simp only [ho,resolve,invoke,builtin,Sem.run_bind,Sem.run_pure,Result.andThen_ok,List.map_toArray,List.map_cons,List.map_nil,hs,hx,hr]
theorem wpOp_skip {P:Program} {ops:Array Oper} {Q:Exit → Act → World → Prop} {i:Nat} {o:Oper} {a:Act} {w w':World} {K:Act → World → Prop} (ho:ops[i]? = some o) (hg:o.guard = none) (hr:(execOp a.eval o).run P w = .ok .skip w') (hk:K (a.put o.dst undef) w'):wpOp P ops Q i K a w:=by
 unfold wpOp
 rw [ho]
 show if Region.wanted o (yielded ops a.tmps) = true then _ else _
 rw [if_pos (by unfold Region.wanted;rw [hg])]
 refine .inl ?_
 unfold Oper.wp
 rw [hr]
 exact hk
theorem row_part {w:World} {b:Nat} {P:List PT} (h:∀ j u,(cellsP P)[j]? = some u → w.cell? ⟨b,j,none⟩ = some u) (A B C:List PT) (e:P = A ++ B ++ C):∀ j u,(cellsP B)[j]? = some u → w.cell? ((⟨b,A.length * 2,none⟩:Addr).add j) = some u:=by
 intro j u hu
 have hadd:(⟨b,A.length * 2,none⟩:Addr).add j = ⟨b,A.length * 2 + j,none⟩:=by simp [Addr.add]
 rw [hadd]
 refine h _ _ ?_
 rw [e,cellsP_append,cellsP_append,List.append_assoc,List.getElem?_append_right (by rw [cellsP_length];omega),cellsP_length,show A.length * 2 + j - A.length * 2 = j from by omega]
 have hlt:j < (cellsP B).length:=by
  rcases Nat.lt_or_ge j (cellsP B).length with h | h
  ·exact h
  ·rw [List.getElem?_eq_none h] at hu;cases hu
 rw [List.getElem?_append_left hlt,hu]
theorem saysM_part {w:World} {A B C:List PT} {L M N:List AT} (h:SaysM w (A ++ B ++ C) (L ++ M ++ N)) (h1:A.length = L.length) (h2:B.length = M.length):SaysM w B M:=by
 refine ⟨h2,fun j hj hj'=>?_⟩
 have:=h.2 (L.length + j) (by simp;omega) (by simp;omega)
 have g1:(A ++ B ++ C)[L.length + j]'(by simp;omega) = B[j]:=by
  rw [List.getElem_append_left (by simp;omega),List.getElem_append_right (by omega)]
  congr 1
  omega
 have g2:(L ++ M ++ N)[L.length + j]'(by simp;omega) = M[j]:=by
  rw [List.getElem_append_left (by simp;omega),List.getElem_append_right (by omega)]
  congr 1
  omega
 rw [g1,g2] at this
 exact this
theorem saysM_one {w:World} {b:Nat} {X Y:ByteArray} (h:w.heap[b]? = some (.cells #[.string Y] 9 (0,0))):SaysM w [(X.data.toList,.slice (some ⟨b,0,none⟩) 1 1)] [(X.data.toList,[Y.data.toList])]:=
 ⟨rfl,fun j hj hj'=>by
  have:j = 0:=by simp at hj;omega
  subst this
  refine ⟨rfl,_,_,rfl,by unfold maxLen;simp,fun k hk=>?_⟩
  have:k = 0:=by simp at hk;omega
  subst this
  refine ⟨b,0,rfl,strB_at h,?_⟩
  rw [show ([(X.data.toList,[Y.data.toList])]:List AT)[0].2[0] = Y.data.toList from rfl,strV_whole]
  simp only [World.cell?,h]
  rfl⟩
theorem cells_one {w:World} {c:Nat} {X:ByteArray} {u:Value} (h:w.heap[c]? = some (.cells #[.string X,u] 54 (0,0))):∀ j x,(cellsP [(X.data.toList,u)])[j]? = some x → w.cell? ((⟨c,0,none⟩:Addr).add j) = some x:=by
 intro j x hx
 have hadd:(⟨c,0,none⟩:Addr).add j = ⟨c,j,none⟩:=by simp [Addr.add];omega
 rw [hadd]
 simp only [World.cell?,h]
 have e:cellsP [(X.data.toList,u)] = [.string X,u]:=by
  show [strV X.data.toList,u] = _
  rw [strV_whole]
 rw [e] at hx
 simpa using hx
def perRow (g:Nat):List PT:=[([99,110],.slice (some ⟨g - 3,0,none⟩) 1 1),([111,98,106,101,99,116,99,108,97,115,115],.slice (some ⟨g - 2,0,none⟩) 1 1),([115,110],.slice (some ⟨g - 1,0,none⟩) 1 1)]
theorem isTo_one {w:World} {b:Nat} {X:ByteArray} (h:w.heap[b]? = some (.cells #[.string X] 9 (0,0))):IsTo (StrB w) w [X.data.toList] (.slice (some ⟨b,0,none⟩) 1 1):=
 (saysM_one (X:=X) h).2 0 (by simp) (by simp) |>.2
theorem per_says {w:World} {g:Nat} {N:ByteArray} (h:PerAt w g N):SaysM w (perRow g) (perL N.data.toList):=
 ⟨rfl,fun j hj hj'=>by
  match j,hj with
  | 0,_=>exact ⟨rfl,isTo_one h.b1⟩
  | 1,_=>exact ⟨rfl,isTo_one h.b2⟩
  | 2,_=>exact ⟨rfl,isTo_one h.b3⟩⟩
theorem list_cells {w:World} {b:Nat} {P:List PT} (h:w.heap[b]? = some (.cells (cellsP P).toArray 54 (0,0))):∀ j u,(cellsP P)[j]? = some u → w.cell? ⟨b,j,none⟩ = some u:=by
 intro j u hu
 simp only [World.cell?,h]
 simpa using hu
theorem ownM_isA {B:Nat} {w:World} {v:Value} {L:List AT} (h:OwnM B w v L) (hl:L.length ≤ maxLen):IsA w.heap.size w L v:=by
 obtain ⟨P,h1,h2⟩:=h
 by_cases hne:P = []
 ·subst hne
  obtain ⟨a,c,hv⟩:=rowP_slice h1
  have:L = []:=List.eq_nil_of_length_eq_zero (by have:=h2.1;simpa using this.symm)
  subst this
  exact ⟨a,c,hv,hl,fun j hj=>absurd hj (by simp)⟩
 ·obtain ⟨g,c,hv,_,hg,hc⟩:=rowP_at h1 hne
  refine ⟨_,c,by rw [hv,h2.1],hl,fun j hj=>?_⟩
  have hj':j < P.length:=by rw [h2.1];exact hj
  obtain ⟨e1,e2⟩:=h2.2 j hj hj'
  refine ⟨g,0,P[j].2,rfl,hg,?_,?_,e2.to (fun b hb=>hb.lt)⟩
  ·rw [Nat.zero_add,← e1];exact (hc j hj').1
  ·rw [Nat.zero_add];exact (hc j hj').2
structure MAt (n1:Nat) (W0:World) (D:ByteArray) (L:List AT) (wx:World) (b:Nat) (u:Value):Prop where
 lo:n1 ≤ b
 box:BoxN wx b D u
 own:OwnM n1 wx u L
 below:Below n1 W0 wx
theorem mAt_store {n1 b:Nat} {W0 W:World} {D:ByteArray} {L:List AT} {s:Value} (hb:Below n1 W0 W) (hc:W.heap[b]? = some (.cells #[.string ⟨#[]⟩,.slice none 0 0] 24 (0,0))) (hn:n1 ≤ b) (hown:OwnM n1 W s L) :
  MAt n1 W0 D L ((W.setCell ⟨b,0,none⟩ (.string D)).setCell ⟨b,1,none⟩ s) b s:=by
 have hbl:=(Array.getElem?_eq_some_iff.1 hc).1
 have hother:∀ k,k ≠ b → ((W.setCell ⟨b,0,none⟩ (.string D)).setCell ⟨b,1,none⟩ s).heap[k]? = W.heap[k]?:=fun k hk=>by
  rw [block_ne _ ⟨b,1,none⟩ _ hk,block_ne _ ⟨b,0,none⟩ _ hk]
 obtain ⟨P,hr,hs⟩:=hown
 refine ⟨hn,?_,⟨P,?_,?_⟩,?_⟩
 ·unfold BoxN
  simp [World.setCell,Array.getElem?_modify,hc]
 ·have hg:W.grownBy ((W.setCell ⟨b,0,none⟩ (.string D)).setCell ⟨b,1,none⟩ s) (some b):=⟨rfl,rfl,rfl,by simp [World.setCell],fun k hk hne=>hother k (fun e=>hne (by rw [e]))⟩
  refine World.ownsRow.kept hr hg ?_
  right
  intro he
  rcases hr.2 with ⟨rfl,_⟩ | ⟨g,cap,cur,rfl,_,hgc,_⟩
  ·cases he
  ·have:g = b:=by simpa [Value.ownBlock] using he
   subst this
   rw [hgc] at hc
   cases hc
 ·refine saysM_to hs fun k hk=>hother k fun e=>?_
  obtain ⟨cs,fr,hk⟩:=hk
  rw [e,hc] at hk
  cases hk
 ·exact (hb.setCell hn _).setCell hn _
theorem entry_new {W:World} {b:Nat} (h:W.heap[b]? = some (.cells #[.string ⟨#[]⟩,.slice none 0 0] 24 (0,0))) (x:Value):W.cell? ⟨b,0,none⟩ = some (.string ⟨#[]⟩) ∧ W.frozen? ⟨b,0,none⟩ = false ∧ (W.setCell ⟨b,0,none⟩ x).cell? ⟨b,1,none⟩ = some (.slice none 0 0) ∧ (W.setCell ⟨b,0,none⟩ x).frozen? ⟨b,1,none⟩ = false:=by
 refine ⟨?_,?_,?_,?_⟩ <;> simp [World.cell?,World.frozen?,World.setCell,Array.getElem?_modify,h]
theorem boxN_set {W:World} {g i b:Nat} {x u:Value} {D:ByteArray} {cs:Array Value} {fr:Nat × Nat} (h:BoxN W b D u) (hg:W.heap[g]? = some (.cells cs 54 fr)):BoxN (W.setCell ⟨g,i,none⟩ x) b D u:=by
 refine (block_ne W ⟨g,i,none⟩ x fun e=>?_).trans h
 unfold BoxN at h
 rw [show b = g from e,hg] at h
 cases h
def NC6:Array Value:=#[.string ⟨#[109,97,105,108]⟩,.string ⟨#[117,105,100]⟩,.string ⟨#[111,117]⟩,.string ⟨#[109,101,109,98,101,114]⟩,.string ⟨#[117,105,100,110,117,109,98,101,114]⟩,.string ⟨#[111]⟩]
def NC2:Array Value:=#[.string ⟨#[100,101,115,99,114,105,112,116,105,111,110]⟩,.string ⟨#[117,115,101,114,112,97,115,115,119,111,114,100]⟩]
def nmB (l:Array Value) (q:Nat):ByteArray:=match l.getD q undef with
 | .string x=>x
 | _=>⟨#[]⟩
def FLess (n1 h0 b6 k:Nat) (D:ByteArray) (L1 L2:List AT) (p q:Bool) (i:Nat) (v:Value) (w:World):Prop:=match i with
 | 0=>v = .pointer (some ⟨h0,0,none⟩)
 | 1=>v = .string D
 | 2=>p = true ∨ ∃ b,v = .slice (some ⟨b,0,none⟩) 0 0 ∧ n1 ≤ b ∧ w.heap[b]? = some (.cells #[] 54 (0,0))
 | 3=>v = .slice (some ⟨b6,0,none⟩) 3 3
 | 4=>v = .int .i64 (k:Int)
 | 5=>v = .slice (some ⟨b6,0,none⟩) k 3
 | 6=>q = true ∨ OwnM n1 w v L1
 | 7=>v = .slice (some ⟨b6,0,none⟩) 3 3
 | 8=>v = .int .i64 (k:Int)
 | 9=>v = .int .i64 ((k:Int) + 1)
 | 10=>v = .slice (some (if k = 2 then ⟨b6,0,none⟩ else ⟨b6,(k + 1) * 2,none⟩)) (2 - k) (2 - k)
 | 11=>q = true ∧ OwnM n1 w v L2
 | 12=>q = true ∧ ∃ s,v = .agg #[.string D,s] ∧ OwnM n1 w s L2
 | 13=>∃ b,v = .pointer (some ⟨b,0,none⟩) ∧ n1 ≤ b ∧ w.heap[b]? = some (.cells #[.string ⟨#[]⟩,.slice none 0 0] 24 (0,0))
 | _=>True
theorem FLess.go {n1 h0 b6 k:Nat} {D:ByteArray} {L1 L2:List AT} {p q:Bool} {i:Nat} {v:Value} {w w':World} (h:FLess n1 h0 b6 k D L1 L2 p q i v w) (hb:Below w.heap.size w w'):FLess n1 h0 b6 k D L1 L2 p q i v w':=by
 have hk:∀ {b:Nat} {o:Obj},w.heap[b]? = some o → w'.heap[b]? = some o:=fun e=>(hb.block _ (Array.getElem?_eq_some_iff.1 e).1).trans e
 match i,h with
 | 0,h=>exact h
 | 1,h=>exact h
 | 2,h=>exact h.imp id fun ⟨b,e,hn,hc⟩=>⟨b,e,hn,hk hc⟩
 | 3,h=>exact h
 | 4,h=>exact h
 | 5,h=>exact h
 | 6,h=>exact h.imp id fun x=>ownM_below x hb
 | 7,h=>exact h
 | 8,h=>exact h
 | 9,h=>exact h
 | 10,h=>exact h
 | 11,h=>exact ⟨h.1,ownM_below h.2 hb⟩
 | 12,h=>obtain ⟨hq,s,e,x⟩:=h;exact ⟨hq,s,e,ownM_below x hb⟩
 | 13,h=>obtain ⟨b,e,hn,hc⟩:=h;exact ⟨b,e,hn,hk hc⟩
 | _ + 14,h=>exact trivial
theorem FLess.loud {n1 h0 b6 k:Nat} {D:ByteArray} {L1 L2:List AT} {p q q':Bool} {i:Nat} {v:Value} {w w':World} (h:FLess n1 h0 b6 k D L1 L2 p q i v w) (hp:q = false) (hi:i ≠ 6 ∨ q' = true)
  (hk:∀ (b:Nat) (cs:Array Value) (e:TypeId),w.heap[b]? = some (.cells cs e (0,0)) → e ≠ 54 → w'.heap[b]? = w.heap[b]?):FLess n1 h0 b6 k D L1 L2 true q' i v w':=by
 subst hp
 match i,h,hi with
 | 0,h,_=>exact h
 | 1,h,_=>exact h
 | 2,h,_=>exact .inl rfl
 | 3,h,_=>exact h
 | 4,h,_=>exact h
 | 5,h,_=>exact h
 | 6,h,hi=>exact .inl (hi.resolve_left (fun x=>x rfl))
 | 7,h,_=>exact h
 | 8,h,_=>exact h
 | 9,h,_=>exact h
 | 10,h,_=>exact h
 | 11,h,_=>cases h.1
 | 12,h,_=>cases h.1
 | 13,h,_=>obtain ⟨b,e,hn,hc⟩:=h;exact ⟨b,e,hn,(hk _ _ _ hc (by decide)).trans hc⟩
 | _ + 14,h,_=>exact trivial
def FMore (n1 h0 b6 wh q6:Nat) (D:ByteArray) (NC:Array Value) (NA VT:ByteArray) (L1 L2:List AT) (p q:Bool) (i:Nat) (v:Value) (w:World):Prop:=match i with
 | 0=>v = .pointer (some ⟨h0,0,none⟩)
 | 1=>v = .string D
 | 2=>p = true ∨ ∃ b,v = .slice (some ⟨b,0,none⟩) 0 0 ∧ n1 ≤ b ∧ w.heap[b]? = some (.cells #[] 54 (0,0))
 | 3=>v = .slice (some ⟨b6,0,none⟩) 3 3
 | 4=>q = true ∨ OwnM n1 w v L1
 | 5=>∃ b,v = .slice (some ⟨b,0,none⟩) NC.size NC.size ∧ w.heap[b]? = some (.cells NC 9 (0,0))
 | 6=>v = .int .u8 (wh:Int)
 | 7=>v = .int .u8 (q6:Int)
 | 8=>∃ b,v = .pointer (some ⟨b,q6,none⟩) ∧ w.heap[b]? = some (.cells NC 9 (0,0))
 | 9=>v = .string NA
 | 10=>∃ b,v = .slice (some ⟨b,0,none⟩) 1 1 ∧ w.heap[b]? = some (.cells #[.string VT] 9 (0,0))
 | 11=>∃ b,v = .agg #[.string NA,.slice (some ⟨b,0,none⟩) 1 1] ∧ w.heap[b]? = some (.cells #[.string VT] 9 (0,0))
 | 12=>q = true ∨ ∃ c b,v = .slice (some ⟨c,0,none⟩) 1 1 ∧ w.heap[c]? = some (.cells #[.string NA,.slice (some ⟨b,0,none⟩) 1 1] 54 (0,0)) ∧ w.heap[b]? = some (.cells #[.string VT] 9 (0,0))
 | 13=>q = true ∧ OwnM n1 w v L2
 | 14=>q = true ∧ ∃ s,v = .agg #[.string D,s] ∧ OwnM n1 w s L2
 | 15=>∃ b,v = .pointer (some ⟨b,0,none⟩) ∧ n1 ≤ b ∧ w.heap[b]? = some (.cells #[.string ⟨#[]⟩,.slice none 0 0] 24 (0,0))
 | _=>True
theorem FMore.go {n1 h0 b6 wh q6:Nat} {D:ByteArray} {NC:Array Value} {NA VT:ByteArray} {L1 L2:List AT} {p q:Bool} {i:Nat} {v:Value} {w w':World} (h:FMore n1 h0 b6 wh q6 D NC NA VT L1 L2 p q i v w) (hb:Below w.heap.size w w'):FMore n1 h0 b6 wh q6 D NC NA VT L1 L2 p q i v w':=by
 have hk:∀ {b:Nat} {o:Obj},w.heap[b]? = some o → w'.heap[b]? = some o:=fun e=>(hb.block _ (Array.getElem?_eq_some_iff.1 e).1).trans e
 match i,h with
 | 0,h=>exact h
 | 1,h=>exact h
 | 2,h=>exact h.imp id fun ⟨b,e,hn,hc⟩=>⟨b,e,hn,hk hc⟩
 | 3,h=>exact h
 | 4,h=>exact h.imp id fun x=>ownM_below x hb
 | 5,h=>obtain ⟨b,e,hc⟩:=h;exact ⟨b,e,hk hc⟩
 | 6,h=>exact h
 | 7,h=>exact h
 | 8,h=>obtain ⟨b,e,hc⟩:=h;exact ⟨b,e,hk hc⟩
 | 9,h=>exact h
 | 10,h=>obtain ⟨b,e,hc⟩:=h;exact ⟨b,e,hk hc⟩
 | 11,h=>obtain ⟨b,e,hc⟩:=h;exact ⟨b,e,hk hc⟩
 | 12,h=>exact h.imp id fun ⟨c,b,e,h1,h2⟩=>⟨c,b,e,hk h1,hk h2⟩
 | 13,h=>exact ⟨h.1,ownM_below h.2 hb⟩
 | 14,h=>obtain ⟨hq,s,e,x⟩:=h;exact ⟨hq,s,e,ownM_below x hb⟩
 | 15,h=>obtain ⟨b,e,hn,hc⟩:=h;exact ⟨b,e,hn,hk hc⟩
 | _ + 16,h=>exact trivial
end Go.Proofs.YtlimajgmdhhggaaGreatDoor
