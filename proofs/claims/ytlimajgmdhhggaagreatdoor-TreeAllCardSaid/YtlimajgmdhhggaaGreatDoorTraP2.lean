/- Several texts in one file: Shelf2, ScVals, MaNum, MaNorm, MaSame, ScPure, ScOwn. -/
import Derived.Shelf.Sort.Plain
import Derived.Shelf.Strings.Fields
import Derived.Test.YtlimajgmdhhggaaGreatDoorShelf
import Derived.Test.YtlimajgmdhhggaaGreatDoorTraP1
import Derived.Test.YtlimajgmdhhggaaGreatDoorDnKey
import Derived.Lib.SmallJoins
import Derived.Lib.AppendIntMem
import Derived.OwnWalk
import Derived.Lib.Fields
import Derived.Lib.SlicesCompact
import Derived.Sort.KeysCollected
namespace Go.Proofs
open Go.Shelf
def Tryz.lays190_ren:Go.Shelf.Ren:=⟨fun | 190=>167 | 125=>190 | 258=>189 | 128=>214 | 129=>215 | 302=>205 | 303=>206 | 304=>207 | 305=>208 | 306=>209 | 307=>210 | 308=>211 | 309=>212 | 310=>213 | 333=>240 | 329=>241 | 330=>242 | 334=>243 | 335=>244 | 336=>245 | 344=>264 | n=>n,fun | 31=>25 | 9=>9 | 3=>3 | 46=>193 | 0=>0 | 51=>90 | 53=>147 | 4=>4 | 183=>237 | 182=>236 | 131=>141 | 5=>5 | 218=>263 | 222=>267 | 228=>283 | 229=>284 | n=>n,fun | n=>n⟩
theorem Tryz.lays190:Go.Proofs.Lays.n190 Tryz.prog Tryz.lays190_ren:={
 mixed:=by kernel_rfl
 f125:=Tryz.func190.trans (congrArg some (by kernel_rfl))
 f128:=Tryz.func214.trans (congrArg some (by kernel_rfl))
 f129:=Tryz.func215.trans (congrArg some (by kernel_rfl))
 f190:=Tryz.func167.trans (congrArg some (by kernel_rfl))
 f258:=Tryz.func189.trans (congrArg some (by kernel_rfl))
 f302:=Tryz.func205.trans (congrArg some (by kernel_rfl))
 f303:=Tryz.func206.trans (congrArg some (by kernel_rfl))
 f304:=Tryz.func207.trans (congrArg some (by kernel_rfl))
 f305:=Tryz.func208.trans (congrArg some (by kernel_rfl))
 f306:=Tryz.func209.trans (congrArg some (by kernel_rfl))
 f307:=Tryz.func210.trans (congrArg some (by kernel_rfl))
 f308:=Tryz.func211.trans (congrArg some (by kernel_rfl))
 f309:=Tryz.func212.trans (congrArg some (by kernel_rfl))
 f310:=Tryz.func213.trans (congrArg some (by kernel_rfl))
 f329:=Tryz.func241.trans (congrArg some (by kernel_rfl))
 f330:=Tryz.func242.trans (congrArg some (by kernel_rfl))
 f333:=Tryz.func240.trans (congrArg some (by kernel_rfl))
 f334:=Tryz.func243.trans (congrArg some (by kernel_rfl))
 f335:=Tryz.func244.trans (congrArg some (by kernel_rfl))
 f336:=Tryz.func245.trans (congrArg some (by kernel_rfl))
 f344:=Tryz.func264.trans (congrArg some (by kernel_rfl))
 t0:=Tryz.underlying0
 a0:=Tryz.isAgg0
 z0:=Tryz.sizeOf0
 v0:=Tryz.zeroValue0
 t3:=Tryz.underlying3
 a3:=Tryz.isAgg3
 z3:=Tryz.sizeOf3
 v3:=Tryz.zeroValue3
 t4:=Tryz.underlying4
 a4:=Tryz.isAgg4
 z4:=Tryz.sizeOf4
 v4:=Tryz.zeroValue4
 t5:=Tryz.underlying5
 a5:=Tryz.isAgg5
 z5:=Tryz.sizeOf5
 v5:=Tryz.zeroValue5
 t9:=Tryz.underlying9
 a9:=Tryz.isAgg9
 z9:=Tryz.sizeOf9
 v9:=Tryz.zeroValue9
 t31:=Tryz.underlying25
 a31:=Tryz.isAgg25
 z31:=Tryz.sizeOf25
 v31:=Tryz.zeroValue25
 t46:=Tryz.underlying193
 a46:=Tryz.isAgg193
 z46:=Tryz.sizeOf193
 v46:=Tryz.zeroValue193
 t51:=Tryz.underlying90
 a51:=Tryz.isAgg90
 z51:=Tryz.sizeOf90
 v51:=Tryz.zeroValue90
 t53:=Tryz.underlying147
 a53:=Tryz.isAgg147
 z53:=Tryz.sizeOf147
 v53:=Tryz.zeroValue147
 t131:=Tryz.underlying141
 a131:=Tryz.isAgg141
 z131:=Tryz.sizeOf141
 v131:=Tryz.zeroValue141
 t182:=Tryz.underlying236
 a182:=Tryz.isAgg236
 z182:=Tryz.sizeOf236
 v182:=Tryz.zeroValue236
 t183:=Tryz.underlying237
 a183:=Tryz.isAgg237
 z183:=Tryz.sizeOf237
 v183:=Tryz.zeroValue237
 t218:=Tryz.underlying263
 a218:=Tryz.isAgg263
 z218:=Tryz.sizeOf263
 v218:=Tryz.zeroValue263
 t222:=Tryz.underlying267
 a222:=Tryz.isAgg267
 z222:=Tryz.sizeOf267
 v222:=Tryz.zeroValue267
 t228:=Tryz.underlying283
 a228:=Tryz.isAgg283
 z228:=Tryz.sizeOf283
 v228:=Tryz.zeroValue283
 t229:=Tryz.underlying284
 a229:=Tryz.isAgg284
 z229:=Tryz.sizeOf284
 v229:=Tryz.zeroValue284 }
open Go.Sort Go.RowKit in
theorem Tryz.slices_Sort_string (blk off cap:Nat) (ss:List (List UInt8)) (w:World) (hH:Holds encStr w blk off ss.toArray) (hblk:blk < w.heap.size) (hsz:ss.length < 4611686018427387904) :
  Calls Tryz.prog 167 #[.slice (some ⟨blk,off,none⟩) ss.length cap] w fun e w'=>
   e = .returned (.tuple #[]) ∧ ∃ n os,w' = grow (putRow encStr (Sort.ahead w n) blk off (ss.mergeSort fun x y=>decide (x ≤ y)).toArray) os:=Any.slices_Sort_string Tryz.lays190 blk off cap ss w hH hblk hsz
def Tryz.lays157_ren:Go.Shelf.Ren:=⟨fun | 157=>216 | 229=>246 | 199=>247 | 261=>265 | 311=>269 | 312=>270 | n=>n,fun | 9=>9 | 31=>25 | 3=>3 | 5=>5 | 4=>4 | 119=>269 | 0=>0 | 40=>271 | 152=>286 | 21=>21 | 154=>288 | 51=>90 | 141=>290 | 196=>297 | 193=>294 | 198=>300 | 49=>298 | 194=>295 | 201=>303 | 226=>307 | 46=>193 | 227=>308 | n=>n,fun | 0=>1 | 6=>5 | n=>n⟩
theorem Tryz.lays157:Go.Proofs.Lays.n157 Tryz.prog Tryz.lays157_ren:={
 mixed:=by kernel_rfl
 f157:=Tryz.func216.trans (congrArg some (by kernel_rfl))
 f199:=Tryz.func247.trans (congrArg some (by kernel_rfl))
 f229:=Tryz.func246.trans (congrArg some (by kernel_rfl))
 f261:=Tryz.func265.trans (congrArg some (by kernel_rfl))
 f311:=Tryz.func269.trans (congrArg some (by kernel_rfl))
 f312:=Tryz.func270.trans (congrArg some (by kernel_rfl))
 t0:=Tryz.underlying0
 a0:=Tryz.isAgg0
 z0:=Tryz.sizeOf0
 v0:=Tryz.zeroValue0
 t3:=Tryz.underlying3
 a3:=Tryz.isAgg3
 z3:=Tryz.sizeOf3
 v3:=Tryz.zeroValue3
 t4:=Tryz.underlying4
 a4:=Tryz.isAgg4
 z4:=Tryz.sizeOf4
 v4:=Tryz.zeroValue4
 t5:=Tryz.underlying5
 a5:=Tryz.isAgg5
 z5:=Tryz.sizeOf5
 v5:=Tryz.zeroValue5
 t9:=Tryz.underlying9
 a9:=Tryz.isAgg9
 z9:=Tryz.sizeOf9
 v9:=Tryz.zeroValue9
 t21:=Tryz.underlying21
 a21:=Tryz.isAgg21
 z21:=Tryz.sizeOf21
 v21:=Tryz.zeroValue21
 t31:=Tryz.underlying25
 a31:=Tryz.isAgg25
 z31:=Tryz.sizeOf25
 v31:=Tryz.zeroValue25
 t40:=Tryz.underlying271
 a40:=Tryz.isAgg271
 z40:=Tryz.sizeOf271
 v40:=Tryz.zeroValue271
 t46:=Tryz.underlying193
 a46:=Tryz.isAgg193
 z46:=Tryz.sizeOf193
 v46:=Tryz.zeroValue193
 t49:=Tryz.underlying298
 a49:=Tryz.isAgg298
 z49:=Tryz.sizeOf298
 v49:=Tryz.zeroValue298
 t51:=Tryz.underlying90
 a51:=Tryz.isAgg90
 z51:=Tryz.sizeOf90
 v51:=Tryz.zeroValue90
 t119:=Tryz.underlying269
 a119:=Tryz.isAgg269
 z119:=Tryz.sizeOf269
 t141:=Tryz.underlying290
 a141:=Tryz.isAgg290
 z141:=Tryz.sizeOf290
 v141:=Tryz.zeroValue290
 t152:=Tryz.underlying286
 a152:=Tryz.isAgg286
 z152:=Tryz.sizeOf286
 v152:=Tryz.zeroValue286
 t154:=Tryz.underlying288
 a154:=Tryz.isAgg288
 z154:=Tryz.sizeOf288
 v154:=Tryz.zeroValue288
 t193:=Tryz.underlying294
 a193:=Tryz.isAgg294
 z193:=Tryz.sizeOf294
 v193:=Tryz.zeroValue294
 t194:=Tryz.underlying295
 a194:=Tryz.isAgg295
 z194:=Tryz.sizeOf295
 v194:=Tryz.zeroValue295
 t196:=Tryz.underlying297
 a196:=Tryz.isAgg297
 z196:=Tryz.sizeOf297
 v196:=Tryz.zeroValue297
 t198:=Tryz.underlying300
 a198:=Tryz.isAgg300
 z198:=Tryz.sizeOf300
 v198:=Tryz.zeroValue300
 t201:=Tryz.underlying303
 a201:=Tryz.isAgg303
 z201:=Tryz.sizeOf303
 v201:=Tryz.zeroValue303
 t226:=Tryz.underlying307
 a226:=Tryz.isAgg307
 z226:=Tryz.sizeOf307
 v226:=Tryz.zeroValue307
 t227:=Tryz.underlying308
 a227:=Tryz.isAgg308
 z227:=Tryz.sizeOf308
 v227:=Tryz.zeroValue308
 g0:=by kernel_rfl
 g6:=by kernel_rfl }
open Go.RowKit Go.Lib in
theorem Tryz.strings_Fields (s:ByteArray) (w:World) (hs:s.size < 4294967281) (hascii:∀ (j:Nat) b,s.data.toList[j]? = some b → b.toNat < 128) (htab:Lib.TabIs Tryz.prog w "strings.asciiSpace" .u8 Lib.asciiSpaceTab) :
  Calls Tryz.prog 216 #[.string s] w fun e w'=>
   e = .returned (.slice (some ⟨w.heap.size,0,none⟩) (Lib.fields s.data.toList).length (Lib.fields s.data.toList).length) ∧ w' = w.alloc (.cells ((Lib.fields s.data.toList).map fun l=>Value.string ⟨l.toArray⟩).toArray 9):=Any.strings_Fields Tryz.lays157 (by kernel_rfl) (by kernel_rfl) s w hs hascii htab
end Go.Proofs
namespace Go.Proofs.YtlimajgmdhhggaaGreatDoor
open Go.RowKit
set_option linter.unusedVariables false
def valsS (L:List AT) (t:List UInt8):List (List UInt8):=match L.find? (fun a=>a.1 == t) with
 | some a=>a.2
 | none=>[]
def hasS (L:List AT) (t:List UInt8):Bool:=decide (0 < (valsS L t).length)
def mostS (t:List UInt8):Int:=if t = [117,105,100,110,117,109,98,101,114] then 1 else 40
theorem valsS_at {L:List AT} {t:List UInt8} (j:Nat) (hj:j < L.length) (h:∀ k (hk:k < L.length),k < j → L[k].1 ≠ t) (he:L[j].1 = t):valsS L t = L[j].2:=by
 have:L.find? (fun a=>a.1 == t) = some L[j]:=by
  induction L generalizing j with
  | nil=>simp at hj
  | cons x l ih=>
   cases j with
   | zero=>rw [List.find?_cons_of_pos (by simpa using he)];rfl
   | succ j=>
    have h0:=h 0 (by simp) (by omega)
    rw [List.find?_cons_of_neg (by simpa using h0)]
    exact ih j (by simpa using hj) (fun k hk hkj=>h (k + 1) (by simpa using hk) (by omega)) he
 unfold valsS;rw [this]
theorem valsS_no {L:List AT} {t:List UInt8} (h:∀ k (hk:k < L.length),L[k].1 ≠ t):valsS L t = []:=by
 have:L.find? (fun a=>a.1 == t) = none:=by
  rw [List.find?_eq_none]
  intro a ha
  obtain ⟨k,hk,rfl⟩:=List.getElem_of_mem ha
  simpa using h k hk
 unfold valsS;rw [this]
set_option maxRecDepth 100000 in
set_option maxHeartbeats 2000000 in
theorem valsOf_any (L:List AT) (hs:L.length ≤ 1000) (v:Value) (t:ByteArray) (w:World) (h:IsA w.heap.size w L v) :
  Calls Tryz.prog 142 #[v,.string t] w fun e w'=>∃ u,e = .returned u ∧ IsT w.heap.size w (valsS L t.data.toList) u ∧ Below w.heap.size w w':=by
 obtain ⟨a,c,rfl,hm,hcell⟩:=h
 unfold maxLen at hm
 have HC:=Lib.hid hcell
 clear hcell
 go_enter Tryz.func142,Tryz.ntmps142
 go_wp2
 go_loopw [9] (fun i wr=>∃ j:Nat,j ≤ L.length ∧ i = .int .i64 j ∧ Hid (∀ k (hk:k < L.length),k < j → L[k].1 ≠ t.data.toList) ∧ Below w.heap.size w wr) (fun i wr=>L.length - (intOf i).toNat)
 case atStart=>exact ⟨0,by omega,rfl,Lib.hid (fun k _ h=>absurd h (by omega)),Below.refl _ _⟩
 case round=>
  obtain ⟨j,hj,rfl,HNo,hbel⟩:=hrel
  have HBel:=Lib.hid hbel
  have hbs:=hbel.size
  by_cases hlt:j < L.length
  ·have t1:decide ((j:Int) < (L.length:Int)) = true:=by simp;omega
   have t1':decide (j < L.length) = true:=by simpa using hlt
   obtain ⟨b,off,u,rfl,hb0,c0,c1,ht⟩:=HC.out j hlt
   obtain ⟨ua,uc,hu,_⟩:=id ht
   obtain ⟨un,hun⟩:∃ n,n = L[j].2.length:=⟨_,rfl⟩
   rw [← hun] at hu
   subst hu
   clear hun
   have HT:=Lib.hid ht
   obtain ⟨X,hX⟩:∃ X:ByteArray,⟨L[j].1.toArray⟩ = X:=⟨_,rfl⟩
   have hXl:X.data.toList = L[j].1:=by rw [← hX]
   have d0:(wr.cell? ⟨b,off + j * 2,none⟩) = some (.string X):=by
    rw [hbel.cell (p:=⟨b,_,none⟩) hb0,c0,← hX];rfl
   have d1:=(hbel.cell (p:=⟨b,off + j * 2 + 1,none⟩) hb0).trans c1
   have HXl:=Lib.hid hXl
   have HA:=Lib.hid (Below.alloc hbel hbs (.cells #[.string X,.slice ua un uc] 54))
   clear hX hXl c0 c1 hbel ht
   by_cases he:X = t
   ·subst he
    have HR:=Lib.hid (valsS_at j hlt HNo.out HXl.out.symm)
    go_wp2
    go_ret
    exact ⟨_,rfl,by rw [HR.out];exact HT.out,HA.out⟩
   ·have t2:=str_ne he
    have HN:Hid (∀ k (hk:k < L.length),k < j + 1 → L[k].1 ≠ t.data.toList):=Lib.hid (fun k h1 h3=>by
      by_cases hk:k < j
      ·exact HNo.out k h1 hk
      ·obtain rfl:k = j:=by omega
       rw [← HXl.out]
       exact fun e=>he (bytes_ext e))
    clear he
    go_wp2
    go_roundw
    case rel=>exact ⟨j + 1,by omega,by go_num,HN,HA.out⟩
    case measure=>simp [intOf];omega
  ·obtain rfl:j = L.length:=by omega
   have t1:decide ((L.length:Int) < (L.length:Int)) = false:=by simp
   have t1':decide (L.length < L.length) = false:=by simp
   have HR:=Lib.hid (valsS_no (t:=t.data.toList) (fun k hk=>HNo.out k hk hk))
   clear hbel
   go_wp2
   go_ret
   exact ⟨_,rfl,by rw [HR.out];exact isT_nil _ _ _ _,HBel.out⟩
set_option maxRecDepth 100000 in
set_option maxHeartbeats 2000000 in
theorem hasS_any (L:List AT) (hs:L.length ≤ 1000) (v:Value) (t:ByteArray) (w:World) (h:IsA w.heap.size w L v) :
  Calls Tryz.prog 139 #[v,.string t] w fun e w'=>e = .returned (.bool (hasS L t.data.toList)) ∧ Below w.heap.size w w':=by
 have hv:=valsOf_any L hs v t w h
 obtain ⟨sa,sc,hsv,_⟩:=h
 obtain ⟨sn,hsn⟩:∃ n,n = L.length:=⟨_,rfl⟩
 rw [← hsn] at hsv
 subst hsv
 have HV:=Lib.hid hv
 clear hv hsn
 go_enter Tryz.func139,Tryz.ntmps139
 go_wp2_with (go_at_call 142;refine (HV.out).mono ?_;rintro e w2 ⟨u,rfl,hu,hb2⟩;(obtain ⟨ua,uc,rfl,_⟩:=hu);have HB2:=Lib.hid hb2;clear hb2)
 go_ret
 exact ⟨by unfold hasS;congr 2,HB2.out⟩
set_option maxRecDepth 100000 in
theorem most_any (t:ByteArray) (w:World):Calls Tryz.prog 166 #[.string t] w fun e w'=>e = .returned (.int .i64 (mostS t.data.toList)) ∧ w' = w:=by
 by_cases he:t = ⟨#[117,105,100,110,117,109,98,101,114]⟩
 ·subst he
  go_enter Tryz.func166,Tryz.ntmps166
  go_wp2
  go_ret
  exact ⟨rfl,rfl⟩
 ·have t1:=str_ne he
  have t2:(t.toList == [117,105,100,110,117,109,98,101,114]) = false:=by
   rw [← t1];congr 1;rw [ByteArray.toList_eq]
  have hm:mostS t.data.toList = 40:=by
   unfold mostS
   rw [if_neg (fun e=>he (bytes_ext e))]
  rw [hm]
  clear he t1 hm
  go_enter Tryz.func166,Tryz.ntmps166
  go_wp2
  go_ret
  exact ⟨rfl,rfl⟩
end Go.Proofs.YtlimajgmdhhggaaGreatDoor
namespace Go.Proofs.YtlimajgmdhhggaaGreatDoor
open Go.RowKit
set_option linter.unusedVariables false
def LaidW (w:World):Prop:=(∃ tp p,w.var? Tryz.prog "strconv.ErrSyntax" = some #[.iface tp p]) ∧ (∃ tp p,w.var? Tryz.prog "strconv.ErrRange" = some #[.iface tp p]) ∧ Lib.TabIs Tryz.prog w "internal/strconv.uint64pow10" .u64 Lib.pow10Tab
theorem LaidW.below {w w':World} (h:LaidW w) (hb:Below w.heap.size w w'):LaidW w':=by
 obtain ⟨⟨t1,p1,h1⟩,⟨t2,p2,h2⟩,h3⟩:=h
 exact ⟨⟨t1,p1,Joins.var_stays (g:=2) (by kernel_rfl) h1 hb (Nat.le_refl _)⟩,⟨t2,p2,Joins.var_stays (g:=3) (by kernel_rfl) h2 hb (Nat.le_refl _)⟩,Joins.tab_stays (g:=4) (by kernel_rfl) h3 hb (Nat.le_refl _)⟩
theorem LaidW.drew {w:World} (h:LaidW w) (n:Nat):LaidW (w.drewN n):=h.below ⟨rfl,rfl,rfl,Nat.le_refl _,fun _ _=>rfl⟩
theorem parseI_ok (s:ByteArray) (hs:s.size ≤ 281474976710656) (v:Int) (h:Lib.parseIntB 64 s.data.toList = .ok v) (w:World) :
  Calls Tryz.prog 186 #[.string s,.int .i64 10,.int .i64 64] w fun e w'=>e = .returned (.tuple #[.int .i64 v,.nilIface]) ∧ Below w.heap.size w w':=
 (Tryz.strconv_ParseInt_10_at64_ok s (by omega) v h w).mono fun e w' ⟨he,hw⟩=>⟨he,by rcases hw with rfl | ⟨t,rfl⟩;exact Below.refl _ _;exact Lib.bytesWorld_below _ _ _⟩
theorem parseI_bad (s:ByteArray) (hs:s.size ≤ 281474976710656) (h:∀ v,Lib.parseIntB 64 s.data.toList ≠ .ok v) (w:World) (hw:LaidW w) :
  Calls Tryz.prog 186 #[.string s,.int .i64 10,.int .i64 64] w fun e w'=>∃ v t N,(e = .returned (.tuple #[.int .i64 v,.iface t (.pointer (some ⟨N,0,none⟩))])) ∧ Below w.heap.size w w':=by
 obtain ⟨⟨t1,p1,h1⟩,⟨t2,p2,h2⟩,h3⟩:=hw
 cases e:Lib.parseIntB 64 s.data.toList with
 | ok v=>exact absurd e (h v)
 | «syntax»=>exact (Tryz.strconv_ParseInt_10_at64_syntax_var s hs e t1 p1 w h1).mono fun e w' ⟨N,he,_,_,hb⟩=>⟨_,_,N,he,hb⟩
 | range=>exact (Tryz.strconv_ParseInt_10_at64_range_var s hs e t2 p2 w h2).mono fun e w' ⟨N,he,_,_,hb⟩=>⟨_,_,N,he,hb⟩
theorem fmt_any (v:Int) (h0:-9223372036854775808 ≤ v) (h1:v ≤ 9223372036854775807) (w:World) (hw:LaidW w) :
  Calls Tryz.prog 187 #[.int .i64 v,.int .i64 10] w fun e w'=>e = .returned (.string ⟨(Lib.itoa v).toArray⟩) ∧ Below w.heap.size w w':=
 (Tryz.strconv_FormatInt_10 v h0 h1 w hw.2.2).mono fun e w' ⟨he,k,os,hw⟩=>⟨he,by subst hw;exact Lib.below_grow _ _ (Nat.le_refl _) k os⟩
def numV (o:Option Int):Value:=match o with
 | some v=>.tuple #[.int .i64 v,.bool true]
 | none=>.tuple #[.int .i64 0,.bool false]
set_option maxRecDepth 100000 in
set_option maxHeartbeats 1000000 in
theorem number_any (s:ByteArray) (hs:s.size ≤ 281474976710656) (w:World) (hw:LaidW w) :
  Calls Tryz.prog 162 #[.string s] w fun e w'=>e = .returned (numV (numD s.data.toList)) ∧ Below w.heap.size w w':=by
 have htr:=fun w=>Tryz.strings_TrimPrefix s ⟨#[45]⟩ w
 obtain ⟨T,hT⟩:∃ T:ByteArray,T = ⟨(Lib.trimPrefix s.data.toList (⟨#[45]⟩:ByteArray).data.toList).toArray⟩:=⟨_,rfl⟩
 have hTl:(Lib.trimPrefix s.data.toList [45]).length = T.size:=by rw [hT,← bytes_len]
 rw [← hT] at htr
 have HTr:=Lib.hid htr
 clear hT htr
 unfold numD
 rw [hTl]
 clear hTl
 have HW:=Lib.hid hw
 clear hw
 by_cases h15:T.size ≤ 15
 ·rw [if_pos h15]
  have t0:decide ((15:Int) < (T.size:Int)) = false:=by simp;omega
  by_cases hok:∃ v,Lib.parseIntB 64 s.data.toList = .ok v
  ·obtain ⟨v,hv⟩:=hok
   have hb:=Lib.atoiAll_bounds (by rw [← Lib.parseIntB_64];exact hv)
   have hp:=fun w=>parseI_ok s hs v hv w
   have hf:=fun w=>fmt_any v hb.1 hb.2 w
   obtain ⟨F,hF⟩:∃ F:ByteArray,F = ⟨(Lib.itoa v).toArray⟩:=⟨_,rfl⟩
   have hFl:Lib.itoa v = F.data.toList:=by rw [hF]
   rw [← hF] at hf
   rw [hv]
   simp only [okN,hFl]
   have HP:=Lib.hid hp
   have HF:=Lib.hid hf
   clear hv hb hp hf hF hFl
   by_cases he:F = s
   ·subst he
    rw [if_pos rfl]
    go_enter Tryz.func162,Tryz.ntmps162
    go_wp2_with (first | (go_at_call 185;refine (HTr.out _).mono ?_;rintro e w1 ⟨rfl,rfl⟩) | (go_at_call 186;refine (HP.out _).mono ?_;rintro e w2 ⟨rfl,hb2⟩;have HB2:=Lib.hid hb2;clear hb2) | (go_at_call 187;refine (HF.out _ (HW.out.below HB2.out)).mono ?_;rintro e w3 ⟨rfl,hb3⟩;have HB3:=Lib.hid (bthen HB2.out hb3);clear hb3))
    go_ret2
    exact ⟨rfl,HB3.out⟩
   ·have hn:¬ F.data.toList = s.data.toList:=fun e=>he (bytes_ext e)
    rw [if_neg hn]
    have t1:=str_ne he
    have HN:=Lib.hid hn
    clear hn he
    go_enter Tryz.func162,Tryz.ntmps162
    go_wp2_with (first | (go_at_call 185;refine (HTr.out _).mono ?_;rintro e w1 ⟨rfl,rfl⟩) | (go_at_call 186;refine (HP.out _).mono ?_;rintro e w2 ⟨rfl,hb2⟩;have HB2:=Lib.hid hb2;clear hb2) | (go_at_call 187;refine (HF.out _ (HW.out.below HB2.out)).mono ?_;rintro e w3 ⟨rfl,hb3⟩;have HB3:=Lib.hid (bthen HB2.out hb3);clear hb3))
    go_ret2
    exact ⟨rfl,HB3.out⟩
  ·have hno:∀ v,Lib.parseIntB 64 s.data.toList ≠ .ok v:=fun v e=>hok ⟨v,e⟩
   have hp:=fun w=>parseI_bad s hs hno w
   have hv:okN (Lib.parseIntB 64 s.data.toList) s.data.toList = none:=by
    cases e:Lib.parseIntB 64 s.data.toList with
    | ok v=>exact absurd e (hno v)
    | «syntax»=>rfl
    | range=>rfl
   rw [hv]
   have HP:=Lib.hid hp
   clear hv hp hno hok
   go_enter Tryz.func162,Tryz.ntmps162
   go_wp2_with (first | (go_at_call 185;refine (HTr.out _).mono ?_;rintro e w1 ⟨rfl,rfl⟩) | (go_at_call 186;refine (HP.out _ HW.out).mono ?_;rintro e w2 ⟨v,t,N,rfl,hb2⟩;have HB2:=Lib.hid hb2;clear hb2))
   go_ret2
   exact ⟨rfl,HB2.out⟩
 ·rw [if_neg h15]
  have t0:decide ((15:Int) < (T.size:Int)) = true:=by simp;omega
  go_enter Tryz.func162,Tryz.ntmps162
  go_wp2_with (go_at_call 185;refine (HTr.out _).mono ?_;rintro e w1 ⟨rfl,rfl⟩)
  go_ret2
  exact ⟨rfl,Below.refl _ _⟩
end Go.Proofs.YtlimajgmdhhggaaGreatDoor
namespace Go.Proofs.YtlimajgmdhhggaaGreatDoor
open Go.RowKit
set_option linter.unusedVariables false
def saidP (o:Option (List UInt8)):Value:=match o with
 | some k=>.tuple #[.string ⟨k.toArray⟩,.bool true]
 | none=>.tuple #[.string ⟨#[]⟩,.bool false]
set_option maxRecDepth 100000 in
set_option maxHeartbeats 4000000 in
theorem norm_any (t s:ByteArray) (w:World) (hw:LaidW w) :
  Calls Tryz.prog 134 #[.string t,.string s] w fun e w'=>e = .returned (saidP (normD (ruleD t.data.toList) s.data.toList)) ∧ Below w.heap.size w w':=by
 have hr:=fun w=>rule_any t w
 generalize ruleD t.data.toList = r at hr ⊢
 have HR:=Lib.hid hr
 clear hr
 have HW:=Lib.hid hw
 clear hw
 by_cases h0:s.data.toList = []
 ·obtain ⟨e1,e2⟩:=bytes_nil h0
  have hv:normD r s.data.toList = none:=by unfold normD;rw [if_pos (.inl h0)]
  have HV:=Lib.hid hv
  clear hv h0
  go_enter Tryz.func134,Tryz.ntmps134
  go_wp2
  go_ret2
  exact ⟨by rw [HV.out];rfl,Below.refl _ _⟩
 obtain ⟨e1,e2⟩:=bytes_some h0
 by_cases h100:100 < s.size
 ·have t1:decide ((100:Int) < (s.size:Int)) = true:=by simp;omega
  have hv:normD r s.data.toList = none:=by unfold normD;rw [if_pos (.inr (by rw [bytes_len];exact h100))]
  have HV:=Lib.hid hv
  clear hv h0
  go_enter Tryz.func134,Tryz.ntmps134
  go_wp2
  go_ret2
  exact ⟨by rw [HV.out];rfl,Below.refl _ _⟩
 have t1:decide ((100:Int) < (s.size:Int)) = false:=by simp;omega
 have hd:normD r s.data.toList = if r = 1 then (if fold s.data.toList = [] then none else some (fold s.data.toList)) else if r = 2 then (if (numD s.data.toList).isSome then some s.data.toList else none)
   else if r = 3 then (match keyD s.data.toList with | some k=>if k = [] then none else some k | none=>none) else if r = 4 then some s.data.toList else none:=by
  unfold normD;rw [if_neg (by rw [bytes_len];rintro (h | h);exact h0 h;exact h100 h)];rfl
 have HD:=Lib.hid hd
 clear hd h0
 by_cases h1:r = 1
 ·subst h1
  have hf:=fun w=>fold_any trim_any s w (by omega)
  obtain ⟨F,hF⟩:∃ F:ByteArray,F = foldB s:=⟨_,rfl⟩
  have hFl:fold s.data.toList = F.data.toList:=by rw [hF];simp [foldB]
  rw [← hF] at hf
  have HF:=Lib.hid hf
  have hD:=HD.out
  rw [if_pos rfl,hFl] at hD
  clear hf hF hFl HD
  by_cases hne:F.data.toList = []
  ·obtain ⟨n1,n2⟩:=bytes_nil hne
   rw [if_pos hne] at hD
   have hFe:F = ⟨#[]⟩:=bytes_ext hne
   have HD:=Lib.hid hD
   have HFe:=Lib.hid hFe
   clear hD hFe hne
   go_enter Tryz.func134,Tryz.ntmps134
   go_wp2_with (first | (go_at_call 161;refine (HR.out _).mono ?_;rintro e w1 ⟨rfl,hb1⟩;have HB:=Lib.hid hb1;clear hb1) | (go_at_call 115;refine (HF.out _).mono ?_;rintro e w2 ⟨rfl,hb2⟩;have HB:=Lib.hid (bthen HB.out hb2);clear hb2))
   go_ret2
   exact ⟨by rw [HD.out,HFe.out];rfl,HB.out⟩
  ·obtain ⟨n1,n2⟩:=bytes_some hne
   rw [if_neg hne] at hD
   have HD:=Lib.hid hD
   clear hD hne
   go_enter Tryz.func134,Tryz.ntmps134
   go_wp2_with (first | (go_at_call 161;refine (HR.out _).mono ?_;rintro e w1 ⟨rfl,hb1⟩;have HB:=Lib.hid hb1;clear hb1) | (go_at_call 115;refine (HF.out _).mono ?_;rintro e w2 ⟨rfl,hb2⟩;have HB:=Lib.hid (bthen HB.out hb2);clear hb2))
   go_ret2
   exact ⟨by rw [HD.out];simp [saidP],HB.out⟩
 have u1:((r:Int) == 1) = false:=by simp;omega
 by_cases h2:r = 2
 ·subst h2
  have hn:=fun w hw=>number_any s (by omega) w hw
  have HN:=Lib.hid hn
  clear hn u1 h1
  have hD:normD 2 s.data.toList = (if (numD s.data.toList).isSome = true then some s.data.toList else none):=(HD.out.trans (if_neg (by decide))).trans (if_pos rfl)
  clear HD
  cases hnum:numD s.data.toList with
  | none=>
   rw [hnum] at hD HN
   have HD:=Lib.hid hD
   clear hD hnum
   go_enter Tryz.func134,Tryz.ntmps134
   go_wp2_with (first | (go_at_call 161;refine (HR.out _).mono ?_;rintro e w1 ⟨rfl,hb1⟩;have HB:=Lib.hid hb1;clear hb1) | (go_at_call 162;refine (HN.out _ (HW.out.below HB.out)).mono ?_;rintro e w2 ⟨he,hb2⟩;simp only [numV] at he;subst he;have HB:=Lib.hid (bthen HB.out hb2);clear hb2))
   go_ret2
   exact ⟨by rw [HD.out];rfl,HB.out⟩
  | some v=>
   rw [hnum] at hD HN
   have HD:=Lib.hid hD
   clear hD hnum
   have hcl:=fun w=>clone_any s w (by omega)
   have HCl:=Lib.hid hcl
   clear hcl
   go_enter Tryz.func134,Tryz.ntmps134
   go_wp2_with (first | (go_at_call 161;refine (HR.out _).mono ?_;rintro e w1 ⟨rfl,hb1⟩;have HB:=Lib.hid hb1;clear hb1) | (go_at_call 162;refine (HN.out _ (HW.out.below HB.out)).mono ?_;rintro e w2 ⟨he,hb2⟩;simp only [numV] at he;subst he;have HB:=Lib.hid (bthen HB.out hb2);clear hb2) | (go_at_call 61;refine (HCl.out _).mono ?_;rintro e w3 ⟨rfl,hb3⟩;have HB:=Lib.hid (bthen HB.out hb3);clear hb3))
   go_ret2
   exact ⟨by rw [HD.out];simp [saidP],HB.out⟩
 have u2:((r:Int) == 2) = false:=by simp;omega
 by_cases h3:r = 3
 ·subst h3
  have hk:=fun w=>key_any s (by omega) w
  have HK:=Lib.hid hk
  clear hk u1 u2 h1 h2
  have hD:normD 3 s.data.toList = (match keyD s.data.toList with | some k=>if k = [] then none else some k | none=>none):=((HD.out.trans (if_neg (by decide))).trans (if_neg (by decide))).trans (if_pos rfl)
  clear HD
  cases hkey:keyD s.data.toList with
  | none=>
   rw [hkey] at hD HK
   have HD:=Lib.hid hD
   clear hD hkey
   go_enter Tryz.func134,Tryz.ntmps134
   go_wp2_with (first | (go_at_call 161;refine (HR.out _).mono ?_;rintro e w1 ⟨rfl,hb1⟩;have HB:=Lib.hid hb1;clear hb1) | (go_at_call 79;refine (HK.out _).mono ?_;rintro e w2 ⟨he,hb2⟩;simp only [keyV] at he;subst he;have HB:=Lib.hid (bthen HB.out hb2);clear hb2))
   go_ret2
   exact ⟨by rw [HD.out];rfl,HB.out⟩
  | some k=>
   rw [hkey] at hD HK
   obtain ⟨K,hKB⟩:∃ K:ByteArray,K = ⟨k.toArray⟩:=⟨_,rfl⟩
   have hKl:k = K.data.toList:=by rw [hKB]
   have hk2:=HK.out
   simp only [keyV,← hKB] at hk2
   have HK2:=Lib.hid hk2
   clear hk2 HK hkey hKB
   simp only at hD
   subst hKl
   by_cases hne:K.data.toList = []
   ·obtain ⟨n1,n2⟩:=bytes_nil hne
    rw [if_pos hne] at hD
    have hFe:K = ⟨#[]⟩:=bytes_ext hne
    have HD:=Lib.hid hD
    have HFe:=Lib.hid hFe
    clear hD hFe hne
    go_enter Tryz.func134,Tryz.ntmps134
    go_wp2_with (first | (go_at_call 161;refine (HR.out _).mono ?_;rintro e w1 ⟨rfl,hb1⟩;have HB:=Lib.hid hb1;clear hb1) | (go_at_call 79;refine (HK2.out _).mono ?_;rintro e w2 ⟨rfl,hb2⟩;have HB:=Lib.hid (bthen HB.out hb2);clear hb2))
    go_ret2
    exact ⟨by rw [HD.out,HFe.out];rfl,HB.out⟩
   ·obtain ⟨n1,n2⟩:=bytes_some hne
    rw [if_neg hne] at hD
    have HD:=Lib.hid hD
    clear hD hne
    go_enter Tryz.func134,Tryz.ntmps134
    go_wp2_with (first | (go_at_call 161;refine (HR.out _).mono ?_;rintro e w1 ⟨rfl,hb1⟩;have HB:=Lib.hid hb1;clear hb1) | (go_at_call 79;refine (HK2.out _).mono ?_;rintro e w2 ⟨rfl,hb2⟩;have HB:=Lib.hid (bthen HB.out hb2);clear hb2))
    go_ret2
    exact ⟨by rw [HD.out];simp [saidP],HB.out⟩
 have u3:((r:Int) == 3) = false:=by simp;omega
 have hD:=HD.out
 rw [if_neg h1,if_neg h2,if_neg h3] at hD
 by_cases h4:r = 4
 ·subst h4
  rw [if_pos rfl] at hD
  have HD:=Lib.hid hD
  have hcl:=fun w=>clone_any s w (by omega)
  have HCl:=Lib.hid hcl
  clear hcl hD u1 u2 u3 h1 h2 h3
  go_enter Tryz.func134,Tryz.ntmps134
  go_wp2_with (first | (go_at_call 161;refine (HR.out _).mono ?_;rintro e w1 ⟨rfl,hb1⟩;have HB:=Lib.hid hb1;clear hb1) | (go_at_call 61;refine (HCl.out _).mono ?_;rintro e w3 ⟨rfl,hb3⟩;have HB:=Lib.hid (bthen HB.out hb3);clear hb3))
  go_ret2
  exact ⟨by rw [HD.out];simp [saidP],HB.out⟩
 ·rw [if_neg h4] at hD
  have u4:((r:Int) == 4) = false:=by simp;omega
  have HD:=Lib.hid hD
  clear hD h1 h2 h3 h4
  go_enter Tryz.func134,Tryz.ntmps134
  go_wp2_with (go_at_call 161;refine (HR.out _).mono ?_;rintro e w1 ⟨rfl,hb1⟩;have HB:=Lib.hid hb1;clear hb1)
  go_ret2
  exact ⟨by rw [HD.out];rfl,HB.out⟩
theorem saidP_some {x:List UInt8} {X:ByteArray} (h:X = ⟨x.toArray⟩):saidP (some x) = .tuple #[.string X,.bool true]:=by rw [h];rfl
def normsV (o:Option (List UInt8)) (q:Option (List UInt8)):Value:=match o,q with
 | some x,some y=>.tuple #[.string ⟨x.toArray⟩,.string ⟨y.toArray⟩,.bool true]
 | _,_=>.tuple #[.string ⟨#[]⟩,.string ⟨#[]⟩,.bool false]
set_option maxRecDepth 100000 in
set_option maxHeartbeats 4000000 in
theorem norms_any (t a b:ByteArray) (w:World) (hw:LaidW w) :
  Calls Tryz.prog 95 #[.string t,.string a,.string b] w fun e w'=>e = .returned (normsV (normD (ruleD t.data.toList) a.data.toList) (normD (ruleD t.data.toList) b.data.toList)) ∧ Below w.heap.size w w':=by
 have ha:=fun w hw=>norm_any t a w hw
 have hb:=fun w hw=>norm_any t b w hw
 generalize normD (ruleD t.data.toList) a.data.toList = p at ha ⊢
 generalize normD (ruleD t.data.toList) b.data.toList = q at hb ⊢
 have HW:=Lib.hid hw
 clear hw
 cases p with
 | none=>
  have HA:=Lib.hid ha
  clear ha hb
  go_enter Tryz.func95,Tryz.ntmps95
  go_wp2_with (go_at_call 134;refine (HA.out _ HW.out).mono ?_;rintro e w1 ⟨he,hb1⟩;simp only [saidP] at he;subst he;have HB:=Lib.hid hb1;clear hb1)
  go_ret3
  exact ⟨rfl,HB.out⟩
 | some x=>
  obtain ⟨X,hX⟩:∃ X:ByteArray,X = ⟨x.toArray⟩:=⟨_,rfl⟩
  simp only [saidP_some hX] at ha
  have HA:=Lib.hid ha
  clear ha
  cases q with
  | none=>
   have HQ:=Lib.hid hb
   clear hb hX
   have tok:True:=trivial
   go_enter Tryz.func95,Tryz.ntmps95
   go_wp2_with (go_at_call 134;first | (have _t:=tok;refine (HA.out _ HW.out).mono ?_;rintro e w1 ⟨rfl,hb1⟩;have HB:=Lib.hid hb1;clear hb1 tok) | (refine (HQ.out _ (HW.out.below HB.out)).mono ?_;rintro e w2 ⟨he,hb2⟩;simp only [saidP] at he;subst he;have HB:=Lib.hid (bthen HB.out hb2);clear hb2))
   go_ret3
   exact ⟨rfl,HB.out⟩
  | some y=>
   obtain ⟨Y,hY⟩:∃ Y:ByteArray,Y = ⟨y.toArray⟩:=⟨_,rfl⟩
   simp only [saidP_some hY] at hb
   have hv:normsV (some x) (some y) = .tuple #[.string X,.string Y,.bool true]:=by rw [hX,hY];rfl
   rw [hv]
   have HQ:=Lib.hid hb
   clear hb hX hY hv
   have tok:True:=trivial
   go_enter Tryz.func95,Tryz.ntmps95
   go_wp2_with (go_at_call 134;first | (have _t:=tok;refine (HA.out _ HW.out).mono ?_;rintro e w1 ⟨rfl,hb1⟩;have HB:=Lib.hid hb1;clear hb1 tok) | (refine (HQ.out _ (HW.out.below HB.out)).mono ?_;rintro e w2 ⟨rfl,hb2⟩;have HB:=Lib.hid (bthen HB.out hb2);clear hb2))
   go_ret3
   exact ⟨rfl,HB.out⟩
end Go.Proofs.YtlimajgmdhhggaaGreatDoor
namespace Go.Proofs.YtlimajgmdhhggaaGreatDoor
open Go.RowKit
set_option linter.unusedVariables false
def sameO (p q:Option (List UInt8)):Bool:=match p,q with
 | some x,some y=>x == y
 | _,_=>false
set_option maxRecDepth 100000 in
set_option maxHeartbeats 4000000 in
theorem same_any (t a b : ByteArray) (w : World) (hw : LaidW w) :
    Calls Tryz.prog 56 #[.string t, .string a, .string b] w fun e w' => e = .returned (.bool (sameO (normD (ruleD t.data.toList) a.data.toList) (normD (ruleD t.data.toList) b.data.toList))) ∧ Below w.heap.size w w' := by
  have hn := norms_any t a b w hw
  generalize normD (ruleD t.data.toList) a.data.toList = p at hn ⊢
  generalize normD (ruleD t.data.toList) b.data.toList = q at hn ⊢
  have key : (∃ x y, p = some x ∧ q = some y) ∨ (normsV p q = .tuple #[.string ⟨#[]⟩, .string ⟨#[]⟩, .bool false] ∧ sameO p q = false) := by
    cases p with
    | none => exact .inr ⟨rfl, rfl⟩
    | some x => cases q with
      | none => exact .inr ⟨rfl, rfl⟩
      | some y => exact .inl ⟨x, y, rfl, rfl⟩
  rcases key with ⟨x, y, rfl, rfl⟩ | ⟨hv, hs⟩
  · obtain ⟨X, hX⟩ : ∃ X : ByteArray, X = ⟨x.toArray⟩ := ⟨_, rfl⟩
    obtain ⟨Y, hY⟩ : ∃ Y : ByteArray, Y = ⟨y.toArray⟩ := ⟨_, rfl⟩
    have hv : normsV (some x) (some y) = .tuple #[.string X, .string Y, .bool true] := by rw [hX, hY]; rfl
    rw [hv] at hn
    have HN := Lib.hid hn
    by_cases he : X = Y
    · have hs : sameO (some x) (some y) = true := by
        have : x = y := by have h2 : X.data.toList = Y.data.toList := by rw [he]
                           rw [hX, hY] at h2; simpa using h2
        simp [sameO, this]
      rw [hs]
      subst he
      clear hn hv hX hY hs
      go_enter Tryz.func56, Tryz.ntmps56
      go_wp2_with (go_at_call 95; refine HN.out.mono ?_; rintro e w1 ⟨rfl, hb1⟩; have HB := Lib.hid hb1; clear hb1)
      go_ret
      exact ⟨rfl, HB.out⟩
    · have hs : sameO (some x) (some y) = false := by
        have : x ≠ y := fun e => he (by rw [hX, hY, e])
        simp [sameO, this]
      rw [hs]
      have t1 := str_ne he
      clear hn hv hX hY hs he
      go_enter Tryz.func56, Tryz.ntmps56
      go_wp2_with (go_at_call 95; refine HN.out.mono ?_; rintro e w1 ⟨rfl, hb1⟩; have HB := Lib.hid hb1; clear hb1)
      go_ret
      exact ⟨rfl, HB.out⟩
  · rw [hv] at hn
    rw [hs]
    have HN := Lib.hid hn
    clear hn hv hs
    go_enter Tryz.func56, Tryz.ntmps56
    go_wp2_with (go_at_call 95; refine HN.out.mono ?_; rintro e w1 ⟨rfl, hb1⟩; have HB := Lib.hid hb1; clear hb1)
    go_ret
    exact ⟨rfl, HB.out⟩
end Go.Proofs.YtlimajgmdhhggaaGreatDoor
namespace Go.Proofs.YtlimajgmdhhggaaGreatDoor
open Go.RowKit
set_option linter.unusedVariables false
structure CT where
 name:List UInt8
 sup:List UInt8
 st:Bool
 must:List UInt8
 may:List UInt8
def CT.mustL (c:CT):List (List UInt8):=Lib.fields c.must
def CT.mayL (c:CT):List (List UInt8):=Lib.fields c.may
def classL:List CT:=[
 ⟨[116,111,112],[],false,[111,98,106,101,99,116,99,108,97,115,115],[]⟩,
 ⟨[111,114,103,97,110,105,122,97,116,105,111,110],[116,111,112],true,[111],[100,101,115,99,114,105,112,116,105,111,110]⟩,
 ⟨[111,114,103,97,110,105,122,97,116,105,111,110,97,108,117,110,105,116],[116,111,112],true,[111,117],[100,101,115,99,114,105,112,116,105,111,110]⟩,
 ⟨[112,101,114,115,111,110],[116,111,112],true,[99,110,32,115,110],[100,101,115,99,114,105,112,116,105,111,110,32,117,115,101,114,112,97,115,115,119,111,114,100]⟩,
 ⟨[105,110,101,116,111,114,103,112,101,114,115,111,110],[112,101,114,115,111,110],true,[],[117,105,100,32,109,97,105,108]⟩,
 ⟨[112,111,115,105,120],[116,111,112],false,[117,105,100,32,117,105,100,110,117,109,98,101,114],[]⟩,
 ⟨[103,114,111,117,112,111,102,110,97,109,101,115],[116,111,112],true,[99,110,32,109,101,109,98,101,114],[100,101,115,99,114,105,112,116,105,111,110]⟩]
def findC (n:List UInt8):Option CT:=classL.find? (fun c=>c.name == n)
theorem findC_at {n:List UInt8} {k:Nat} (hk:k < classL.length) (h:∀ i,(h:i < classL.length) → i < k → classL[i].name ≠ n) (he:classL[k].name = n):findC n = some classL[k]:=by
 unfold findC
 rw [List.find?_eq_some_iff_getElem]
 refine ⟨by simpa using he,k,hk,rfl,fun j hj=>?_⟩
 have:=h j (by omega) hj
 simpa using this
theorem findC_no {n:List UInt8} (h:∀ i,(h:i < classL.length) → classL[i].name ≠ n):findC n = none:=by
 unfold findC
 rw [List.find?_eq_none]
 intro a ha
 obtain ⟨k,hk,rfl⟩:=List.getElem_of_mem ha
 simpa using h k hk
theorem findC_mem {n:List UInt8} {c:CT} (h:findC n = some c):c ∈ classL ∧ c.name = n:=⟨List.mem_of_find?_eq_some h,by simpa using List.find?_some h⟩
def chainC:Nat → List UInt8 → List CT
 | 0,_=>[]
 | k + 1,n=>match findC n with
  | none=>[]
  | some c=>c :: chainC k c.sup
theorem chain_end:∀ c ∈ classL,chainC 3 c.sup = chainC 2 c.sup:=by
 intro c hc
 simp only [classL,List.mem_cons,List.not_mem_nil,or_false] at hc
 rcases hc with rfl | rfl | rfl | rfl | rfl | rfl | rfl <;> rfl
theorem chain_step {n:List UInt8} {c:CT} (h:findC n = some c):chainC 3 n = c :: chainC 3 c.sup:=by
 rw [chain_end c (findC_mem h).1]
 show (match findC n with | none=>[] | some c=>c :: chainC 2 c.sup) = _
 rw [h]
theorem chain_none {n:List UInt8} (h:findC n = none):chainC 3 n = []:=by
 show (match findC n with | none=>[] | some c=>c :: chainC 2 c.sup) = _
 rw [h]
def objB:List UInt8:=[111,98,106,101,99,116,99,108,97,115,115]
def allC:List (List UInt8) → Option (List CT × Bool)
 | []=>some ([],false)
 | v :: l=>match findC (fold v) with
  | none=>none
  | some c=>(allC l).map fun p=>(chainC 3 (fold v) ++ p.1,c.st || p.2)
def allR (A:List CT) (b:Bool) (l:List (List UInt8)):Option (List CT × Bool):=(allC l).map fun p=>(A ++ p.1,b || p.2)
theorem allR_none {A:List CT} {b:Bool} {v:List UInt8} {l:List (List UInt8)} (h:findC (fold v) = none):allR A b (v :: l) = none:=by
 simp [allR,allC,h]
theorem allR_step {A:List CT} {b:Bool} {v:List UInt8} {l:List (List UInt8)} {c:CT} (h:findC (fold v) = some c):allR A b (v :: l) = allR (A ++ chainC 3 (fold v)) (b || c.st) l:=by
 simp only [allR,allC,h]
 cases allC l with
 | none=>rfl
 | some p=>simp [List.append_assoc,Bool.or_assoc]
theorem allR_end (A:List CT) (b:Bool):allR A b [] = some (A,b):=by simp [allR,allC]
theorem allR_start (l:List (List UInt8)):allR [] false l = allC l:=by
 unfold allR
 cases allC l <;> simp
def mayC (A:List CT):List (List UInt8):=A.flatMap fun c=>c.mustL ++ c.mayL
def classedD (L:List AT):Bool:=match allC (valsS L objB) with
 | none=>false
 | some (A,s)=>s && (A.all (fun c=>c.mustL.all (hasS L)) && L.all (fun a=>(mayC A).contains a.1))
theorem leB_le {a b:List UInt8} (h:leB a b = true):a ≤ b:=by simpa only [leB,decide_eq_true_eq] using h
theorem compact_len_lt {zs:List (List UInt8)}:(Lib.compact zs).length < zs.length ↔ ∃ j,0 < j ∧ j < zs.length ∧ zs[j]? = zs[j - 1]?:=by
 unfold Lib.compact Lib.compactUpTo
 rw [List.length_map]
 constructor
 ·intro h
  have:¬ ∀ j ∈ List.range zs.length,Lib.keeps zs.toArray j = true:=fun e=>by
   rw [List.filter_eq_self.2 e,List.length_range] at h
   omega
  obtain ⟨j,hj⟩:=Classical.not_forall.1 this
  obtain ⟨hm,hk⟩:=Classical.not_imp.1 hj
  rw [List.mem_range] at hm
  simp only [Lib.keeps,decide_eq_true_eq,not_or,Decidable.not_not] at hk
  refine ⟨j,by omega,hm,?_⟩
  have h1:j < zs.toArray.size:=by simpa using hm
  have h2:j - 1 < zs.toArray.size:=by simp;omega
  have e:=hk.2
  rw [getElem!_pos _ j h1,getElem!_pos _ (j - 1) h2] at e
  simp only [List.getElem_toArray] at e
  rw [List.getElem?_eq_getElem hm,List.getElem?_eq_getElem (by omega),e]
 ·rintro ⟨j,h0,hm,e⟩
  have h1:j < zs.toArray.size:=by simpa using hm
  have h2:j - 1 < zs.toArray.size:=by simp;omega
  have hk:Lib.keeps zs.toArray j = false:=by
   refine Lib.keeps_neg h0 ?_
   rw [getElem!_pos _ j h1,getElem!_pos _ (j - 1) h2]
   simp only [List.getElem_toArray]
   rw [List.getElem?_eq_getElem hm,List.getElem?_eq_getElem (by omega)] at e
   exact Option.some.inj e
  have hlt:((List.range zs.length).filter (Lib.keeps zs.toArray)).length < (List.range zs.length).length:=List.length_filter_lt_length_iff_exists.2 ⟨j,List.mem_range.2 hm,by rw [hk];simp⟩
  rw [List.length_range] at hlt
  exact hlt
theorem dup_iff (l:List (List UInt8)):(Lib.compact (l.mergeSort leB)).length < l.length ↔ ¬ l.Nodup:=by
 have tr:∀ a b c:List UInt8,leB a b = true → leB b c = true → leB a c = true:=fun a b c h1 h2=>by simp only [leB,decide_eq_true_eq] at *;exact List.le_trans h1 h2
 have tot:∀ a b:List UInt8,(leB a b || leB b a) = true:=fun a b=>by simp only [leB,Bool.or_eq_true,decide_eq_true_eq];exact List.le_total a b
 have hp:=List.mergeSort_perm l leB
 have hs:=List.pairwise_mergeSort tr tot l
 rw [← hp.nodup_iff,← hp.length_eq,compact_len_lt]
 generalize l.mergeSort leB = m at hs
 rw [List.pairwise_iff_getElem] at hs
 constructor
 ·rintro ⟨j,h0,hm,e⟩ hn
  have:=List.pairwise_iff_getElem.1 hn (j - 1) j (by omega) hm (by omega)
  rw [List.getElem?_eq_getElem hm,List.getElem?_eq_getElem (by omega)] at e
  exact this (Option.some.inj e).symm
 ·intro hn
  refine Classical.byContradiction fun hno=>hn (List.pairwise_iff_getElem.2 fun i j hi hj hij e=>hno ⟨i + 1,by omega,by omega,?_⟩)
  have h1:i + 1 < m.length:=by omega
  have a:=leB_le (hs i (i + 1) hi h1 (by omega))
  have b:m[i + 1] ≤ m[j]:=by
   by_cases q:i + 1 = j
   ·subst q;exact List.le_refl _
   ·exact leB_le (hs (i + 1) j h1 hj (by omega))
  rw [← e] at b
  rw [List.getElem?_eq_getElem h1,show i + 1 - 1 = i from by omega,List.getElem?_eq_getElem hi,List.le_antisymm b a]
def normsS (r:Nat):List (List UInt8) → Option (List (List UInt8))
 | []=>some []
 | v :: l=>match normD r v with
  | none=>none
  | some x=>(normsS r l).map (x :: ·)
def valsC (t:List UInt8) (V:List (List UInt8)):Int:=
 if V.length = 0 ∨ mostS t < (V.length:Int) then 19 else match normsS (ruleD t) V with
 | none=>21
 | some l=>if l.Nodup then 0 else 20
def normsR (r:Nat) (A:List (List UInt8)) (l:List (List UInt8)):Option (List (List UInt8)):=(normsS r l).map (A ++ ·)
theorem normsR_none {r:Nat} {A l:List (List UInt8)} {v:List UInt8} (h:normD r v = none):normsR r A (v :: l) = none:=by
 simp [normsR,normsS,h]
theorem normsR_step {r:Nat} {A l:List (List UInt8)} {v x:List UInt8} (h:normD r v = some x):normsR r A (v :: l) = normsR r (A ++ [x]) l:=by
 simp only [normsR,normsS,h]
 cases normsS r l <;> simp
theorem normsR_end (r:Nat) (A:List (List UInt8)):normsR r A [] = some A:=by simp [normsR,normsS]
theorem normsR_start (r:Nat) (l:List (List UInt8)):normsR r [] l = normsS r l:=by
 unfold normsR
 cases normsS r l <;> simp
def soundR:List AT → List AT → Except Int (List AT)
 | A,[]=>.ok A
 | A,a :: l=>match canonD a.1 with
  | none=>.error 17
  | some t=>if hasS A t then .error 20 else if valsC t a.2 = 0 then soundR (A ++ [(t,a.2)]) l else .error (valsC t a.2)
def namedD (L:List AT) (d:List UInt8):Bool:=match parseD d with
 | some (r :: _)=>(valsS L ((canonD r.1).getD [])).any fun v=>sameO (normD (ruleD ((canonD r.1).getD [])) v) (normD (ruleD ((canonD r.1).getD [])) r.2)
 | _=>false
def behindD (L:List AT) (d:List UInt8):Int:=if classedD L = false then 65 else if namedD L d = false then 64 else 0
def checkD (d:List UInt8) (L:List AT):Int:=match keyD d with
 | none=>34
 | some k=>if k = [] then 34 else if 20 < L.length then 19 else match soundR [] L with
  | .error c=>c
  | .ok A=>behindD A d
end Go.Proofs.YtlimajgmdhhggaaGreatDoor
namespace Go.Proofs.YtlimajgmdhhggaaGreatDoor
open Go.RowKit
set_option linter.unusedVariables false
def SaysV (B:Nat) (w:World) (P:List PT) (L:List AT):Prop:=P.length = L.length ∧ ∀ j (h:j < L.length) (h':j < P.length),P[j].1 = L[j].1 ∧ IsT B w L[j].2 P[j].2
def OwnV (B:Nat) (w:World) (v:Value) (L:List AT):Prop:=∃ P,RowP B w v P ∧ SaysV B w P L
theorem saysV_go {B n:Nat} {w w':World} {P:List PT} {L:List AT} (h:SaysV B w P L) (hb:Below n w w') (hn:B ≤ n):SaysV B w' P L:=
 ⟨h.1,fun j h1 h2=>⟨(h.2 j h1 h2).1,(h.2 j h1 h2).2.below (hb.mono hn) (Nat.le_refl _)⟩⟩
theorem ownV_below {B:Nat} {w w':World} {v:Value} {L:List AT} (h:OwnV B w v L) (hb:Below w.heap.size w w') (hB:B ≤ w.heap.size):OwnV B w' v L:=by
 obtain ⟨P,h1,h2⟩:=h
 exact ⟨P,rowP_below h1 hb,saysV_go h2 hb hB⟩
theorem ownV_slice {B:Nat} {w:World} {v:Value} {L:List AT} (h:OwnV B w v L):∃ a c,v = .slice a L.length c:=by
 obtain ⟨P,h1,h2⟩:=h
 rw [← h2.1]
 exact rowP_slice h1
theorem ownV_nil (B:Nat) (w:World):OwnV B w (.slice none 0 0) []:=⟨[],World.ownsRow_nil _ _ _ _,rfl,fun j h=>absurd h (by simp)⟩
theorem ownV_isA {B:Nat} {w:World} {v:Value} {L:List AT} (h:OwnV B w v L) (hl:L.length ≤ maxLen) (hB:B ≤ w.heap.size):IsA w.heap.size w L v:=by
 obtain ⟨P,h1,h2⟩:=h
 by_cases hne:P = []
 ·subst hne
  obtain ⟨a,c,hv⟩:=rowP_slice h1
  have:L = []:=List.eq_nil_of_length_eq_zero (by have:=h2.1;simpa using this.symm)
  subst this
  exact ⟨a,c,hv,hl,fun j hj=>absurd hj (by simp)⟩
 ·obtain ⟨g,c,hv,_,hg,hc⟩:=rowP_at h1 hne
  refine ⟨_,c,by rw [hv,h2.1],hl,fun j hj=>?_⟩
  have hj':j < P.length:=by rw [h2.1];exact hj
  obtain ⟨e1,e2⟩:=h2.2 j hj hj'
  refine ⟨g,0,P[j].2,rfl,hg,?_,?_,e2.below (Below.refl _ _) hB⟩
  ·rw [Nat.zero_add,← e1];exact (hc j hj').1
  ·rw [Nat.zero_add];exact (hc j hj').2
theorem saysV_more {B:Nat} {w w':World} {P:List PT} {L:List AT} {X:List UInt8} {u:Value} {A:List (List UInt8)} (h:SaysV B w P L) (hu:IsT B w A u) (hb:Below B w w'):SaysV B w' (P ++ [(X,u)]) (L ++ [(X,A)]):=by
 refine ⟨by simp [h.1],fun j h1 h2=>?_⟩
 by_cases hj:j < L.length
 ·have hj':j < P.length:=by rw [h.1];exact hj
  rw [List.getElem_append_left hj',List.getElem_append_left hj]
  exact ⟨(h.2 j hj hj').1,(h.2 j hj hj').2.below hb (Nat.le_refl _)⟩
 ·have e1:j = L.length:=by simp at h1;omega
  have e2:j = P.length:=by rw [h.1];exact e1
  have g1:(P ++ [(X,u)])[j] = (X,u):=by simp [e2]
  have g2:(L ++ [(X,A)])[j] = (X,A):=by simp [e1]
  rw [g1,g2]
  exact ⟨rfl,hu.below hb (Nat.le_refl _)⟩
theorem ownV_more {B:Nat} {w w':World} {v':Value} {P:List PT} {L:List AT} {X:ByteArray} {u:Value} {A:List (List UInt8)} (hs:SaysV B w P L) (hu:IsT B w A u)
  (hr:w'.ownsRow B 54 2 v' (P.length + 1) (cellsP P ++ [.string X,u])) (hb:Below B w w'):OwnV B w' v' (L ++ [(X.data.toList,A)]):=by
 refine ⟨P ++ [(X.data.toList,u)],?_,saysV_more hs hu hb⟩
 unfold RowP
 rw [List.length_append,cellsP_append]
 show w'.ownsRow B 54 2 v' (P.length + 1) (cellsP P ++ [strV X.data.toList,u])
 rw [strV_whole]
 exact hr
theorem wpList_append_attrB {ops:Array Oper} {rest:List Oper} {o:Oper} {a:Act} {w:World} {Q:Exit → Act → World → Prop} (hgd:o.guard = none) (sl x:Operand)
  (ho:o.op = .call { callee:=.builtin .append,args:=#[sl,x],argTypes:=#[22,22] })
  (base:Nat) (v:Value) (L:List AT) (hs:a.eval sl = v) (X:ByteArray) (u:Value) (A:List (List UInt8)) (hown:OwnV base w v L) (hu:IsT base w A u) (hx:a.eval x = .slice (some ⟨w.heap.size,0,none⟩) 1 1)
  (h63:L.length + 1 ≤ 1000000) (hbase:base ≤ w.heap.size)
  (h:∀ v' w',OwnV base w' v' (L ++ [(X.data.toList,A)]) → Below base w w' → wpList Tryz.prog ops Q rest (a.put o.dst v') w'):wpList Tryz.prog ops Q (o :: rest) a (w.alloc (.cells #[.string X,u] 54)):=by
 obtain ⟨i0,hi,hz0,hz1,hz2⟩:=info_parts infoA
 obtain ⟨P,hr,hsay⟩:=hown
 have hb:Below w.heap.size w (w.alloc (.cells #[.string X,u] 54)):=(Below.refl _ _).alloc (Nat.le_refl _) _
 have hPL:=hsay.1
 have hu1:u.oneCell' = true:=by obtain ⟨_,_,rfl,_⟩:=hu;rfl
 refine wpList_append_own_at _ hgd sl x 22 ho base 54 i0 (.agg #[.string ⟨#[]⟩,.slice none 0 0]) 2 40 Tryz.underlying22 hi hz0 hz1 hz2 rfl (by decide) v P.length (cellsP P) hs (World.ownsRow.alloc hr _) ⟨w.heap.size,0,none⟩ 1 1 [.string X,u] hx rfl (newsA w _ _) (by intro u' hu';simp at hu';rcases hu' with rfl | rfl;rfl;exact hu1) (by unfold maxLen;omega) (by omega) (by simp;omega) ?_
 intro v' w' hown' hgrow _ hat
 have hbb:Below base w w':=((Below.refl base w).alloc hbase _).grown hgrow (by simp;omega) (fun k e=>(World.ownsRow.lt hr k e).1)
 exact h v' w' (ownV_more hsay hu hown' hbb) hbb
abbrev KT:=CT × Value × Value
def cellsK:List KT → List Value
 | []=>[]
 | r :: l=>strV r.1.name :: strV r.1.sup :: .bool r.1.st :: r.2.1 :: r.2.2 :: cellsK l
theorem cellsK_append:∀ a b:List KT,cellsK (a ++ b) = cellsK a ++ cellsK b
 | [],_=>rfl
 | r :: a,b=>by show _ :: _ :: _ :: _ :: _ :: cellsK (a ++ b) = _;rw [cellsK_append a b];rfl
theorem cellsK_get:∀ (l:List KT) (j:Nat) (h:j < l.length),(cellsK l)[j * 5]? = some (strV l[j].1.name) ∧ (cellsK l)[j * 5 + 1]? = some (strV l[j].1.sup) ∧ (cellsK l)[j * 5 + 2]? = some (.bool l[j].1.st) ∧ (cellsK l)[j * 5 + 3]? = some l[j].2.1 ∧ (cellsK l)[j * 5 + 4]? = some l[j].2.2
 | r :: l,0,_=>⟨rfl,rfl,rfl,rfl,rfl⟩
 | r :: l,j + 1,h=>by
  have:=cellsK_get l j (by simpa using h)
  rw [show (j + 1) * 5 = j * 5 + 5 from by omega]
  exact this
theorem infoK:(Tryz.prog.info? 186).map (fun i=>(i.zero,i.size,i.bytes)) = some (some (.agg #[.string ⟨#[]⟩,.string ⟨#[]⟩,.bool false,.slice none 0 0,.slice none 0 0]),5,88):=by kernel_rfl
def RowK (B:Nat) (w:World) (v:Value) (P:List KT):Prop:=w.ownsRow B 186 5 v P.length (cellsK P)
abbrev Apart (B g:Nat) (w:World) (v:Value) (b:Nat):Prop:=B ≤ b ∧ b < w.heap.size ∧ some b ≠ v.ownBlock ∧ b ≠ g
def SaysK (B g:Nat) (w:World) (v:Value) (P:List KT):Prop:=∀ j (h:j < P.length),IsTo (Apart B g w v) w P[j].1.mustL P[j].2.1 ∧ IsTo (Apart B g w v) w P[j].1.mayL P[j].2.2
def OwnK (B g:Nat) (w:World) (v:Value) (L:List CT):Prop:=∃ P:List KT,P.map (·.1) = L ∧ RowK B w v P ∧ SaysK B g w v P
theorem rowK_below {B:Nat} {w w':World} {v:Value} {P:List KT} (h:RowK B w v P) (hb:Below w.heap.size w w'):RowK B w' v P:=
 World.ownsRow.kept h (row:=none) ⟨hb.os,hb.tape,hb.output,hb.size,fun k hk _=>hb.block k hk⟩ (by cases v.ownBlock <;> simp)
theorem saysK_below {B g:Nat} {w w':World} {v:Value} {P:List KT} (h:SaysK B g w v P) (hb:Below w.heap.size w w'):SaysK B g w' v P:=
 fun j h1=>⟨(h j h1).1.imp (fun b hk=>⟨hk.1,Nat.lt_of_lt_of_le hk.2.1 hb.size,hk.2.2⟩) (fun b o hk=>hb.cell (p:=⟨b,o,none⟩) hk.2.1),(h j h1).2.imp (fun b hk=>⟨hk.1,Nat.lt_of_lt_of_le hk.2.1 hb.size,hk.2.2⟩) (fun b o hk=>hb.cell (p:=⟨b,o,none⟩) hk.2.1)⟩
theorem ownK_below {B g:Nat} {w w':World} {v:Value} {L:List CT} (h:OwnK B g w v L) (hb:Below w.heap.size w w'):OwnK B g w' v L:=by
 obtain ⟨P,h0,h1,h2⟩:=h
 exact ⟨P,h0,rowK_below h1 hb,saysK_below h2 hb⟩
theorem ownK_slice {B g:Nat} {w:World} {v:Value} {L:List CT} (h:OwnK B g w v L):∃ a c,v = .slice a L.length c:=by
 obtain ⟨P,h0,h1,h2⟩:=h
 have:P.length = L.length:=by rw [← h0,List.length_map]
 rw [← this]
 rcases h1.2 with ⟨rfl,hz⟩ | ⟨g,cap,cur,rfl,_⟩
 ·exact ⟨_,_,by rw [hz]⟩
 ·exact ⟨_,_,rfl⟩
theorem ownK_nil (B g:Nat) (w:World):OwnK B g w (.slice none 0 0) []:=⟨[],rfl,World.ownsRow_nil _ _ _ _,fun j h=>absurd h (by simp)⟩
theorem ownK_lt {B g:Nat} {w:World} {v:Value} {L:List CT} (h:OwnK B g w v L) (k:Nat) (e:v.ownBlock = some k):k < w.heap.size:=by
 obtain ⟨P,_,h1,_⟩:=h
 exact (World.ownsRow.lt h1 k e).2
def IsK (n0:Nat) (w:World) (L:List CT) (v:Value):Prop:=∃ a c,v = .slice a L.length c ∧ L.length ≤ maxLen ∧
 ∀ j,(h:j < L.length) → ∃ b off u1 u2,a = some ⟨b,off,none⟩ ∧ b < n0 ∧ w.cell? ⟨b,off + j * 5,none⟩ = some (strV L[j].name) ∧ w.cell? ⟨b,off + j * 5 + 1,none⟩ = some (strV L[j].sup) ∧ w.cell? ⟨b,off + j * 5 + 2,none⟩ = some (.bool L[j].st) ∧ w.cell? ⟨b,off + j * 5 + 3,none⟩ = some u1 ∧ w.cell? ⟨b,off + j * 5 + 4,none⟩ = some u2 ∧ IsT n0 w L[j].mustL u1 ∧ IsT n0 w L[j].mayL u2
theorem IsK.below {n0 n1:Nat} {w w':World} {L:List CT} {v:Value} (h:IsK n0 w L v) (hb:Below n0 w w') (hn:n0 ≤ n1):IsK n1 w' L v:=by
 obtain ⟨a,c,hv,hm,hc⟩:=h
 refine ⟨a,c,hv,hm,fun j hj=>?_⟩
 obtain ⟨b,off,u1,u2,ha,hlt,c0,c1,c2,c3,c4,ht,hu⟩:=hc j hj
 exact ⟨b,off,u1,u2,ha,Nat.lt_of_lt_of_le hlt hn,(hb.cell (p:=⟨b,_,none⟩) hlt).trans c0,(hb.cell (p:=⟨b,_,none⟩) hlt).trans c1,(hb.cell (p:=⟨b,_,none⟩) hlt).trans c2,(hb.cell (p:=⟨b,_,none⟩) hlt).trans c3,(hb.cell (p:=⟨b,_,none⟩) hlt).trans c4,ht.below hb hn,hu.below hb hn⟩
theorem ownK_isK {B g:Nat} {w:World} {v:Value} {L:List CT} (h:OwnK B g w v L) (hl:L.length ≤ maxLen):IsK w.heap.size w L v:=by
 obtain ⟨a,c,hv⟩:=ownK_slice h
 obtain ⟨P,h0,h1,h2⟩:=h
 have hPL:P.length = L.length:=by rw [← h0,List.length_map]
 refine ⟨a,c,hv,hl,fun j hj=>?_⟩
 have hj':j < P.length:=by omega
 have hLj:L[j] = P[j].1:=by subst h0;simp
 have hc:=fun q (hg:v.ownBlock = some q)=>World.ownsRow.cells h1 hg
 rcases h1.2 with ⟨_,hz⟩ | ⟨q,cap,cur,hv2,hB,hg,_⟩
 ·omega
 ·have hva:a = some ⟨q,0,none⟩:=by rw [hv] at hv2;simpa using (Value.slice.inj hv2).1
  subst hva
  subst hv
  obtain ⟨g0,g1,g2,g3,g4⟩:=cellsK_get P j hj'
  have f:=fun k u e=>hc q rfl k u e
  have ea:∀ k,((⟨q,0,none⟩:Addr).add k) = ⟨q,k,none⟩:=by intro k;simp [Addr.add];omega
  have q0:=f _ _ g0
  have q1:=f _ _ g1
  have q2:=f _ _ g2
  have q3:=f _ _ g3
  have q4:=f _ _ g4
  simp only [ea] at q0 q1 q2 q3 q4
  rw [hLj]
  obtain ⟨e1,e2⟩:=h2 j hj'
  exact ⟨q,0,_,_,rfl,(Array.getElem?_eq_some_iff.1 hg).1,by simpa using q0,by simpa using q1,by simpa using q2,by simpa using q3,by simpa using q4,e1.to (fun b hb=>hb.2.1),e2.to (fun b hb=>hb.2.1)⟩
theorem saysK_more {B g:Nat} {w w':World} {v v':Value} {P:List KT} {r:KT} (h:SaysK B g w v P) (hu:IsTo (Apart B g w v) w r.1.mustL r.2.1) (hv:IsTo (Apart B g w v) w r.1.mayL r.2.2)
  (hg:w.grownBy w' v.ownBlock) (hat:v'.ownBlock = v.ownBlock ∨ v'.ownBlock = some w.heap.size):SaysK B g w' v' (P ++ [r]):=by
 have ok:∀ b,Apart B g w v b → Apart B g w' v' b:=fun b hb=>⟨hb.1,Nat.lt_of_lt_of_le hb.2.1 hg.size,by
  rcases hat with e | e
  ·rw [e];exact hb.2.2.1
  ·rw [e];intro h;have:=Option.some.inj h;have:=hb.2.1;omega,hb.2.2.2⟩
 have hc:∀ b o,Apart B g w v b → w'.cell? ⟨b,o,none⟩ = w.cell? ⟨b,o,none⟩:=fun b o hb=>by
  have:=hg.block b hb.2.1 hb.2.2.1
  simp only [World.cell?,this]
 intro j h1
 by_cases hj:j < P.length
 ·rw [List.getElem_append_left hj]
  exact ⟨(h j hj).1.imp ok hc,(h j hj).2.imp ok hc⟩
 ·have e2:j = P.length:=by simp at h1;omega
  have g1:(P ++ [r])[j] = r:=by simp [e2]
  rw [g1]
  exact ⟨hu.imp ok hc,hv.imp ok hc⟩
theorem newsK (w:World) (x0 x1 x2 x3 x4:Value):∀ j u,[x0,x1,x2,x3,x4][j]? = some u → (w.alloc (.cells #[x0,x1,x2,x3,x4] 186)).cell? ((⟨w.heap.size,0,none⟩:Addr).add j) = some u:=by
 intro j u hu
 have h:(w.alloc (.cells #[x0,x1,x2,x3,x4] 186)).heap[w.heap.size]? = some (.cells #[x0,x1,x2,x3,x4] 186 (0,0)):=heap_alloc_new w _
 have hadd:(⟨w.heap.size,0,none⟩:Addr).add j = ⟨w.heap.size,j,none⟩:=by unfold Addr.add;split <;> simp_all
 rw [hadd]
 simp only [World.cell?,h]
 simpa using hu
theorem wpList_append_class {ops:Array Oper} {rest:List Oper} {o:Oper} {a:Act} {w:World} {Q:Exit → Act → World → Prop} (hgd:o.guard = none) (sl x:Operand)
  (ho:o.op = .call { callee:=.builtin .append,args:=#[sl,x],argTypes:=#[182,182] })
  (base g:Nat) (v:Value) (L:List CT) (hs:a.eval sl = v) (N S:ByteArray) (C:CT) (u1 u2:Value) (hN:N.data.toList = C.name) (hS:S.data.toList = C.sup) (hown:OwnK base g w v L) (hu:IsTo (Apart base g w v) w C.mustL u1) (hv:IsTo (Apart base g w v) w C.mayL u2) (hx:a.eval x = .slice (some ⟨w.heap.size,0,none⟩) 1 1)
  (h63:L.length + 1 ≤ 1000000) (hbase:base ≤ w.heap.size)
  (h:∀ v' w',OwnK base g w' v' (L ++ [C]) → Below base w w' → (∀ k,k < w.heap.size → some k ≠ v.ownBlock → w'.heap[k]? = w.heap[k]?) → (∀ k,v'.ownBlock = some k → v.ownBlock = some k ∨ w.heap.size ≤ k) → w.heap.size ≤ w'.heap.size → wpList Tryz.prog ops Q rest (a.put o.dst v') w'):wpList Tryz.prog ops Q (o :: rest) a (w.alloc (.cells #[.string N,.string S,.bool C.st,u1,u2] 186)):=by
 obtain ⟨i0,hi,hz0,hz1,hz2⟩:=info_parts infoK
 obtain ⟨P,h0,hr,hsay⟩:=hown
 have hb:Below w.heap.size w (w.alloc (.cells #[.string N,.string S,.bool C.st,u1,u2] 186)):=(Below.refl _ _).alloc (Nat.le_refl _) _
 have hPL:P.length = L.length:=by rw [← h0,List.length_map]
 have hu1:u1.oneCell' = true:=by obtain ⟨_,_,rfl,_⟩:=hu;rfl
 have hu2:u2.oneCell' = true:=by obtain ⟨_,_,rfl,_⟩:=hv;rfl
 refine wpList_append_own_at _ hgd sl x 182 ho base 186 i0 (.agg #[.string ⟨#[]⟩,.string ⟨#[]⟩,.bool false,.slice none 0 0,.slice none 0 0]) 5 88 Tryz.underlying182 hi hz0 hz1 hz2 rfl (by decide) v P.length (cellsK P) hs (World.ownsRow.alloc hr _) ⟨w.heap.size,0,none⟩ 1 1 [.string N,.string S,.bool C.st,u1,u2] hx rfl (newsK w _ _ _ _ _) (by intro u' hu';simp at hu';rcases hu' with rfl | rfl | rfl | rfl | rfl;rfl;rfl;rfl;exact hu1;exact hu2) (by unfold maxLen;omega) (by omega) (by simp;omega) ?_
 intro v' w' hown' hgrow _ hat
 have up:∀ {A:List (List UInt8)} {u:Value},IsTo (Apart base g w v) w A u → IsTo (Apart base g (w.alloc (.cells #[.string N,.string S,.bool C.st,u1,u2] 186)) v) (w.alloc (.cells #[.string N,.string S,.bool C.st,u1,u2] 186)) A u:=fun hu=>hu.imp (fun b hk=>⟨hk.1,Nat.lt_of_lt_of_le hk.2.1 hb.size,hk.2.2⟩) (fun b o hk=>hb.cell (p:=⟨b,o,none⟩) hk.2.1)
 refine h v' w' ⟨P ++ [(C,u1,u2)],by simp [h0],?_,saysK_more (saysK_below hsay hb) (up hu) (up hv) hgrow hat⟩ ?_ (fun k hk hne=>(hgrow.block k (by simp;omega) hne).trans (hb.block k hk)) (fun k e=>hat.elim (fun q=>.inl (q ▸ e)) (fun q=>.inr (by rw [q] at e;have:=Option.some.inj e;simp at this;omega))) (Nat.le_trans hb.size hgrow.size)
 ·unfold RowK
  rw [List.length_append,cellsK_append]
  show w'.ownsRow base 186 5 v' (P.length + 1) (cellsK P ++ [strV C.name,strV C.sup,.bool C.st,u1,u2])
  rw [← hN,← hS,strV_whole,strV_whole]
  exact hown'
 ·exact ((Below.refl base w).alloc hbase _).grown hgrow (by simp;omega) (fun k e=>(World.ownsRow.lt hr k e).1)
end Go.Proofs.YtlimajgmdhhggaaGreatDoor
