/- Several texts in one file: ScDocP, ScDocB. -/
import Derived.Test.YtlimajgmdhhggaaGreatDoorTraP5
import Derived.Test.YtlimajgmdhhggaaGreatDoorTraP16
import Derived.Deep.RegionHeld3
import Derived.Deep.CutRange
namespace Go.Proofs.YtlimajgmdhhggaaGreatDoor
open Go.RowKit
set_option linter.unusedVariables false
def canL (L:List AT):List AT:=L.map fun a=>(low a.1,a.2)
theorem hasS_iff {A:List AT} (hne:∀ a ∈ A,a.2 ≠ []) (t:List UInt8):hasS A t = true ↔ ∃ a ∈ A,a.1 = t:=by
 unfold hasS valsS
 simp only [decide_eq_true_eq]
 cases e:A.find? (fun a=>a.1 == t) with
 | none=>
  rw [List.find?_eq_none] at e
  constructor
  ·intro h;simp at h
  ·rintro ⟨a,ha,rfl⟩;exact absurd (e a ha) (by simp)
 | some a=>
  have h1:=List.mem_of_find?_eq_some e
  have h2:=List.find?_some e
  constructor
  ·intro _;exact ⟨a,h1,by simpa using h2⟩
  ·intro _;exact List.length_pos_iff.2 (hne a h1)
def SndAt (L:List AT) (j:Nat):Prop:=soundR [] L = soundR (canL (L.take j)) (L.drop j) ∧ ∀ k (h:k < L.length),k < j → ruleD L[k].1 ≠ 0 ∧ L[k].2 ≠ []
theorem snd_zero (L:List AT):SndAt L 0:=⟨by simp [canL],fun k _ h=>absurd h (by omega)⟩
theorem canon_some {t:List UInt8} (h:ruleD t ≠ 0):canonD t = some (low t):=by
 cases e:canonD t with
 | none=>exact absurd ((canon_rule t).1 e) h
 | some c=>rw [(canon_eq e).1]
theorem can_mem {L:List AT} {j:Nat} {a:AT} (h:a ∈ canL (L.take j)):∃ k,∃ hk:k < L.length,k < j ∧ a = (low L[k].1,L[k].2):=by
 unfold canL at h
 obtain ⟨x,hx,rfl⟩:=List.mem_map.1 h
 obtain ⟨i,hi,rfl⟩:=List.mem_take_iff_getElem.1 hx
 exact ⟨i,by omega,by omega,rfl⟩
theorem mem_can {L:List AT} {j k:Nat} (hk:k < L.length) (h:k < j):(low L[k].1,L[k].2) ∈ canL (L.take j):=
 List.mem_map.2 ⟨L[k],List.mem_take_iff_getElem.2 ⟨k,by omega,rfl⟩,rfl⟩
theorem snd_ne {L:List AT} {j:Nat} (h:SndAt L j):∀ a ∈ canL (L.take j),a.2 ≠ []:=by
 intro a ha
 obtain ⟨k,hk,hj,rfl⟩:=can_mem ha
 exact (h.2 k hk hj).2
theorem snd_rule {L:List AT} {j:Nat} (h:SndAt L j) (hj:j < L.length) (hr:ruleD L[j].1 = 0):soundR [] L = .error 17:=by
 rw [h.1,List.drop_eq_getElem_cons hj]
 simp only [soundR,(canon_rule _).2 hr]
theorem snd_has {L:List AT} {j:Nat} (h:SndAt L j) (hj:j < L.length) (hr:ruleD L[j].1 ≠ 0) {k:Nat} (hk:k < L.length) (hkj:k < j) (he:low L[k].1 = low L[j].1):soundR [] L = .error 20:=by
 rw [h.1,List.drop_eq_getElem_cons hj]
 simp only [soundR,canon_some hr]
 rw [if_pos ((hasS_iff (snd_ne h) _).2 ⟨_,mem_can hk hkj,he⟩)]
theorem snd_vals {L:List AT} {j:Nat} (h:SndAt L j) (hj:j < L.length) (hr:ruleD L[j].1 ≠ 0) (hno:∀ k (hk:k < L.length),k < j → low L[k].1 ≠ low L[j].1) :
  soundR [] L = if valsC (low L[j].1) L[j].2 = 0 then soundR (canL (L.take (j + 1))) (L.drop (j + 1)) else .error (valsC (low L[j].1) L[j].2):=by
 have hf:¬ hasS (canL (L.take j)) (low L[j].1) = true:=fun e=>by
  obtain ⟨a,ha,he⟩:=(hasS_iff (snd_ne h) _).1 e
  obtain ⟨k,hk,hkj,rfl⟩:=can_mem ha
  exact hno k hk hkj he
 have ht:canL (L.take (j + 1)) = canL (L.take j) ++ [(low L[j].1,L[j].2)]:=by
  unfold canL
  rw [← List.take_append_getElem hj,List.map_append]
  rfl
 rw [h.1,List.drop_eq_getElem_cons hj,ht]
 simp only [soundR,canon_some hr]
 rw [if_neg hf]
theorem snd_bad {L:List AT} {j:Nat} (h:SndAt L j) (hj:j < L.length) (hr:ruleD L[j].1 ≠ 0) (hno:∀ k (hk:k < L.length),k < j → low L[k].1 ≠ low L[j].1) {c:Int} (hv:valsC (low L[j].1) L[j].2 = c) (hc:c ≠ 0):soundR [] L = .error c:=by
 rw [snd_vals h hj hr hno,hv,if_neg hc]
theorem snd_more {L:List AT} {j:Nat} (h:SndAt L j) (hj:j < L.length) (hr:ruleD L[j].1 ≠ 0) (hno:∀ k (hk:k < L.length),k < j → low L[k].1 ≠ low L[j].1) (hv:valsC (low L[j].1) L[j].2 = 0):SndAt L (j + 1):=by
 refine ⟨by rw [snd_vals h hj hr hno,if_pos hv],fun k hk hkj=>?_⟩
 by_cases e:k < j
 ·exact h.2 k hk e
 ·obtain rfl:k = j:=by omega
  refine ⟨hr,fun e2=>?_⟩
  unfold valsC at hv
  rw [if_pos (.inl (by rw [e2];rfl))] at hv
  cases hv
theorem snd_end {L:List AT} (h:SndAt L L.length):soundR [] L = .ok (canL L):=by
 rw [h.1,List.take_length,List.drop_length]
 rfl
theorem rule_two (t:List UInt8):ruleD t = 2 ↔ low t = [117,105,100,110,117,109,98,101,114]:=by
 constructor
 ·intro h
  unfold ruleD ruleL at h
  cases e:findL (low t) with
  | none=>rw [e] at h;cases h
  | some k=>
   rw [e] at h
   simp only at h
   have h1:=findL_len e
   have h2:=List.mem_of_find?_eq_some e
   have hall:(kindsL.all fun k=>decide (k.2 = 2 → k.1 = [117,105,100,110,117,109,98,101,114])) = true:=by decide
   have h3:=List.all_eq_true.1 hall k h2
   simp only [decide_eq_true_eq] at h3
   rw [← h1.1,h3 h]
 ·intro h
  unfold ruleD
  rw [h]
  decide
def cntBad (r n:Nat):Prop:=n = 0 ∨ 40 < n ∨ (r = 2 ∧ 1 < n)
theorem cnt_iff (t:List UInt8) (n:Nat):(n = 0 ∨ mostS (low t) < (n:Int)) ↔ cntBad (ruleD t) n:=by
 unfold mostS cntBad
 by_cases h:ruleD t = 2
 ·rw [if_pos ((rule_two t).1 h)]
  omega
 ·rw [if_neg (fun e=>h ((rule_two t).2 e))]
  omega
theorem vals_many {t:List UInt8} {V:List (List UInt8)} (h:cntBad (ruleD t) V.length):valsC (low t) V = 19:=by
 unfold valsC
 rw [if_pos ((cnt_iff t _).2 h)]
theorem norms_none {r:Nat}:∀ {V:List (List UInt8)} (k:Nat) (hk:k < V.length),normD r V[k] = none → normsS r V = none
 | v :: V,0,_,h=>by simp only [normsS];rw [show normD r v = none from h]
 | v :: V,k + 1,hk,h=>by
  simp only [normsS]
  cases normD r v with
  | none=>rfl
  | some x=>simp only;rw [norms_none k (by simpa using hk) h];rfl
theorem norms_all {r:Nat}:∀ {V:List (List UInt8)},(∀ k (hk:k < V.length),normD r V[k] ≠ none) → ∃ l,normsS r V = some l ∧ l.length = V.length ∧ ∀ k (h:k < V.length) (h':k < l.length),normD r V[k] = some l[k]
 | [],_=>⟨[],rfl,rfl,fun k h=>absurd h (by simp)⟩
 | v :: V,h=>by
  obtain ⟨l,h1,h2,h3⟩:=norms_all (V:=V) (fun k hk=>h (k + 1) (by simpa using hk))
  have h0:=h 0 (by simp)
  simp only [List.getElem_cons_zero] at h0
  cases e:normD r v with
  | none=>exact absurd e h0
  | some x=>
   refine ⟨x :: l,by simp only [normsS];rw [e,h1];rfl,by simp [h2],fun k hk hk'=>?_⟩
   cases k with
   | zero=>exact e
   | succ k=>exact h3 k (by simpa using hk) (by simpa using hk')
theorem vals_no {t:List UInt8} {V:List (List UInt8)} (h:¬ cntBad (ruleD t) V.length) {k:Nat} (hk:k < V.length) (hn:normD (ruleD t) V[k] = none):valsC (low t) V = 21:=by
 unfold valsC
 rw [if_neg (fun e=>h ((cnt_iff t _).1 e)),ruleD_low,norms_none k hk hn]
theorem vals_dup {t:List UInt8} {V:List (List UInt8)} (h:¬ cntBad (ruleD t) V.length) (ha:∀ k (hk:k < V.length),normD (ruleD t) V[k] ≠ none) {j k:Nat} (hk:k < V.length) (hj:j < k) (hs:sameO (normD (ruleD t) V[j]) (normD (ruleD t) V[k]) = true):valsC (low t) V = 20:=by
 obtain ⟨l,h1,h2,h3⟩:=norms_all ha
 unfold valsC
 rw [if_neg (fun e=>h ((cnt_iff t _).1 e)),ruleD_low,h1]
 simp only
 rw [if_neg]
 intro hn
 rw [h3 j (by omega) (by omega),h3 k hk (by omega)] at hs
 have e:l[j] = l[k]:=by simpa [sameO] using hs
 exact List.pairwise_iff_getElem.1 hn j k (by omega) (by omega) hj e
theorem vals_ok {t:List UInt8} {V:List (List UInt8)} (h:¬ cntBad (ruleD t) V.length) (ha:∀ k (hk:k < V.length),normD (ruleD t) V[k] ≠ none) (hno:∀ k (hk:k < V.length) j (hj:j < k),sameO (normD (ruleD t) V[j]) (normD (ruleD t) V[k]) = false):valsC (low t) V = 0:=by
 obtain ⟨l,h1,h2,h3⟩:=norms_all ha
 unfold valsC
 rw [if_neg (fun e=>h ((cnt_iff t _).1 e)),ruleD_low,h1]
 simp only
 rw [if_pos]
 refine List.pairwise_iff_getElem.2 fun j k hj hk hjk e=>?_
 have:=hno k (by omega) j hjk
 rw [h3 j (by omega) hj,h3 k (by omega) hk] at this
 simp [sameO,e] at this
def mustA (A:List CT):List (List UInt8):=A.flatMap CT.mustL
def mayA (A:List CT):List (List UInt8):=A.flatMap CT.mayL
theorem chainD_mem:∀ (k:Nat) (n:List UInt8) (c:CT),c ∈ chainC k n → c ∈ classL
 | 0,n,c,h=>by simp [chainC] at h
 | k + 1,n,c,h=>by
  simp only [chainC] at h
  cases e:findC n with
  | none=>rw [e] at h;simp at h
  | some d=>
   rw [e] at h
   rcases List.mem_cons.1 h with rfl | h
   ·exact (findC_mem e).1
   ·exact chainD_mem k _ c h
theorem all_mem:∀ {V:List (List UInt8)} {A:List CT} {s:Bool},allC V = some (A,s) → ∀ c ∈ A,c ∈ classL
 | [],A,s,h,c,hc=>by
  simp only [allC,Option.some.injEq,Prod.mk.injEq] at h
  rw [← h.1] at hc
  simp at hc
 | v :: V,A,s,h,c,hc=>by
  simp only [allC] at h
  cases e:findC (fold v) with
  | none=>rw [e] at h;cases h
  | some d=>
   rw [e] at h
   simp only [Option.map_eq_some_iff] at h
   obtain ⟨p,hp,h⟩:=h
   simp only [Prod.mk.injEq] at h
   rw [← h.1] at hc
   rcases List.mem_append.1 hc with hc | hc
   ·exact chainD_mem _ _ c hc
   ·exact all_mem (A:=p.1) (s:=p.2) hp c hc
theorem class_low:∀ c ∈ classL,∀ m ∈ c.mustL,low m = m:=by
 have:(classL.all fun c=>c.mustL.all fun m=>decide (low m = m)) = true:=by decide +kernel
 intro c hc m hm
 have:=List.all_eq_true.1 (List.all_eq_true.1 this c hc) m hm
 simpa using this
theorem must_low {V:List (List UInt8)} {A:List CT} {s:Bool} (h:allC V = some (A,s)) {m:List UInt8} (hm:m ∈ mustA A):low m = m:=by
 obtain ⟨c,hc,hm⟩:=List.mem_flatMap.1 hm
 exact class_low c (all_mem h c hc) m hm
theorem vals_can (L:List AT) (t:List UInt8):valsS (canL L) (low t) = findA L t:=by
 unfold valsS findA canL
 rw [List.find?_map]
 show (match Option.map (fun (a:AT)=>(low a.1,a.2)) (List.find? (fun (a:AT)=>low a.1 == low t) L) with | some a=>a.2 | none=>[]) = _
 cases List.find? (fun (a:AT)=>low a.1 == low t) L <;> rfl
theorem low_obj:low objB = objB:=by decide
theorem vals_obj (L:List AT):valsS (canL L) objB = findA L objB:=by rw [← vals_can,low_obj]
theorem can_all {L:List AT}:canL L = canL (L.take L.length):=by rw [List.take_length]
theorem has_can {L:List AT} (h:SndAt L L.length) (m:List UInt8) (hm:low m = m):hasS (canL L) m = true ↔ ∃ k,∃ hk:k < L.length,(low L[k].1 == low m) = true:=by
 rw [can_all,hasS_iff (snd_ne h)]
 constructor
 ·rintro ⟨a,ha,he⟩
  obtain ⟨k,hk,_,rfl⟩:=can_mem ha
  exact ⟨k,hk,by rw [hm];simpa using he⟩
 ·rintro ⟨k,hk,he⟩
  exact ⟨_,mem_can hk hk,by rw [hm] at he;simpa using he⟩
theorem classedD_none {L:List AT} (h:allC (findA L objB) = none):classedD (canL L) = false:=by
 unfold classedD
 rw [vals_obj,h]
theorem classedD_eq {L:List AT} {A:List CT} {s:Bool} (h:allC (findA L objB) = some (A,s)) :
  classedD (canL L) = (s && ((mustA A).all (hasS (canL L)) && L.all fun a=>(mustA A).contains (low a.1) || (mayA A).contains (low a.1))):=by
 unfold classedD
 rw [vals_obj,h]
 have e1:A.all (fun c=>c.mustL.all (hasS (canL L))) = (mustA A).all (hasS (canL L)):=by
  unfold mustA
  rw [List.all_flatMap]
 have e2:(canL L).all (fun a=>(mayC A).contains a.1) = L.all fun a=>(mustA A).contains (low a.1) || (mayA A).contains (low a.1):=by
  unfold canL
  rw [List.all_map]
  congr 1
  funext a
  show (mayC A).contains (low a.1) = _
  rw [Bool.eq_iff_iff]
  simp only [Bool.or_eq_true,List.contains_iff_mem,mayC,mustA,mayA,List.mem_flatMap,List.mem_append]
  constructor
  ·rintro ⟨c,hc,h | h⟩
   ·exact .inl ⟨c,hc,h⟩
   ·exact .inr ⟨c,hc,h⟩
  ·rintro (⟨c,hc,h⟩ | ⟨c,hc,h⟩)
   ·exact ⟨c,hc,.inl h⟩
   ·exact ⟨c,hc,.inr h⟩
 simp only
 rw [e1,e2]
theorem classedD_must {L:List AT} {A:List CT} {s:Bool} (hs:SndAt L L.length) (h:allC (findA L objB) = some (A,s)) (k:Nat) (hk:k < (mustA A).length) (hno:∀ j (hj:j < L.length),(low L[j].1 == low (mustA A)[k]) = false):classedD (canL L) = false:=by
 have:hasS (canL L) (mustA A)[k] = false:=by
  rw [Bool.eq_false_iff]
  intro e
  obtain ⟨j,hj,e2⟩:=(has_can hs _ (must_low h (List.getElem_mem hk))).1 e
  rw [hno j hj] at e2
  cases e2
 have e:(mustA A).all (hasS (canL L)) = false:=by
  rw [List.all_eq_false]
  exact ⟨_,List.getElem_mem hk,by simp [this]⟩
 rw [classedD_eq h,e]
 simp
theorem classedD_may {L:List AT} {A:List CT} {s:Bool} (h:allC (findA L objB) = some (A,s)) (k:Nat) (hk:k < L.length) (h1:(mustA A).contains (low L[k].1) = false) (h2:(mayA A).contains (low L[k].1) = false):classedD (canL L) = false:=by
 have e:(L.all fun a=>(mustA A).contains (low a.1) || (mayA A).contains (low a.1)) = false:=by
  rw [List.all_eq_false]
  exact ⟨_,List.getElem_mem hk,by simp only [h1,h2];simp⟩
 rw [classedD_eq h,e]
 simp
theorem classedD_st {L:List AT} {A:List CT} {s:Bool} (hs:SndAt L L.length) (h:allC (findA L objB) = some (A,s)) (hm:∀ k (hk:k < (mustA A).length),∃ j,∃ hj:j < L.length,(low L[j].1 == low (mustA A)[k]) = true)
  (ha:∀ k (hk:k < L.length),(mustA A).contains (low L[k].1) = true ∨ (mayA A).contains (low L[k].1) = true):classedD (canL L) = s:=by
 have e1:(mustA A).all (hasS (canL L)) = true:=by
  rw [List.all_eq_true]
  intro m hmm
  obtain ⟨k,hk,rfl⟩:=List.getElem_of_mem hmm
  exact (has_can hs _ (must_low h hmm)).2 (hm k hk)
 have e2:(L.all fun a=>(mustA A).contains (low a.1) || (mayA A).contains (low a.1)) = true:=by
  rw [List.all_eq_true]
  intro a haa
  obtain ⟨k,hk,rfl⟩:=List.getElem_of_mem haa
  rw [Bool.or_eq_true]
  exact ha k hk
 rw [classedD_eq h,e1,e2]
 simp
theorem named_can {L:List AT} (hs:SndAt L L.length) {d:List UInt8} {r:R} {rs:List R} (hp:parseD d = some (r :: rs)) :
  namedD (canL L) d = (findA L r.1).any fun v=>sameO (normD (ruleD r.1) v) (normD (ruleD r.1) r.2):=by
 unfold namedD
 rw [hp]
 simp only
 by_cases hr:ruleD r.1 = 0
 ·have hf:findA L r.1 = []:=findA_no fun k hk=>by
   rw [Bool.eq_false_iff]
   intro e
   have e2:low L[k].1 = low r.1:=by simpa using e
   apply (hs.2 k hk hk).1
   rw [← ruleD_low,e2,ruleD_low,hr]
  have hv:valsS (canL L) [] = []:=valsS_no fun k hk=>by
   have hk':k < L.length:=by simpa [canL] using hk
   intro e
   have e2:low L[k].1 = []:=by simpa [canL] using e
   apply (hs.2 k hk' hk').1
   unfold ruleD
   rw [e2]
   rfl
  rw [hf,(canon_rule r.1).2 hr]
  simp only [Option.getD_none,hv]
  rfl
 ·rw [canon_some hr]
  simp only [Option.getD_some,vals_can,ruleD_low]
theorem key_some {d k:List UInt8} {r:R} {rs:List R} (hp:parseD d = some (r :: rs)) (hk:keyD d = some k):k ≠ []:=by
 unfold keyD at hk
 rw [hp] at hk
 simp only at hk
 split at hk
 ·simp only [Option.some.injEq] at hk
  rw [← hk]
  cases rs with
  | nil=>simp [textD,textR]
  | cons x l=>simp [textD,textR]
 ·cases hk
theorem key_nil {d:List UInt8} (hp:parseD d = some []):keyD d = some []:=by
 unfold keyD
 rw [hp]
 rfl
theorem key_no {d:List UInt8} (hp:parseD d = none):keyD d = none:=by
 unfold keyD
 rw [hp]
end Go.Proofs.YtlimajgmdhhggaaGreatDoor
namespace Go.Proofs.YtlimajgmdhhggaaGreatDoor
open Go.RowKit
set_option linter.unusedVariables false
def AttrsR (L:List AT) (c:Int):Prop:=(c = 0 ∧ SndAt L L.length) ∨ (c ≠ 0 ∧ soundR [] L = .error c)
def BoxQ (w:World) (b:Nat) (x:ByteArray) (u:Value):Prop:=w.heap[b]? = some (.cells #[.string x,u] 54 (0,0))
theorem BoxQ.cells {w:World} {b:Nat} {x:ByteArray} {u:Value} (h:BoxQ w b x u):w.cell? ⟨b,0,none⟩ = some (.string x) ∧ w.cell? ⟨b,1,none⟩ = some u:=by
 unfold BoxQ at h
 simp [World.cell?,h]
theorem World_drew_below {w w':World} (h:Below w.drew.heap.size w.drew w'):Below w.heap.size w w':=(Below.refl w.heap.size w).drew.trans h
theorem attrP_dup {L:List AT} {j:Nat} {x:List UInt8} {I:Int} (h:AttrP L x I) {k:Nat} (hk:k < L.length) (hkj:k < j) (he:low L[k].1 = low x):I < (j:Int):=by
 rcases h with ⟨q,hq,rfl,h1,h2⟩ | ⟨rfl,h2⟩
 ·by_cases hqj:q ≤ k
  ·omega
  ·have:=h2 k hk (by omega)
   rw [he] at this
   simp at this
 ·omega
theorem attrP_no {L:List AT} {j:Nat} {x:List UInt8} {I:Int} (h:AttrP L x I) (hj:j < L.length) (hx:low L[j].1 = low x) (hno:∀ k (hk:k < L.length),k < j → low L[k].1 ≠ low x):¬ I < (j:Int):=by
 rcases h with ⟨q,hq,rfl,h1,h2⟩ | ⟨rfl,h2⟩
 ·intro hlt
  exact hno q hq (by omega) (by simpa using h1)
 ·have:=h2 j hj
  rw [hx] at this
  simp at this
set_option maxRecDepth 100000 in
set_option maxHeartbeats 8000000 in
theorem attrsRef_any (D:ByteArray) (L:List AT) (hs:smallA L) (v:Value) (w:World) (h:IsA w.heap.size w L v) :
  Calls Tryz.prog 107 #[.agg #[.string D,v]] w fun e w'=>∃ c,e = .returned (.int .i64 c) ∧ AttrsR L c ∧ Below w.heap.size w w':=by
 obtain ⟨a,c,hv,hm,hcell⟩:=id h
 obtain ⟨n,hn⟩:∃ n,n = L.length:=⟨_,rfl⟩
 rw [← hn] at hv hm
 subst hv
 unfold maxLen at hm
 obtain ⟨W0,hW0⟩:∃ W0,W0 = w.alloc (.cells #[.string D,.slice a n c] 24):=⟨_,rfl⟩
 have hB0:Below w.heap.size w W0:=by rw [hW0];exact (Below.refl _ _).alloc (Nat.le_refl _) _
 have hbx:BoxN W0 w.heap.size D (.slice a n c):=by rw [hW0];exact boxN_new _ _ _
 have hz0:W0.heap.size = w.heap.size + 1:=by rw [hW0];simp
 have HN:=Lib.hid hn
 have HC:=Lib.hid hcell
 have HS:=Lib.hid hs
 have HB0:=Lib.hid hB0
 have HBx:=Lib.hid hbx
 have HW0:=Lib.hid hW0.symm
 have HA:=Lib.hid h
 clear hcell hn hs hB0 hbx hW0 h
 go_enter Tryz.func107,Tryz.ntmps107
 go_upto_region 1 with (fail)
 rw [HW0.out]
 go_wp2
 go_loopw [3] (fun i wr=>∃ j:Nat,j ≤ n ∧ i = .int .i64 j ∧ Hid (SndAt L j) ∧ Below W0.heap.size W0 wr) (fun i wr=>n - (intOf i).toNat)
 case atStart=>exact ⟨0,by omega,rfl,Lib.hid (snd_zero L),Below.refl _ _⟩
 case round=>
  obtain ⟨j,hj,rfl,HSn,hbel⟩:=hrel
  rename World=>wo
  have HBr:=Lib.hid hbel
  have HBw:=Lib.hid (HB0.out.trans (hbel.mono HB0.out.size))
  have hbs:=hbel.size
  obtain ⟨x0,x1⟩:=(HBx.out.below hbel (by omega)).cells
  by_cases hlt:j < n
  ·have t1:decide ((j:Int) < (n:Int)) = true:=by simp;omega
   have t1':decide (j < n) = true:=by simpa using hlt
   have hlL:j < L.length:=by rw [← HN.out];exact hlt
   obtain ⟨b,off,u,rfl,hb0,c0,c1,hit⟩:=HC.out j hlL
   obtain ⟨V,hV⟩:∃ V,V = L[j].2:=⟨_,rfl⟩
   rw [← hV] at hit
   obtain ⟨ua,uc,hu,hum,huc⟩:=hit
   obtain ⟨m,hml⟩:∃ m,m = V.length:=⟨_,rfl⟩
   rw [← hml] at hu hum
   subst hu
   unfold maxLen at hum
   have HV:=Lib.hid hV
   have HMl:=Lib.hid hml
   clear hV hml
   obtain ⟨X,hX⟩:∃ X:ByteArray,⟨L[j].1.toArray⟩ = X:=⟨_,rfl⟩
   have hXl:X.data.toList = L[j].1:=by rw [← hX]
   have d0:(wo.cell? ⟨b,off + j * 2,none⟩) = some (.string X):=by
    rw [HBw.out.cell (p:=⟨b,off + j * 2,none⟩) hb0,c0,← hX];rfl
   have d1:(wo.cell? ⟨b,off + j * 2 + 1,none⟩) = some (.slice ua m uc):=by
    rw [HBw.out.cell (p:=⟨b,off + j * 2 + 1,none⟩) hb0,c1]
   have hXs:X.size ≤ 281474976710656:=by
    have:=(HS.out.2 L[j] (List.getElem_mem _)).1
    rw [← bytes_len,hXl];omega
   have hbA:Below wo.heap.size wo (wo.alloc (.cells #[.string X,.slice ua m uc] 54)):=(Below.refl _ _).alloc (Nat.le_refl _) _
   have hqx:BoxQ (wo.alloc (.cells #[.string X,.slice ua m uc] 54)) wo.heap.size X (.slice ua m uc):=heap_alloc_new wo _
   have hwz:(wo.alloc (.cells #[.string X,.slice ua m uc] 54)).heap.size = wo.heap.size + 1:=by simp
   go_upto_region 5 with (fail)
   generalize wo.alloc (.cells #[.string X,.slice ua m uc] 54) = W1 at hbA hqx hwz ⊢
   have HB1:=Lib.hid (bthen HBw.out hbA)
   have HB01:=Lib.hid (bthen HBr.out hbA)
   have hw1:w.heap.size < W1.heap.size:=by omega
   have hq1:wo.heap.size < W1.heap.size:=by omega
   obtain ⟨gq,hgq⟩:∃ g,g = wo.heap.size:=⟨_,rfl⟩
   rw [← hgq] at hqx hq1 ⊢
   have HKc:Hid (∀ wx,Below W1.heap.size W1 wx → (wx.cell? ⟨w.heap.size,0,none⟩ = some (.string D) ∧ wx.cell? ⟨w.heap.size,1,none⟩ = some (.slice (some ⟨b,off,none⟩) n c)) ∧ (wx.cell? ⟨gq,0,none⟩ = some (.string X) ∧ wx.cell? ⟨gq,1,none⟩ = some (.slice ua m uc))):=Lib.hid (fun wx hb=>⟨((HBx.out.below HB01.out (by omega)).below hb hw1).cells,(show BoxQ wx gq X (.slice ua m uc) from (hb.block gq hq1).trans hqx).cells⟩)
   have HUc:Hid (∀ wx,Below W1.heap.size W1 wx → ∀ k (hk:k < V.length),∃ vb vo,ua = some ⟨vb,vo,none⟩ ∧ ∃ Y:ByteArray,Y.data.toList = V[k] ∧ wx.cell? ⟨vb,vo + k,none⟩ = some (.string Y) ∧ vb < W1.heap.size):=Lib.hid (fun wx hb k hk=>by
    obtain ⟨vb,vo,e,hvb,hc⟩:=huc k hk
    refine ⟨vb,vo,e,⟨V[k].toArray⟩,rfl,?_,by omega⟩
    rw [hb.cell (p:=⟨vb,_,none⟩) (by show vb < _;omega),HB1.out.cell (p:=⟨vb,_,none⟩) hvb,hc]
    rfl)
   have hru:=fun W=>ruleRef_any X hXs W
   have hat:=fun W (hb:Below W1.heap.size W1 W)=>attrRef_any D X hXs L HS.out (.slice (some ⟨b,off,none⟩) n c) W ((HA.out.below HB1.out HB1.out.size).below hb hb.size)
   have hno:=fun Y W=>normRef_any X Y hXs W
   have hsv:=fun Y Z W=>sameVal_any X Y Z hXs W
   rw [hXl] at hru hat hno hsv
   obtain ⟨T,hT⟩:∃ T,T = L[j].1:=⟨_,rfl⟩
   obtain ⟨r,hr⟩:∃ r,r = ruleD T:=⟨_,rfl⟩
   rw [← hT] at hru hat
   simp only [← hT,← hr] at hru hno hsv
   have HRu:=Lib.hid hru
   have HAt:=Lib.hid hat
   have HNo:=Lib.hid hno
   have HSv:=Lib.hid hsv
   have HT:=Lib.hid hT
   have HR:=Lib.hid hr
   have HTz:=Lib.hid (Below.refl W1.heap.size W1)
   obtain ⟨⟨x0,x1⟩,⟨q0,q1⟩⟩:=HKc.out _ (Below.refl _ _)
   clear hru hat hno hsv hT hr hX hXl c0 c1 d0 d1 huc hbA hqx hbel hgq
   by_cases hr0:r = 0
   ·have t2:((r:Int) == 0) = true:=by simp [hr0]
    have t2':decide ((r:Int) = 0) = true:=by simp [hr0]
    have HE:Hid (AttrsR L 17):=Lib.hid (.inr ⟨by decide,snd_rule HSn.out hlL (by rw [← HT.out,← HR.out];exact hr0)⟩)
    clear hr0
    go_wp2_with (first | (go_at_call 82;((with_reducible refine (HRu.out _).mono ?_);rintro e wx ⟨rfl,hbx⟩);have HTz:=Lib.hid (bthen HTz.out hbx);obtain ⟨⟨x0,x1⟩,⟨q0,q1⟩⟩:=HKc.out _ HTz.out;clear hbx))
    go_ret
    exact ⟨_,rfl,HE.out,bthen HB1.out HTz.out⟩
   ·have t0:True:=trivial
    have t2:((r:Int) == 0) = false:=by simp;omega
    have t2':decide ((r:Int) = 0) = false:=by simp;omega
    have HR0:Hid (ruleD L[j].1 ≠ 0):=Lib.hid (by rw [← HT.out,← HR.out];exact hr0)
    clear hr0
    by_cases hdup:∃ k,∃ hk:k < L.length,k < j ∧ low L[k].1 = low T
    ·obtain ⟨k,hk,hkj,hke⟩:=hdup
     have HDu:=Lib.hid (show ∀ I,AttrP L T I → I < (j:Int) from fun I h=>attrP_dup h hk hkj hke)
     have HE:Hid (AttrsR L 20):=Lib.hid (.inr ⟨by decide,snd_has HSn.out hlL HR0.out hk hkj (by rw [hke,HT.out])⟩)
     clear hk hkj hke
     go_wp2_with (first | (go_at_call 82;((with_reducible refine (HRu.out _).mono ?_);rintro e wx ⟨rfl,hbx⟩);have HTz:=Lib.hid (bthen HTz.out hbx);obtain ⟨⟨x0,x1⟩,⟨q0,q1⟩⟩:=HKc.out _ HTz.out;clear hbx) | (go_at_call 53;refine (HAt.out _ HTz.out).mono ?_;rintro e wx ⟨I,rfl,hI,hbx⟩;have t3:decide (I < (j:Int)) = true:=(by have:=HDu.out I hI;simp;omega);have HTz:=Lib.hid (bthen HTz.out hbx);obtain ⟨⟨x0,x1⟩,⟨q0,q1⟩⟩:=HKc.out _ HTz.out;clear hbx hI))
     go_ret
     exact ⟨_,rfl,HE.out,bthen HB1.out HTz.out⟩
    ·have HND:=Lib.hid (show ∀ k (hk:k < L.length),k < j → low L[k].1 ≠ low T from fun k hk hkj e=>hdup ⟨k,hk,hkj,e⟩)
     have HDn:=Lib.hid (show ∀ I,AttrP L T I → ¬ I < (j:Int) from fun I h=>attrP_no h hlL (by rw [HT.out]) HND.out)
     have HND2:Hid (∀ k (hk:k < L.length),k < j → low L[k].1 ≠ low L[j].1):=Lib.hid (by rw [← HT.out];exact HND.out)
     clear hdup
     go_upto_region 9 with (first | (go_at_call 82;((with_reducible refine (HRu.out _).mono ?_);rintro e wx ⟨rfl,hbx⟩);have HTz:=Lib.hid (bthen HTz.out hbx);obtain ⟨⟨x0,x1⟩,⟨q0,q1⟩⟩:=HKc.out _ HTz.out;clear hbx) | (go_at_call 53;refine (HAt.out _ HTz.out).mono ?_;rintro e wx ⟨I,rfl,hI,hbx⟩;have t3:decide (I < (j:Int)) = false:=(by have:=HDn.out I hI;simp;omega);have HTz:=Lib.hid (bthen HTz.out hbx);obtain ⟨⟨x0,x1⟩,⟨q0,q1⟩⟩:=HKc.out _ HTz.out;clear hbx hI))
     have HVe:Hid (valsC (low L[j].1) L[j].2 = valsC (low T) V):=Lib.hid (by rw [← HT.out,← HV.out])
     by_cases hbad:cntBad r m
     ·have HE:Hid (AttrsR L 19):=Lib.hid (.inr ⟨by decide,snd_bad HSn.out hlL HR0.out HND2.out (HVe.out.trans (vals_many (by rw [← HR.out,← HMl.out];exact hbad))) (by decide)⟩)
      by_cases hm0:m = 0
      ·have s1:((m:Int) == 0) = true:=by simp [hm0]
       have s1':decide ((m:Int) = 0) = true:=by simp [hm0]
       clear hm0 hbad
       go_wp2_with (first | (go_at_call 82;((with_reducible refine (HRu.out _).mono ?_);rintro e wx ⟨rfl,hbx⟩);have HTz:=Lib.hid (bthen HTz.out hbx);obtain ⟨⟨x0,x1⟩,⟨q0,q1⟩⟩:=HKc.out _ HTz.out;clear hbx))
       go_ret
       exact ⟨_,rfl,HE.out,bthen HB1.out HTz.out⟩
      ·have s1:((m:Int) == 0) = false:=by simp;omega
       have s1':decide ((m:Int) = 0) = false:=by simp;omega
       by_cases hm4:40 < m
       ·have s2:decide ((40:Int) < (m:Int)) = true:=by simp;omega
        clear hm0 hbad hm4
        go_wp2_with (first | (go_at_call 82;((with_reducible refine (HRu.out _).mono ?_);rintro e wx ⟨rfl,hbx⟩);have HTz:=Lib.hid (bthen HTz.out hbx);obtain ⟨⟨x0,x1⟩,⟨q0,q1⟩⟩:=HKc.out _ HTz.out;clear hbx))
        go_ret
        exact ⟨_,rfl,HE.out,bthen HB1.out HTz.out⟩
       ·have s2:decide ((40:Int) < (m:Int)) = false:=by simp;omega
        have hr2:r = 2 ∧ 1 < m:=by rcases hbad with h | h | h <;> omega
        have s3:((r:Int) == 2) = true:=by simp [hr2.1]
        have s3':decide ((r:Int) = 2) = true:=by simp [hr2.1]
        have s4:decide ((1:Int) < (m:Int)) = true:=by simp;omega
        clear hm0 hbad hm4 hr2
        go_wp2_with (first | (go_at_call 82;((with_reducible refine (HRu.out _).mono ?_);rintro e wx ⟨rfl,hbx⟩);have HTz:=Lib.hid (bthen HTz.out hbx);obtain ⟨⟨x0,x1⟩,⟨q0,q1⟩⟩:=HKc.out _ HTz.out;clear hbx))
        go_ret
        exact ⟨_,rfl,HE.out,bthen HB1.out HTz.out⟩
     ·have hm0:¬ m = 0:=fun e=>hbad (.inl e)
      have hm4:¬ 40 < m:=fun e=>hbad (.inr (.inl e))
      have s1:((m:Int) == 0) = false:=by simp;omega
      have s1':decide ((m:Int) = 0) = false:=by simp;omega
      have s2:decide ((40:Int) < (m:Int)) = false:=by simp;omega
      have HBd:Hid (¬ cntBad (ruleD T) V.length):=Lib.hid (by rw [← HR.out,← HMl.out];exact hbad)
      have hbw:=fun (h:r = 2)=>show ¬ 1 < m from fun e=>hbad (.inr (.inr ⟨h,e⟩))
      go_cut [32] from 32 to 54 (fun s32 wx=>s32 = .bool false ∧ Below W1.heap.size W1 wx)
      case first=>
       by_cases hr2:r = 2
       ·have s3:((r:Int) == 2) = true:=by simp [hr2]
        have s3':decide ((r:Int) = 2) = true:=by simp [hr2]
        have s4:decide ((1:Int) < (m:Int)) = false:=by have:=hbw hr2;simp;omega
        clear hm0 hbad hm4 hr2 hbw
        go_wp2_with (first | (go_at_call 82;((with_reducible refine (HRu.out _).mono ?_);rintro e wx ⟨rfl,hbx⟩);have HTz:=Lib.hid (bthen HTz.out hbx);obtain ⟨⟨x0,x1⟩,⟨q0,q1⟩⟩:=HKc.out _ HTz.out;clear hbx))
        go_meet
        exact ⟨rfl,HTz.out⟩
       ·have s3:((r:Int) == 2) = false:=by simp;omega
        have s3':decide ((r:Int) = 2) = false:=by simp;omega
        clear hm0 hbad hm4 hr2 hbw
        go_wp2_with (first | (go_at_call 82;((with_reducible refine (HRu.out _).mono ?_);rintro e wx ⟨rfl,hbx⟩);have HTz:=Lib.hid (bthen HTz.out hbx);obtain ⟨⟨x0,x1⟩,⟨q0,q1⟩⟩:=HKc.out _ HTz.out;clear hbx))
        go_meet
        exact ⟨rfl,HTz.out⟩
      case rest=>
       obtain ⟨rfl,hcut⟩:=hcut
       rename World=>wc0
       have HTc:=Lib.hid hcut
       obtain ⟨⟨x0,x1⟩,⟨q0,q1⟩⟩:=HKc.out _ hcut
       clear hcut hm0 hm4 hbw hbad s1 s1' s2
       go_wp2
       go_loopw [5] (fun i wr=>∃ k:Nat,k ≤ m ∧ i = .int .i64 k ∧ Hid (∀ q (hq:q < V.length),q < k → normD r V[q] ≠ none) ∧ Below W1.heap.size W1 wr) (fun i wr=>m - (intOf i).toNat)
       case atStart=>exact ⟨0,by omega,rfl,Lib.hid (fun q _ h=>absurd h (by omega)),HTc.out⟩
       case round=>
        obtain ⟨k,hk,rfl,HAl,hbel⟩:=hrel
        rename World=>wp
        have HTp:=Lib.hid hbel
        obtain ⟨⟨x0,x1⟩,⟨q0,q1⟩⟩:=HKc.out _ hbel
        by_cases hkm:k < m
        ·have r1:decide ((k:Int) < (m:Int)) = true:=by simp;omega
         have r1':decide (k < m) = true:=by simpa using hkm
         have r2:(0:Int) ≤ (k:Int):=by omega
         have r3:(k:Int) < (m:Int):=by omega
         have hkV:k < V.length:=by rw [← HMl.out];exact hkm
         obtain ⟨vb,vo,rfl,Y,hY,hyc,hvb⟩:=HUc.out _ hbel k hkV
         have HKy:Hid (∀ wx,Below W1.heap.size W1 wx → (wx.cell? ⟨gq,0,none⟩ = some (.string X) ∧ wx.cell? ⟨gq,1,none⟩ = some (.slice (some ⟨vb,vo,none⟩) m uc) ∧ wx.cell? ⟨vb,vo + k,none⟩ = some (.string Y))):=Lib.hid (fun wx hb=>⟨(HKc.out _ hb).2.1,(HKc.out _ hb).2.2,by
          obtain ⟨vb',vo',e,Y',hY',hc',_⟩:=HUc.out _ hb k hkV
          simp only [Option.some.injEq,Addr.mk.injEq,and_true] at e
          obtain ⟨rfl,rfl⟩:=e
          rw [hc',show Y' = Y from bytes_ext (by rw [hY',hY])]⟩)
         have hst0:=HKy.out wp.drew hbel.drew
         have hq:=fun W=>HNo.out Y W
         rw [hY] at hq
         cases hnq:normD r V[k] with
         | none=>
          rw [hnq] at hq
          have HQ:=Lib.hid (show ∀ W,Calls Tryz.prog 96 #[.string X,.string Y] W fun e w'=>e = .returned (.agg #[.string ⟨#[]⟩,.bool false]) ∧ Below W.heap.size W w' from hq)
          have HE:Hid (AttrsR L 21):=Lib.hid (.inr ⟨by decide,snd_bad HSn.out hlL HR0.out HND2.out (HVe.out.trans (vals_no HBd.out hkV (by rw [← HR.out];exact hnq))) (by decide)⟩)
          have fs:=fun (W:World)=>field_said1 W ⟨#[]⟩ false
          clear hq hnq hY hyc hbel HAl
          go_upto_region 14 with (fail)
          go_region_held3 (fun w'=>w'.cell? ⟨gq,0,none⟩ = some (.string X) ∧ w'.cell? ⟨gq,1,none⟩ = some (.slice (some ⟨vb,vo,none⟩) m uc) ∧ w'.cell? ⟨vb,vo + k,none⟩ = some (.string Y)) (first | (with_reducible exact hst0) | (with_reducible exact hst1)) (first | (go_at_call 96;((with_reducible refine (HQ.out _).mono ?_);rintro e wx ⟨rfl,hbx⟩);have HTx:=Lib.hid (bthen HTp.out (World_drew_below hbx));have hst1:=HKy.out _ HTx.out;clear hbx))
          all_goals
           go_split_ands
           go_simp
           go_wp2
           go_ret
           exact ⟨_,rfl,HE.out,bthen HB1.out HTx.out⟩
         | some z=>
          rw [hnq] at hq
          have HQ:=Lib.hid (show ∀ W,Calls Tryz.prog 96 #[.string X,.string Y] W fun e w'=>e = .returned (.agg #[.string ⟨z.toArray⟩,.bool true]) ∧ Below W.heap.size W w' from hq)
          have HA2:Hid (∀ q (hq:q < V.length),q < k + 1 → normD r V[q] ≠ none):=Lib.hid (fun q h1 h3=>by
           by_cases hk:q < k
           ·exact HAl.out q h1 hk
           ·obtain rfl:q = k:=by omega
            rw [hnq]
            simp)
          have fs:=fun (W:World)=>field_said1 W ⟨z.toArray⟩ true
          clear hq hnq hY hyc hbel HAl
          go_upto_region 14 with (fail)
          go_region_held3 (fun w'=>w'.cell? ⟨gq,0,none⟩ = some (.string X) ∧ w'.cell? ⟨gq,1,none⟩ = some (.slice (some ⟨vb,vo,none⟩) m uc) ∧ w'.cell? ⟨vb,vo + k,none⟩ = some (.string Y)) (first | (with_reducible exact hst0) | (with_reducible exact hst1)) (first | (go_at_call 96;((with_reducible refine (HQ.out _).mono ?_);rintro e wx ⟨rfl,hbx⟩);have HTx:=Lib.hid (bthen HTp.out (World_drew_below hbx));have hst1:=HKy.out _ HTx.out;clear hbx))
          all_goals
           go_split_ands
           go_simp
           go_wp2
           go_roundw
           case rel=>exact ⟨k + 1,by omega,by go_num,HA2,HTx.out⟩
           case measure=>simp [intOf];omega
        ·obtain rfl:k = m:=by omega
         have r1:decide ((k:Int) < (k:Int)) = false:=by simp
         have r1':decide (k < k) = false:=by simp
         have HAll:Hid (∀ q (hq:q < V.length),normD (ruleD T) V[q] ≠ none):=Lib.hid (fun q hq=>by rw [← HR.out];exact HAl.out q hq (by rw [HMl.out];exact hq))
         clear hbel HAl
         go_wp2
         clear r1 r1'
         go_loopw [6] (fun i wr=>∃ e:Nat,e ≤ k ∧ i = .int .i64 e ∧ Hid (∀ y (hy:y < V.length),y < e → ∀ x (hx:x < y),sameO (normD (ruleD T) V[x]) (normD (ruleD T) V[y]) = false) ∧ Below W1.heap.size W1 wr) (fun i wr=>k - (intOf i).toNat)
         case atStart=>exact ⟨0,by omega,rfl,Lib.hid (fun q _ h=>absurd h (by omega)),HTp.out⟩
         case round=>
          obtain ⟨e,he,rfl,HSa,hbel⟩:=hrel
          rename World=>wp2
          have HTp2:=Lib.hid hbel
          obtain ⟨⟨x0,x1⟩,⟨q0,q1⟩⟩:=HKc.out _ hbel
          by_cases hek:e < k
          ·have r1:decide ((e:Int) < (k:Int)) = true:=by simp;omega
           have r1':decide (e < k) = true:=by simpa using hek
           have r2:(0:Int) ≤ (e:Int):=by omega
           have r3:(e:Int) < (k:Int):=by omega
           have heV:e < V.length:=by rw [← HMl.out];exact hek
           clear hbel
           go_wp2
           clear r1 r1'
           go_loopw [7] (fun i wr=>∃ f:Nat,f ≤ e ∧ i = .int .i64 f ∧ Hid (∀ x (hx:x < f) (hxV:x < V.length),sameO (normD (ruleD T) V[x]) (normD (ruleD T) V[e]) = false) ∧ Below W1.heap.size W1 wr) (fun i wr=>e - (intOf i).toNat)
           case atStart=>exact ⟨0,by omega,rfl,Lib.hid (fun x h=>absurd h (by omega)),HTp2.out⟩
           case round=>
            obtain ⟨f,hf,rfl,HSf,hbel⟩:=hrel
            rename World=>wq
            have HTq:=Lib.hid hbel
            obtain ⟨⟨x0,x1⟩,⟨q0,q1⟩⟩:=HKc.out _ hbel
            by_cases hfe:f < e
            ·have r1:decide ((f:Int) < (e:Int)) = true:=by simp;omega
             have r1':decide (f < e) = true:=by simpa using hfe
             have r4:(0:Int) ≤ (f:Int):=by omega
             have r5:(f:Int) < (k:Int):=by omega
             have hfV:f < V.length:=by omega
             obtain ⟨vb,vo,rfl,Y,hY,hyc,hvb⟩:=HUc.out _ hbel f hfV
             have HKz:∀ wx,Below W1.heap.size W1 wx → ∃ Z:ByteArray,Z.data.toList = V[e] ∧ wx.cell? ⟨vb,vo + e,none⟩ = some (.string Z):=fun wx hb=>by
              obtain ⟨vb',vo',e',Z,hZ,hc',_⟩:=HUc.out _ hb e heV
              simp only [Option.some.injEq,Addr.mk.injEq,and_true] at e'
              obtain ⟨rfl,rfl⟩:=e'
              exact ⟨Z,hZ,hc'⟩
             obtain ⟨Z,hZ,hzc⟩:=HKz _ hbel
             have HKy:Hid (∀ wx,Below W1.heap.size W1 wx → (wx.cell? ⟨gq,0,none⟩ = some (.string X) ∧ wx.cell? ⟨gq,1,none⟩ = some (.slice (some ⟨vb,vo,none⟩) k uc) ∧ wx.cell? ⟨vb,vo + f,none⟩ = some (.string Y) ∧ wx.cell? ⟨vb,vo + e,none⟩ = some (.string Z))):=Lib.hid (fun wx hb=>⟨(HKc.out _ hb).2.1,(HKc.out _ hb).2.2,by
              obtain ⟨vb',vo',e',Y',hY',hc',_⟩:=HUc.out _ hb f hfV
              simp only [Option.some.injEq,Addr.mk.injEq,and_true] at e'
              obtain ⟨rfl,rfl⟩:=e'
              rw [hc',show Y' = Y from bytes_ext (by rw [hY',hY])],by
              obtain ⟨Z',hZ',hc'⟩:=HKz _ hb
              rw [hc',show Z' = Z from bytes_ext (by rw [hZ',hZ])]⟩)
             have hst0:=HKy.out wq.drew hbel.drew
             have hq:=fun W=>HSv.out Y Z W
             rw [hY,hZ,HR.out] at hq
             cases hsq:sameO (normD (ruleD T) V[f]) (normD (ruleD T) V[e]) with
             | true=>
              rw [hsq] at hq
              have HQ:=Lib.hid hq
              have HE:Hid (AttrsR L 20):=Lib.hid (.inr ⟨by decide,snd_bad HSn.out hlL HR0.out HND2.out (HVe.out.trans (vals_dup HBd.out HAll.out heV hfe hsq)) (by decide)⟩)
              clear hq hsq hY hyc hbel HSf hZ hzc HKz HSa
              go_upto_region 22 with (fail)
              go_region_held3 (fun w'=>w'.cell? ⟨gq,0,none⟩ = some (.string X) ∧ w'.cell? ⟨gq,1,none⟩ = some (.slice (some ⟨vb,vo,none⟩) k uc) ∧ w'.cell? ⟨vb,vo + f,none⟩ = some (.string Y) ∧ w'.cell? ⟨vb,vo + e,none⟩ = some (.string Z)) (first | (with_reducible exact hst0) | (with_reducible exact hst1)) (first | (go_at_call 57;((with_reducible refine (HQ.out _).mono ?_);rintro e wx ⟨rfl,hbx⟩);have HTx:=Lib.hid (bthen HTq.out (World_drew_below hbx));have hst1:=HKy.out _ HTx.out;clear hbx))
              all_goals
               go_split_ands
               go_simp
               go_wp2
               go_ret
               exact ⟨_,rfl,HE.out,bthen HB1.out HTx.out⟩
             | false=>
              rw [hsq] at hq
              have HQ:=Lib.hid hq
              have HA2:Hid (∀ x (hx:x < f + 1) (hxV:x < V.length),sameO (normD (ruleD T) V[x]) (normD (ruleD T) V[e]) = false):=Lib.hid (fun x h1 h3=>by
               by_cases hk:x < f
               ·exact HSf.out x hk h3
               ·obtain rfl:x = f:=by omega
                exact hsq)
              clear hq hsq hY hyc hbel HSf hZ hzc HKz
              go_upto_region 22 with (fail)
              go_region_held3 (fun w'=>w'.cell? ⟨gq,0,none⟩ = some (.string X) ∧ w'.cell? ⟨gq,1,none⟩ = some (.slice (some ⟨vb,vo,none⟩) k uc) ∧ w'.cell? ⟨vb,vo + f,none⟩ = some (.string Y) ∧ w'.cell? ⟨vb,vo + e,none⟩ = some (.string Z)) (first | (with_reducible exact hst0) | (with_reducible exact hst1)) (first | (go_at_call 57;((with_reducible refine (HQ.out _).mono ?_);rintro e wx ⟨rfl,hbx⟩);have HTx:=Lib.hid (bthen HTq.out (World_drew_below hbx));have hst1:=HKy.out _ HTx.out;clear hbx))
              all_goals
               go_split_ands
               go_simp
               go_wp2
               go_roundw
               case rel=>exact ⟨f + 1,by omega,by go_num,HA2,HTx.out⟩
               case measure=>simp [intOf];omega
            ·obtain rfl:f = e:=by omega
             have r1:decide ((f:Int) < (f:Int)) = false:=by simp
             have r1':decide (f < f) = false:=by simp
             have HA2:Hid (∀ y (hy:y < V.length),y < f + 1 → ∀ x (hx:x < y),sameO (normD (ruleD T) V[x]) (normD (ruleD T) V[y]) = false):=Lib.hid (fun y h1 h3 x hx=>by
              by_cases hk:y < f
              ·exact HSa.out y h1 hk x hx
              ·obtain rfl:y = f:=by omega
               exact HSf.out x hx (by omega))
             clear hbel HSf HSa
             go_wp2
             go_roundw
             case rel=>exact ⟨f + 1,by omega,by go_num,HA2,HTq.out⟩
             case measure=>simp [intOf];omega
          ·obtain rfl:e = k:=by omega
           have r1:decide ((e:Int) < (e:Int)) = false:=by simp
           have r1':decide (e < e) = false:=by simp
           have HE:Hid (SndAt L (j + 1)):=Lib.hid (snd_more HSn.out hlL HR0.out HND2.out (HVe.out.trans (vals_ok HBd.out HAll.out (fun y hy x hx=>HSa.out y hy (by rw [HMl.out];exact hy) x hx))))
           clear hbel HSa
           go_wp2
           go_roundw
           case rel=>exact ⟨j + 1,by omega,by go_num,HE,HB01.out.trans (HTp2.out.mono (by have:=HB01.out.size;omega))⟩
           case measure=>simp [intOf];omega
  ·obtain rfl:j = n:=by omega
   have t1:decide ((j:Int) < (j:Int)) = false:=by simp
   have t1':decide (j < j) = false:=by simp
   go_wp2
   go_ret
   exact ⟨0,rfl,.inl ⟨rfl,by rw [← HN.out];exact HSn.out⟩,HBw.out⟩
end Go.Proofs.YtlimajgmdhhggaaGreatDoor
