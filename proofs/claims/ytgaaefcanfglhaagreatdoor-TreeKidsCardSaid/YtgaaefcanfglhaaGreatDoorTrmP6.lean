/- Several texts in one file: RegInv, RegFact, RegTwo, ScNedA, RegJ, MkA, MkP, TrEntP, MkG, Arg. -/
import Derived.RegionTactic
import Derived.Below
import Derived.Test.YtgaaefcanfglhaaGreatDoorTrmP5
import Derived.Deep.AppendSrc
import Derived.Test.YtgaaefcanfglhaaGreatDoorDnTextW
import Derived.OpenShut
import Derived.Carry
import Derived.ChangeSlices
import Derived.Deep.Strs
import Derived.Deep.SlicePairs
namespace Go.Proofs.YtgaaefcanfglhaaGreatDoor
set_option linter.unusedVariables false
section
variable {P:Program} {ops:Array Oper} {Q:Exit→Act→World→Prop} {md:Region.Mode}
def toCome (l:Array Bool):Nat:=l.toList.count false
theorem toCome_some {l:Array Bool} {i:Nat} (h:l.getD i true=false):∃ hi:i<l.size,l[i]=false:=by
 rcases Nat.lt_or_ge i l.size with hi | hi
 ·refine ⟨hi,?_⟩;simpa [hi] using h
 ·simp[Array.getElem?_eq_none hi] at h
theorem toCome_set {l:Array Bool} {i:Nat} (h:l.getD i true=false):toCome (l.setIfInBounds i true)+1=toCome l:=by
 obtain ⟨hi,he⟩:=toCome_some h;unfold toCome;have hi':i<l.toList.length:=by simpa using hi
 have he':l.toList[i]=false:=by simpa using he
 have hpos:0<l.toList.count false:=List.count_pos_iff.2 (by rw[← he'];exact List.getElem_mem hi');rw[Array.toList_setIfInBounds,List.count_set hi',he'];rw[if_pos (by rfl),if_neg (by decide)];omega
theorem toCome_none {l:Array Bool} (h:toCome l=0) {i:Nat}:l.getD i true≠false:=fun hf=>by
 have:=toCome_set hf;omega
theorem wpAny_inv (Inv:Array Bool→Act→World→Prop)
  (hstep:∀ listed a w,Inv listed a w→∀ i∈Region.ready md ops listed,wpOp P ops Q i (Inv (listed.setIfInBounds i true)) a w)
  (hend:∀ listed a w,Inv listed a w→Region.ready md ops listed=[]→Q .normal a w) :
  ∀ (fuel:Nat) (listed:Array Bool) (a:Act) (w:World),toCome listed≤fuel→Inv listed a w→wpAny P md ops Q fuel listed a w
 | 0,listed,a,w,hf,hI=>by
  have hr:Region.ready md ops listed=[]:=by
   cases hc:Region.ready md ops listed with
   | nil=>rfl
   | cons j rs=>exact absurd (mem_ready.1 (hc ▸ List.mem_cons_self:j∈Region.ready md ops listed)).1 (toCome_none (by omega))
  exact ⟨hr,hend _ _ _ hI hr⟩
 | fuel+1,listed,a,w,hf,hI=>by
  refine ⟨fun hr=>hend _ _ _ hI hr,fun i hi=>wpOp_mono (fun a' w' h=>?_) (hstep _ _ _ hI i hi)⟩;have:=toCome_set (mem_ready.1 hi).1;exact wpAny_inv Inv hstep hend fuel _ a' w' (by omega) h
theorem all_come {listed:Array Bool} (hb:∀ (i:Nat) (o:Oper),ops[i]?=some o→∀ e∈o.after,e.on<i) (hs:listed.size=ops.size) (hr:Region.ready md ops listed=[]) :
  ∀ (n i:Nat),i<n→i<ops.size→listed.getD i false=true
 | 0,i,h,_=>by omega
 | n+1,i,h,hi=>by
  have ih:=all_come hb hs hr n
  cases hc:listed.getD i false with
  | true=>rfl
  | false=>
   exfalso;have hm:i∈Region.ready md ops listed:=by
    refine mem_ready.2 ⟨?_,ops[i],Array.getElem?_eq_getElem hi,fun e he _=>?_⟩
    ·have hi':i<listed.size:=by omega
     simpa [hi'] using hc
    ·have:=hb i _ (Array.getElem?_eq_getElem hi) e he;exact ih e.on (by omega) (by omega)
   rw[hr] at hm
   cases hm
theorem region_inv {id:Nat} {a:Act} {w:World} (hm:P.follows .mixedOrders=true) (Inv:Array Bool→Act→World→Prop)
  (h0:Inv (Array.replicate ops.size false) a { w with drawn:=w.drawn+1 })
  (hb:∀ (i:Nat) (o:Oper),ops[i]?=some o→∀ e∈o.after,e.on<i)
  (hsize:∀ listed a w,Inv listed a w→listed.size=ops.size)
  (hstep:∀ listed a w,Inv listed a w→∀ (i:Nat) (o:Oper),ops[i]?=some o→listed.getD i true=false→(∀ e∈o.after,Region.binds .any e=true→listed.getD e.on false=true) →
   wpOp P ops Q i (Inv (listed.setIfInBounds i true)) a w)
  (hend:∀ listed a w,Inv listed a w→(∀ i,i<ops.size→listed.getD i false=true)→Q .normal a w):(Code.region id ops true).wp P Q a w:=by
 refine wp_region_any hm (wpAny_inv Inv (fun listed a w hI i hi=>?_) (fun listed a w hI hr=>?_) _ _ _ _ ?_ h0)
 ·obtain ⟨h1,o,h2,h3⟩:=mem_ready.1 hi;exact hstep listed a w hI i o h2 h1 h3
 ·exact hend listed a w hI fun i hi=>all_come hb (hsize _ _ _ hI) hr (i+1) i (by omega) hi
 ·unfold toCome;refine Nat.le_trans List.count_le_length ?_;simp
end
end Go.Proofs.YtgaaefcanfglhaaGreatDoor
namespace Go.Proofs.YtgaaefcanfglhaaGreatDoor
set_option linter.unusedVariables false
section
variable {P:Program} {ops:Array Oper} {Q:Exit→Act→World→Prop}
def Came (listed:Array Bool) (o:Oper):Prop:=∀ e∈o.after,Region.binds .any e=true→listed.getD e.on false=true
structure Kept (ops:Array Oper) (F:Nat→Value→World→Prop) (G:World→World→Prop) (a0:Act) (w0:World) (listed:Array Bool) (a:Act) (w:World):Prop where
 size:listed.size=ops.size
 shut:∀ (i:Nat) (o:Oper),ops[i]?=some o→listed.getD i false=true→Came listed o
 defers:a.defers=a0.defers
 slots:a.tmps.size=a0.tmps.size
 grown:G w0 w
 other:∀ t,(∀ (i:Nat) (o:Oper),ops[i]?=some o→o.dst≠some t)→a.tmps[t]?=a0.tmps[t]?
 fact:∀ (i:Nat) (o:Oper) (d:Tmp),ops[i]?=some o→o.dst=some d→listed.getD i false=true→∃ v,a.tmps[d]?=some v∧F i v w
theorem came_more {listed:Array Bool} {i:Nat} {o:Oper} (h:Came listed o):Came (listed.setIfInBounds i true) o:=fun e he hb=>getD_set_true (h e he hb)
theorem getD_set_self {listed:Array Bool} {i:Nat} (h:i<listed.size):(listed.setIfInBounds i true).getD i false=true:=by simp[h]
theorem Kept.more {F:Nat→Value→World→Prop} {G:World→World→Prop} {a0 a:Act} {w0 w w':World} {listed:Array Bool} (hk:Kept ops F G a0 w0 listed a w) {i:Nat} {o:Oper} {d:Tmp} {v:Value}
  (hF:∀ i v w w',F i v w→G w w'→F i v w') (hG:∀ w w' w'',G w w'→G w' w''→G w w'')
  (hd:∀ (i j:Nat) (o o':Oper) (d:Tmp),ops[i]?=some o→ops[j]?=some o'→o.dst=some d→o'.dst=some d→i=j)
  (hin:∀ (i:Nat) (o:Oper) (d:Tmp),ops[i]?=some o→o.dst=some d→d<a0.tmps.size)
  (ho:ops[i]?=some o) (hod:o.dst=some d) (hc:Came listed o) (hg:G w w') (hv:F i v w'):Kept ops F G a0 w0 (listed.setIfInBounds i true) (a.put (some d) v) w':=by
 have hi:i<listed.size:=by rw[hk.size];exact (Array.getElem?_eq_some_iff.1 ho).1
 refine ⟨by simp[hk.size],fun j o' ho' hl=>?_,hk.defers,by simp[Act.put,hk.slots],hG _ _ _ hk.grown hg,fun t ht=>?_,fun j o' d' ho' hd' hl=>?_⟩
 ·by_cases hij:i=j
  ·subst hij;rw[ho] at ho';cases ho';exact came_more hc
  ·rw[getD_set_ne false hij] at hl;exact came_more (hk.shut j o' ho' hl)
 ·have:d≠t:=fun h=>ht i o ho (by rw[hod,h])
  simp only[Act.put];rw[Array.getElem?_setIfInBounds_ne this];exact hk.other t ht
 ·by_cases hij:i=j
  ·subst hij;rw[ho] at ho';cases ho';rw[hod] at hd';cases hd';refine ⟨v,?_,hv⟩;have:d<a.tmps.size:=by rw[hk.slots];exact hin i o d ho hod
   simp[Act.put,this]
  ·rw[getD_set_ne false hij] at hl;obtain ⟨u,hu,hf⟩:=hk.fact j o' d' ho' hd' hl;have:d≠d':=fun h=>hij (hd i j o o' d ho ho' hod (by rw[hd',h]))
   refine ⟨u,?_,hF _ _ _ _ hf hg⟩;simp only[Act.put];rw[Array.getElem?_setIfInBounds_ne this];exact hu
theorem rest_came {listed:Array Bool} (hs:∀ (i:Nat) (o:Oper),ops[i]?=some o→listed.getD i false=true→Came listed o)
  (hw:∀ i,i+1<ops.size→∃ (j:Nat) (o:Oper),i<j∧ops[j]?=some o∧∃ e∈o.after,Region.binds .any e=true∧e.on=i)
  {l:Oper} (hl:ops[ops.size - 1]?=some l) (hc:Came listed l):∀ (n i:Nat),ops.size≤i+1+n→i+1<ops.size→listed.getD i false=true
 | 0,i,h,hi=>by omega
 | n+1,i,h,hi=>by
  obtain ⟨j,o,hij,ho,e,he,hb,rfl⟩:=hw i hi;have hj:j<ops.size:=(Array.getElem?_eq_some_iff.1 ho).1
  by_cases hlast:j=ops.size - 1
  ·subst hlast;rw[ho] at hl;cases hl;exact hc e he hb
  ·exact hs j o ho (rest_came hs hw hl hc n j (by omega) (by omega)) e he hb
theorem region_facts {id:Nat} {a0:Act} {w0:World} (hm:P.follows .mixedOrders=true) (F:Nat→Value→World→Prop) (G:World→World→Prop)
  (hF:∀ i v w w',F i v w→G w w'→F i v w') (hG:∀ w w' w'',G w w'→G w' w''→G w w'') (h0:G w0 { w0 with drawn:=w0.drawn+1 })
  (hb:∀ (i:Nat) (o:Oper),ops[i]?=some o→∀ e∈o.after,e.on<i)
  (hd:∀ (i j:Nat) (o o':Oper) (d:Tmp),ops[i]?=some o→ops[j]?=some o'→o.dst=some d→o'.dst=some d→i=j)
  (hin:∀ (i:Nat) (o:Oper) (d:Tmp),ops[i]?=some o→o.dst=some d→d<a0.tmps.size)
  (hw:∀ i,i+1<ops.size→∃ (j:Nat) (o:Oper),i<j∧ops[j]?=some o∧∃ e∈o.after,Region.binds .any e=true∧e.on=i)
  {l:Oper} (hl:ops[ops.size - 1]?=some l)
  (hstep:∀ listed a w,Kept ops F G a0 w0 listed a w→∀ (i:Nat) (o:Oper),ops[i]?=some o→i+1<ops.size→Came listed o →
   wpOp P ops Q i (fun a' w'=>∃ d v,o.dst=some d∧a'=a.put (some d) v∧G w w'∧F i v w') a w)
  (hlast:∀ listed a w,Kept ops F G a0 w0 listed a w→(∀ i,i+1<ops.size→listed.getD i false=true)→wpOp P ops Q (ops.size - 1) (fun a' w'=>Q .normal a' w') a w) :
  (Code.region id ops true).wp P Q a0 w0:=by
 have hne:0<ops.size:=by
  have:=(Array.getElem?_eq_some_iff.1 hl).1;omega
 refine region_inv hm (fun listed a w=>(Kept ops F G a0 w0 listed a w∧listed.getD (ops.size - 1) false=false)∨(listed.size=ops.size∧(∀ i,i<ops.size→listed.getD i false=true)∧Q .normal a w)) ?_ hb ?_ ?_ ?_
 ·have hno:∀ i,(Array.replicate ops.size false).getD i false=false:=fun i=>by
   rcases Nat.lt_or_ge i ops.size with h | h <;> simp[h]
  exact .inl ⟨⟨by simp,fun i o _ h=>(by rw[hno] at h;cases h),rfl,rfl,h0,fun _ _=>rfl,fun i o d _ _ h=>(by rw[hno] at h;cases h)⟩,hno _⟩
 ·rintro listed a w (⟨h,_⟩ | ⟨h,_⟩)
  ·exact h.size
  ·exact h
 ·rintro listed a w (⟨hk,hn⟩ | ⟨hs,ha,_⟩) i o ho hi hc
  ·have hio:i<ops.size:=(Array.getElem?_eq_some_iff.1 ho).1
   by_cases hlst:i=ops.size - 1
   ·subst hlst;rw[ho] at hl;cases hl;have hall:=fun j=>rest_came hk.shut hw ho hc ops.size j (by omega)
    refine wpOp_mono (fun a' w' hq=>.inr ⟨by simp[hk.size],fun j hj=>?_,hq⟩) (hlast listed a w hk hall)
    by_cases hjl:j=ops.size - 1
    ·subst hjl;exact getD_set_self (by rw[hk.size];exact hio)
    ·exact getD_set_true (hall j (by omega))
   ·refine wpOp_mono (fun a' w' hq=>?_) (hstep listed a w hk i o ho (by omega) hc);obtain ⟨d,v,hod,rfl,hg,hv⟩:=hq;exact .inl ⟨hk.more hF hG hd hin ho hod hc hg hv,by rw[getD_set_ne false hlst];exact hn⟩
  ·exfalso;have hio:i<ops.size:=(Array.getElem?_eq_some_iff.1 ho).1;have:=ha i hio;have hi':i<listed.size:=by omega
   simp[hi'] at this hi;rw[this] at hi;cases hi
 ·rintro listed a w (⟨hk,hn⟩ | ⟨_,_,hq⟩) ha
  ·rw[ha _ (by omega)] at hn;cases hn
  ·exact hq
def regOk (ops:Array Oper) (n:Nat):Bool:=(List.range ops.size).all fun i=>match ops[i]? with
 | none=>true
 | some o=>(o.after.all fun e=>decide (e.on<i)) && (match o.dst with
   | none=>true
   | some d=>decide (d<n) && (List.range ops.size).all fun j=>match ops[j]? with
    | none=>true
    | some o'=>decide (o'.dst≠some d) || decide (i=j)) &&
  (decide (ops.size≤i+1) || (List.range ops.size).any fun j=>match ops[j]? with
    | none=>false
    | some o'=>decide (i<j) && o'.after.any fun e=>Region.binds .any e && decide (e.on=i))
theorem regOk_at {n:Nat} (h:regOk ops n=true) {i:Nat} {o:Oper} (ho:ops[i]?=some o) :
  (∀ e∈o.after,e.on<i)∧(∀ d,o.dst=some d→d<n∧∀ (j:Nat) (o':Oper),ops[j]?=some o'→o'.dst=some d→i=j) ∧
   (i+1<ops.size→∃ (j:Nat) (o':Oper),i<j∧ops[j]?=some o'∧∃ e∈o'.after,Region.binds .any e=true∧e.on=i):=by
 have hi:i<ops.size:=(Array.getElem?_eq_some_iff.1 ho).1;have h1:=List.all_eq_true.1 h i (List.mem_range.2 hi);rw[ho] at h1;simp only[Bool.and_eq_true,Bool.or_eq_true,decide_eq_true_eq] at h1;obtain ⟨⟨ha,hb⟩,hc⟩:=h1;refine ⟨fun e he=>?_,fun d hd=>?_,fun hlt=>?_⟩
 ·have:=Array.all_eq_true_iff_forall_mem.1 ha e he;simpa using this
 ·rw[hd] at hb;simp only[Bool.and_eq_true,decide_eq_true_eq] at hb;refine ⟨hb.1,fun j o' ho' hd'=>?_⟩;have h2:=List.all_eq_true.1 hb.2 j (List.mem_range.2 (Array.getElem?_eq_some_iff.1 ho').1);rw[ho'] at h2;simp only[Bool.or_eq_true,decide_eq_true_eq] at h2;rcases h2 with h2 | h2
  ·exact absurd hd' h2
  ·exact h2
 ·rcases hc with hc | hc
  ·omega
  ·obtain ⟨j,_,hj⟩:=List.any_eq_true.1 hc
   cases ho':ops[j]? with
   | none=>rw[ho'] at hj;cases hj
   | some o'=>
    rw[ho'] at hj;simp only[Bool.and_eq_true,decide_eq_true_eq] at hj;obtain ⟨e,he,hbe⟩:=Array.any_eq_true'.1 hj.2;simp only[Bool.and_eq_true,decide_eq_true_eq] at hbe;exact ⟨j,o',hj.1,ho',e,he,hbe.1,hbe.2⟩
theorem region_factsB {id:Nat} {a0:Act} {w0:World} (hm:P.follows .mixedOrders=true) (F:Nat→Value→World→Prop) (G:World→World→Prop)
  (hF:∀ i v w w',F i v w→G w w'→F i v w') (hG:∀ w w' w'',G w w'→G w' w''→G w w'') (h0:G w0 { w0 with drawn:=w0.drawn+1 })
  (hok:regOk ops a0.tmps.size=true) {l:Oper} (hl:ops[ops.size - 1]?=some l)
  (hstep:∀ listed a w,Kept ops F G a0 w0 listed a w→∀ (i:Nat) (o:Oper),ops[i]?=some o→i+1<ops.size→Came listed o →
   wpOp P ops Q i (fun a' w'=>∃ d v,o.dst=some d∧a'=a.put (some d) v∧G w w'∧F i v w') a w)
  (hlast:∀ listed a w,Kept ops F G a0 w0 listed a w→(∀ i,i+1<ops.size→listed.getD i false=true)→wpOp P ops Q (ops.size - 1) (fun a' w'=>Q .normal a' w') a w) :
  (Code.region id ops true).wp P Q a0 w0:=
 region_facts hm F G hF hG h0 (fun i o ho=>(regOk_at hok ho).1) (fun i j o o' d ho ho' hd hd'=>((regOk_at hok ho).2.1 d hd).2 j o' ho' hd') (fun i o d ho hd=>((regOk_at hok ho).2.1 d hd).1)
  (fun i hi=>(regOk_at hok (Array.getElem?_eq_getElem (show i<ops.size by omega))).2.2 hi) hl hstep hlast
theorem wpOp_val {i:Nat} {o:Oper} {a:Act} {w w':World} {v:Value} {K:Act→World→Prop} (ho:ops[i]?=some o) (hg:o.guard=none) (hr:(execOp a.eval o).run P w=.ok (.value v) w') (hk:K (a.put o.dst v) w'):wpOp P ops Q i K a w:=by
 unfold wpOp;rw[ho]
 show if Region.wanted o (yielded ops a.tmps)=true then _ else _
 rw[if_pos (by unfold Region.wanted;rw[hg])];refine .inl ?_;unfold Oper.wp;rw[hr];exact hk
def noDst (ops:Array Oper) (t:Nat):Bool:=(List.range ops.size).all fun i=>match ops[i]? with
 | none=>true
 | some o=>decide (o.dst≠some t)
theorem Kept.read {F:Nat→Value→World→Prop} {G:World→World→Prop} {a0 a:Act} {w0 w:World} {listed:Array Bool} (hk:Kept ops F G a0 w0 listed a w) {t:Nat} {v:Value} (hn:noDst ops t=true) (h:a0.tmps[t]?=some v):a.tmps[t]?.getD undef=v:=by
 have h1:=hk.other t fun i o ho=>by
  have h2:=List.all_eq_true.1 hn i (List.mem_range.2 (Array.getElem?_eq_some_iff.1 ho).1);rw[ho] at h2;simpa using h2
 rw[h1,h];rfl
theorem Kept.got {F:Nat→Value→World→Prop} {G:World→World→Prop} {a0 a:Act} {w0 w:World} {listed:Array Bool} (hk:Kept ops F G a0 w0 listed a w) {j:Nat} {o:Oper} {d:Tmp} (ho:ops[j]?=some o) (hd:o.dst=some d) (hl:listed.getD j false=true) :
  ∃ v,a.tmps[d]?.getD undef=v∧F j v w:=by
 obtain ⟨v,h,hf⟩:=hk.fact j o d ho hd hl;refine ⟨v,?_,hf⟩;rw[h];rfl
end
end Go.Proofs.YtgaaefcanfglhaaGreatDoor
namespace Go.Proofs.YtgaaefcanfglhaaGreatDoor
open Go.RowKit
set_option linter.unusedVariables false
section
variable {P:Program} {ops:Array Oper} {Q:Exit→Act→World→Prop}
theorem Kept.more2 {F F':Nat→Value→World→Prop} {G:World→World→Prop} {a0 a:Act} {w0 w w':World} {listed:Array Bool} (hk:Kept ops F G a0 w0 listed a w) {i:Nat} {o:Oper} {d:Tmp} {v:Value}
  (hF:∀ j u,j≠i→F j u w→F' j u w') (hgr:G w0 w')
  (hd:∀ (i j:Nat) (o o':Oper) (d:Tmp),ops[i]?=some o→ops[j]?=some o'→o.dst=some d→o'.dst=some d→i=j)
  (hin:∀ (i:Nat) (o:Oper) (d:Tmp),ops[i]?=some o→o.dst=some d→d<a0.tmps.size)
  (ho:ops[i]?=some o) (hod:o.dst=some d) (hc:Came listed o) (hv:F' i v w'):Kept ops F' G a0 w0 (listed.setIfInBounds i true) (a.put (some d) v) w':=by
 have hi:i<listed.size:=by rw[hk.size];exact (Array.getElem?_eq_some_iff.1 ho).1
 refine ⟨by simp[hk.size],fun j o' ho' hl=>?_,hk.defers,by simp[Act.put,hk.slots],hgr,fun t ht=>?_,fun j o' d' ho' hd' hl=>?_⟩
 ·by_cases hij:i=j
  ·subst hij;rw[ho] at ho';cases ho';exact came_more hc
  ·rw[getD_set_ne false hij] at hl;exact came_more (hk.shut j o' ho' hl)
 ·have:d≠t:=fun h=>ht i o ho (by rw[hod,h])
  simp only[Act.put];rw[Array.getElem?_setIfInBounds_ne this];exact hk.other t ht
 ·by_cases hij:i=j
  ·subst hij;rw[ho] at ho';cases ho';rw[hod] at hd';cases hd';refine ⟨v,?_,hv⟩;have:d<a.tmps.size:=by rw[hk.slots];exact hin i o d ho hod
   simp[Act.put,this]
  ·rw[getD_set_ne false hij] at hl;obtain ⟨u,hu,hf⟩:=hk.fact j o' d' ho' hd' hl;have:d≠d':=fun h=>hij (hd i j o o' d ho ho' hod (by rw[hd',h]))
   refine ⟨u,?_,hF _ _ (fun h=>hij h.symm) hf⟩;simp only[Act.put];rw[Array.getElem?_setIfInBounds_ne this];exact hu
def depOn (ops:Array Oper) (l2 l1:Nat):Bool:=match ops[l2]? with
 | none=>false
 | some o=>o.after.any fun e=>Region.binds .any e && decide (e.on=l1)
def laidT (a:Array Value):List Oper→Array Value→Array Value
 | [],r=>r
 | o :: l,r=>laidT a l (match o.dst with | none=>r | some d=>r.setIfInBounds d (a[d]?.getD undef))
theorem laidT_at (a:Array Value) (t:Nat):∀ (l:List Oper) (r:Array Value),r[t]?=a[t]?∨(∃ o∈l,o.dst=some t)→a.size=r.size→(laidT a l r)[t]?=a[t]?
 | [],r,h,_=>by
  rcases h with h | ⟨o,ho,_⟩
  ·exact h
  ·simp at ho
 | o :: l,r,h,hs=>by
  rw[laidT]
  cases e:o.dst with
  | none=>
   refine laidT_at a t l r ?_ hs;rcases h with h | ⟨o',ho',he⟩
   ·exact .inl h
   ·rcases List.mem_cons.1 ho' with rfl | ho'
    ·rw[e] at he;cases he
    ·exact .inr ⟨o',ho',he⟩
  | some d=>
   simp only;refine laidT_at a t l _ ?_ (by simpa using hs)
   by_cases hdt:d=t
   ·subst hdt;left;rcases Nat.lt_or_ge d a.size with hlt | hge
    ·rw[Array.getElem?_setIfInBounds_self_of_lt (by omega),Array.getElem?_eq_getElem hlt];rfl
    ·rw[Array.getElem?_eq_none hge,Array.getElem?_eq_none (by simp;omega)]
   ·rcases h with h | ⟨o',ho',he⟩
    ·left;rw[Array.getElem?_setIfInBounds_ne hdt];exact h
    ·rcases List.mem_cons.1 ho' with rfl | ho'
     ·rw[e] at he;cases he;exact absurd rfl hdt
     ·exact .inr ⟨o',ho',he⟩
theorem Kept.frame {F:Nat→Value→World→Prop} {G:World→World→Prop} {a0 a:Act} {w0 w:World} {listed:Array Bool} (hk:Kept ops F G a0 w0 listed a w):a={ a0 with tmps:=laidT a.tmps ops.toList a0.tmps }:=by
 have h1:a.tmps=laidT a.tmps ops.toList a0.tmps:=by
  refine Array.ext_getElem? fun t=>?_
  symm
  refine laidT_at a.tmps t _ _ ?_ hk.slots
  by_cases h:∃ o∈ops.toList,o.dst=some t
  ·exact .inr h
  ·left;refine (hk.other t fun i o ho hd=>h ⟨o,?_,hd⟩).symm;exact List.mem_of_getElem? (i:=i) (by simpa using ho)
 cases a
 cases a0
 have h2:=hk.defers;simp only at h1 h2;simp only[← h1,h2]
def putT (t:Array Value):List Oper→Act→Act
 | [],r=>r
 | o :: l,r=>putT t l (r.put o.dst (match o.dst with | none=>undef | some d=>t[d]?.getD undef))
theorem putT_eq (t:Array Value):∀ (l:List Oper) (r:Act),putT t l r={ r with tmps:=laidT t l r.tmps }
 | [],r=>rfl
 | o :: l,r=>by
  rw[putT,putT_eq t l,laidT]
  cases o.dst <;> rfl
theorem Kept.puts {F:Nat→Value→World→Prop} {G:World→World→Prop} {a0 a:Act} {w0 w:World} {listed:Array Bool} (hk:Kept ops F G a0 w0 listed a w):a=putT a.tmps ops.toList a0:=by
 rw[putT_eq];exact hk.frame
end
end Go.Proofs.YtgaaefcanfglhaaGreatDoor
namespace Go.Proofs.YtgaaefcanfglhaaGreatDoor
open Go.RowKit
set_option linter.unusedVariables false
def StrB (w:World) (b:Nat):Prop:=∃ cs fr,w.heap[b]?=some (.cells cs 9 fr)
def SaysM (w:World) (P:List PT) (L:List AT):Prop:=P.length=L.length∧∀ j (h:j<L.length) (h':j<P.length),P[j].1=L[j].1∧IsTo (StrB w) w L[j].2 P[j].2
def OwnM (B:Nat) (w:World) (v:Value) (L:List AT):Prop:=∃ P,RowP B w v P∧SaysM w P L
theorem strB_at {w:World} {b:Nat} {cs:Array Value} (h:w.heap[b]?=some (.cells cs 9 (0,0))):StrB w b:=⟨cs,_,h⟩
theorem StrB.lt {w:World} {b:Nat} (h:StrB w b):b<w.heap.size:=by
 obtain ⟨_,_,h⟩:=h;exact (Array.getElem?_eq_some_iff.1 h).1
theorem saysM_to {w w':World} {P:List PT} {L:List AT} (h:SaysM w P L) (hk:∀ b,StrB w b→w'.heap[b]?=w.heap[b]?):SaysM w' P L:=
 ⟨h.1,fun j h1 h2=>⟨(h.2 j h1 h2).1,(h.2 j h1 h2).2.imp (fun b hb=>by obtain ⟨cs,fr,e⟩:=hb;exact ⟨cs,fr,(hk b ⟨cs,fr,e⟩).trans e⟩) (fun b o hb=>by simp only[World.cell?,hk b hb])⟩⟩
theorem saysM_below {w w':World} {P:List PT} {L:List AT} (h:SaysM w P L) (hb:Below w.heap.size w w'):SaysM w' P L:=saysM_to h fun b hs=>hb.block b hs.lt
theorem ownM_below {B:Nat} {w w':World} {v:Value} {L:List AT} (h:OwnM B w v L) (hb:Below w.heap.size w w'):OwnM B w' v L:=by
 obtain ⟨P,h1,h2⟩:=h;exact ⟨P,rowP_below h1 hb,saysM_below h2 hb⟩
theorem ownM_empty {B b:Nat} {w:World} (hb:w.heap[b]?=some (.cells #[] 60 (0,0))) (hB:B≤b):OwnM B w (.slice (some ⟨b,0,none⟩) 0 0) []:=
 ⟨[],⟨rfl,.inr ⟨b,0,#[],rfl,hB,hb,Nat.le_refl _,Nat.zero_le _,rfl,rfl⟩⟩,rfl,fun j h=>absurd h (by simp)⟩
theorem row_keep {B:Nat} {w w':World} {v:Value} {P:List PT} (hr:RowP B w v P) (hg:w.grownBy w' v.ownBlock) {b:Nat} {cs:Array Value} {e:TypeId} {fr:Nat×Nat} (hb:w.heap[b]?=some (.cells cs e fr)) (hne:e≠60):w'.heap[b]?=w.heap[b]?:=by
 refine hg.block b (Array.getElem?_eq_some_iff.1 hb).1 fun he=>hne ?_
 rcases hr.2 with ⟨rfl,_⟩ | ⟨g,cap,cur,rfl,_,hc,_⟩
 ·cases he
 ·have:b=g:=by simpa [Value.ownBlock] using he
  subst this;rw[hb] at hc
  cases hc
  rfl
theorem saysM_grown {B:Nat} {w w':World} {v:Value} {P P':List PT} {L:List AT} (hr:RowP B w v P') (hg:w.grownBy w' v.ownBlock) (h:SaysM w P L):SaysM w' P L:=
 saysM_to h fun b hs=>by obtain ⟨cs,fr,e⟩:=hs;exact row_keep hr hg e (by decide)
theorem saysM_app {w:World} {P PM:List PT} {L M:List AT} (h:SaysM w P L) (hm:SaysM w PM M):SaysM w (P++PM) (L++M):=by
 refine ⟨by simp[h.1,hm.1],fun j h1 h2=>?_⟩
 by_cases hj:j<L.length
 ·have hj':j<P.length:=by rw[h.1];exact hj
  rw[List.getElem_append_left hj',List.getElem_append_left hj];exact h.2 j hj hj'
 ·have e:=h.1;have hm1:j - L.length<M.length:=by simp at h1;omega
  have hm2:j - L.length<PM.length:=by rw[hm.1];exact hm1
  have g1:(P++PM)[j]=PM[j - L.length]:=by
   rw[List.getElem_append_right (by omega)];simp only[e]
  have g2:(L++M)[j]=M[j - L.length]:=List.getElem_append_right (by omega);rw[g1,g2];exact hm.2 _ hm1 hm2
theorem one_isTo {ok:Nat→Prop} {w:World} {L:List (List UInt8)} {v:Value} (h:IsTo ok w L v):v.oneCell'=true:=by
 obtain ⟨_,_,rfl,_⟩:=h;rfl
theorem run_append_M {B:Nat} {w:World} {v:Value} {L:List AT} (hown:OwnM B w v L) (hB:B≤w.heap.size) {PM:List PT} {M:List AT} (hs:SaysM w PM M) (ad:Addr) (c:Nat)
  (hc:∀ j u,(cellsP PM)[j]?=some u→w.cell? (ad.add j)=some u) (hlen:L.length+M.length≤1000) (ty:TypeId) :
  ∃ v' w',(Builtin.append_ #[25,25] ty #[v,.slice (some ad) M.length c]).run Tryz.prog w=.ok v' w'∧OwnM B w' v' (L++M)∧Below B w w'∧∃ P,RowP B w v P∧w.grownBy w' v.ownBlock:=by
 obtain ⟨i0,hi,hz0,hz1,hz2⟩:=info_parts infoA;obtain ⟨P,hr,hsay⟩:=hown;have e1:=hsay.1;have e2:=hs.1;have h1:∀ u∈cellsP PM,u.oneCell'=true:=by
  intro u hu;have:∀ (l:List PT),(∀ j (h:j<l.length),l[j].2.oneCell'=true)→∀ u∈cellsP l,u.oneCell'=true:=by
   intro l
   induction l with
   | nil=>intro _ u hu;simp[cellsP] at hu
   | cons r l ih=>
    intro h u hu;simp only[cellsP,List.mem_cons] at hu;rcases hu with rfl | rfl | hu
    ·rfl
    ·exact h 0 (by simp)
    ·exact ih (fun j hj=>h (j+1) (by simpa using hj)) u hu
  exact this PM (fun j hj=>one_isTo (hs.2 j (by omega) hj).2) u hu
 obtain ⟨v',w',hrun,hown',hgrow,_,hat⟩:=run_append_own_at (P:=Tryz.prog) w B 25 ty 60 i0 (.agg #[.string ⟨#[]⟩,.slice none 0 0]) 2 40 Tryz.underlying25 hi hz0 hz1 hz2 rfl (by decide) v P.length (cellsP P) hr ad PM.length c (cellsP PM) (cellsP_length PM) hc h1 (by unfold maxLen;omega) (by omega) hB;rw[e2] at hrun;refine ⟨v',w',hrun,⟨P++PM,?_,saysM_app (saysM_grown hr hgrow hsay) (saysM_grown hr hgrow hs)⟩,(Below.refl B w).grown hgrow hB (fun k e=>(World.ownsRow.lt hr k e).1),P,hr,hgrow⟩;unfold RowP;rw[List.length_append,cellsP_append];exact hown'
theorem exec_append {P:Program} {o:Oper} {a:Act} {w w':World} {s x:Operand} {t:TypeId} {v u v':Value} (ho:o.op=.call { callee:=.builtin .append,args:=#[s,x],argTypes:=#[t,t] }) (hs:a.eval s=v) (hx:a.eval x=u)
  (hr:(Builtin.append_ #[t,t] o.type #[v,u]).run P w=.ok v' w'):(execOp a.eval o).run P w=.ok (.value v') w':=by
 unfold execOp;simp only[ho,resolve,invoke,builtin,Sem.run_bind,Sem.run_pure,Result.andThen_ok,List.map_toArray,List.map_cons,List.map_nil,hs,hx,hr]
theorem wpOp_skip {P:Program} {ops:Array Oper} {Q:Exit→Act→World→Prop} {i:Nat} {o:Oper} {a:Act} {w w':World} {K:Act→World→Prop} (ho:ops[i]?=some o) (hg:o.guard=none) (hr:(execOp a.eval o).run P w=.ok .skip w') (hk:K (a.put o.dst undef) w'):wpOp P ops Q i K a w:=by
 unfold wpOp;rw[ho]
 show if Region.wanted o (yielded ops a.tmps)=true then _ else _
 rw[if_pos (by unfold Region.wanted;rw[hg])];refine .inl ?_;unfold Oper.wp;rw[hr];exact hk
theorem row_part {w:World} {b:Nat} {P:List PT} (h:∀ j u,(cellsP P)[j]?=some u→w.cell? ⟨b,j,none⟩=some u) (A B C:List PT) (e:P=A++B++C):∀ j u,(cellsP B)[j]?=some u→w.cell? ((⟨b,A.length * 2,none⟩:Addr).add j)=some u:=by
 intro j u hu;have hadd:(⟨b,A.length * 2,none⟩:Addr).add j=⟨b,A.length * 2+j,none⟩:=by simp[Addr.add]
 rw[hadd];refine h _ _ ?_;rw[e,cellsP_append,cellsP_append,List.append_assoc,List.getElem?_append_right (by rw[cellsP_length];omega),cellsP_length,show A.length * 2+j - A.length * 2=j from by omega];have hlt:j<(cellsP B).length:=by
  rcases Nat.lt_or_ge j (cellsP B).length with h | h
  ·exact h
  ·rw[List.getElem?_eq_none h] at hu;cases hu
 rw[List.getElem?_append_left hlt,hu]
theorem saysM_part {w:World} {A B C:List PT} {L M N:List AT} (h:SaysM w (A++B++C) (L++M++N)) (h1:A.length=L.length) (h2:B.length=M.length):SaysM w B M:=by
 refine ⟨h2,fun j hj hj'=>?_⟩;have:=h.2 (L.length+j) (by simp;omega) (by simp;omega);have g1:(A++B++C)[L.length+j]'(by simp;omega)=B[j]:=by
  rw[List.getElem_append_left (by simp;omega),List.getElem_append_right (by omega)]
  congr 1
  omega
 have g2:(L++M++N)[L.length+j]'(by simp;omega)=M[j]:=by
  rw[List.getElem_append_left (by simp;omega),List.getElem_append_right (by omega)]
  congr 1
  omega
 rw[g1,g2] at this;exact this
theorem saysM_one {w:World} {b:Nat} {X Y:ByteArray} (h:w.heap[b]?=some (.cells #[.string Y] 9 (0,0))):SaysM w [(X.data.toList,.slice (some ⟨b,0,none⟩) 1 1)] [(X.data.toList,[Y.data.toList])]:=
 ⟨rfl,fun j hj hj'=>by
  have:j=0:=by simp at hj;omega
  subst this;refine ⟨rfl,_,_,rfl,by unfold maxLen;simp,fun k hk=>?_⟩;have:k=0:=by simp at hk;omega
  subst this;refine ⟨b,0,rfl,strB_at h,?_⟩;rw[show ([(X.data.toList,[Y.data.toList])]:List AT)[0].2[0]=Y.data.toList from rfl,strV_whole];simp only[World.cell?,h]
  rfl⟩
theorem cells_one {w:World} {c:Nat} {X:ByteArray} {u:Value} (h:w.heap[c]?=some (.cells #[.string X,u] 60 (0,0))):∀ j x,(cellsP [(X.data.toList,u)])[j]?=some x→w.cell? ((⟨c,0,none⟩:Addr).add j)=some x:=by
 intro j x hx;have hadd:(⟨c,0,none⟩:Addr).add j=⟨c,j,none⟩:=by simp[Addr.add];omega
 rw[hadd];simp only[World.cell?,h];have e:cellsP [(X.data.toList,u)]=[.string X,u]:=by
  show [strV X.data.toList,u]=_
  rw[strV_whole]
 rw[e] at hx;simpa using hx
def perRow (g:Nat):List PT:=[([99,110],.slice (some ⟨g - 3,0,none⟩) 1 1),([111,98,106,101,99,116,99,108,97,115,115],.slice (some ⟨g - 2,0,none⟩) 1 1),([115,110],.slice (some ⟨g - 1,0,none⟩) 1 1)]
theorem isTo_one {w:World} {b:Nat} {X:ByteArray} (h:w.heap[b]?=some (.cells #[.string X] 9 (0,0))):IsTo (StrB w) w [X.data.toList] (.slice (some ⟨b,0,none⟩) 1 1):=
 (saysM_one (X:=X) h).2 0 (by simp) (by simp) |>.2
theorem per_says {w:World} {g:Nat} {N:ByteArray} (h:PerAt w g N):SaysM w (perRow g) (perL N.data.toList):=
 ⟨rfl,fun j hj hj'=>by
  match j,hj with
  | 0,_=>exact ⟨rfl,isTo_one h.b1⟩
  | 1,_=>exact ⟨rfl,isTo_one h.b2⟩
  | 2,_=>exact ⟨rfl,isTo_one h.b3⟩⟩
theorem list_cells {w:World} {b:Nat} {P:List PT} (h:w.heap[b]?=some (.cells (cellsP P).toArray 60 (0,0))):∀ j u,(cellsP P)[j]?=some u→w.cell? ⟨b,j,none⟩=some u:=by
 intro j u hu;simp only[World.cell?,h];simpa using hu
theorem ownM_isA {B:Nat} {w:World} {v:Value} {L:List AT} (h:OwnM B w v L) (hl:L.length≤maxLen):IsA w.heap.size w L v:=by
 obtain ⟨P,h1,h2⟩:=h
 by_cases hne:P=[]
 ·subst hne;obtain ⟨a,c,hv⟩:=rowP_slice h1;have:L=[]:=List.eq_nil_of_length_eq_zero (by have:=h2.1;simpa using this.symm);subst this;exact ⟨a,c,hv,hl,fun j hj=>absurd hj (by simp)⟩
 ·obtain ⟨g,c,hv,_,hg,hc⟩:=rowP_at h1 hne;refine ⟨_,c,by rw[hv,h2.1],hl,fun j hj=>?_⟩;have hj':j<P.length:=by rw[h2.1];exact hj
  obtain ⟨e1,e2⟩:=h2.2 j hj hj';refine ⟨g,0,P[j].2,rfl,hg,?_,?_,e2.to (fun b hb=>hb.lt)⟩
  ·rw[Nat.zero_add,← e1];exact (hc j hj').1
  ·rw[Nat.zero_add];exact (hc j hj').2
structure MAt (n1:Nat) (W0:World) (D:ByteArray) (L:List AT) (wx:World) (b:Nat) (u:Value):Prop where
 lo:n1≤b
 box:BoxN wx b D u
 own:OwnM n1 wx u L
 below:Below n1 W0 wx
theorem mAt_store {n1 b:Nat} {W0 W:World} {D:ByteArray} {L:List AT} {s:Value} (hb:Below n1 W0 W) (hc:W.heap[b]?=some (.cells #[.string ⟨#[]⟩,.slice none 0 0] 27 (0,0))) (hn:n1≤b) (hown:OwnM n1 W s L) :
  MAt n1 W0 D L ((W.setCell ⟨b,0,none⟩ (.string D)).setCell ⟨b,1,none⟩ s) b s:=by
 have hbl:=(Array.getElem?_eq_some_iff.1 hc).1;have hother:∀ k,k≠b→((W.setCell ⟨b,0,none⟩ (.string D)).setCell ⟨b,1,none⟩ s).heap[k]?=W.heap[k]?:=fun k hk=>by
  rw[block_ne _ ⟨b,1,none⟩ _ hk,block_ne _ ⟨b,0,none⟩ _ hk]
 obtain ⟨P,hr,hs⟩:=hown;refine ⟨hn,?_,⟨P,?_,?_⟩,?_⟩
 ·unfold BoxN;simp[World.setCell,Array.getElem?_modify,hc]
 ·have hg:W.grownBy ((W.setCell ⟨b,0,none⟩ (.string D)).setCell ⟨b,1,none⟩ s) (some b):=⟨rfl,rfl,rfl,by simp[World.setCell],fun k hk hne=>hother k (fun e=>hne (by rw[e]))⟩;refine World.ownsRow.kept hr hg ?_;right;intro he;rcases hr.2 with ⟨rfl,_⟩ | ⟨g,cap,cur,rfl,_,hgc,_⟩
  ·cases he
  ·have:g=b:=by simpa [Value.ownBlock] using he
   subst this;rw[hgc] at hc
   cases hc
 ·refine saysM_to hs fun k hk=>hother k fun e=>?_
  obtain ⟨cs,fr,hk⟩:=hk;rw[e,hc] at hk
  cases hk
 ·exact (hb.setCell hn _).setCell hn _
theorem entry_new {W:World} {b:Nat} (h:W.heap[b]?=some (.cells #[.string ⟨#[]⟩,.slice none 0 0] 27 (0,0))) (x:Value):W.cell? ⟨b,0,none⟩=some (.string ⟨#[]⟩)∧W.frozen? ⟨b,0,none⟩=false∧(W.setCell ⟨b,0,none⟩ x).cell? ⟨b,1,none⟩=some (.slice none 0 0)∧(W.setCell ⟨b,0,none⟩ x).frozen? ⟨b,1,none⟩=false:=by
 refine ⟨?_,?_,?_,?_⟩ <;> simp[World.cell?,World.frozen?,World.setCell,Array.getElem?_modify,h]
theorem boxN_set {W:World} {g i b:Nat} {x u:Value} {D:ByteArray} {cs:Array Value} {fr:Nat×Nat} (h:BoxN W b D u) (hg:W.heap[g]?=some (.cells cs 60 fr)):BoxN (W.setCell ⟨g,i,none⟩ x) b D u:=by
 refine (block_ne W ⟨g,i,none⟩ x fun e=>?_).trans h;unfold BoxN at h;rw[show b=g from e,hg] at h
 cases h
def NC6:Array Value:=#[.string ⟨#[109,97,105,108]⟩,.string ⟨#[117,105,100]⟩,.string ⟨#[111,117]⟩,.string ⟨#[109,101,109,98,101,114]⟩,.string ⟨#[117,105,100,110,117,109,98,101,114]⟩,.string ⟨#[111]⟩]
def NC2:Array Value:=#[.string ⟨#[100,101,115,99,114,105,112,116,105,111,110]⟩,.string ⟨#[117,115,101,114,112,97,115,115,119,111,114,100]⟩]
def nmB (l:Array Value) (q:Nat):ByteArray:=match l.getD q undef with
 | .string x=>x
 | _=>⟨#[]⟩
def FLess (n1 h0 b6 k:Nat) (D:ByteArray) (L1 L2:List AT) (p q:Bool) (i:Nat) (v:Value) (w:World):Prop:=match i with
 | 0=>v=.pointer (some ⟨h0,0,none⟩)
 | 1=>v=.string D
 | 2=>p=true∨∃ b,v=.slice (some ⟨b,0,none⟩) 0 0∧n1≤b∧w.heap[b]?=some (.cells #[] 60 (0,0))
 | 3=>v=.slice (some ⟨b6,0,none⟩) 3 3
 | 4=>v=.int .i64 (k:Int)
 | 5=>v=.slice (some ⟨b6,0,none⟩) k 3
 | 6=>q=true∨OwnM n1 w v L1
 | 7=>v=.slice (some ⟨b6,0,none⟩) 3 3
 | 8=>v=.int .i64 (k:Int)
 | 9=>v=.int .i64 ((k:Int)+1)
 | 10=>v=.slice (some (if k=2 then ⟨b6,0,none⟩ else ⟨b6,(k+1) * 2,none⟩)) (2 - k) (2 - k)
 | 11=>q=true∧OwnM n1 w v L2
 | 12=>q=true∧∃ s,v=.agg #[.string D,s]∧OwnM n1 w s L2
 | 13=>∃ b,v=.pointer (some ⟨b,0,none⟩)∧n1≤b∧w.heap[b]?=some (.cells #[.string ⟨#[]⟩,.slice none 0 0] 27 (0,0))
 | _=>True
theorem FLess.go {n1 h0 b6 k:Nat} {D:ByteArray} {L1 L2:List AT} {p q:Bool} {i:Nat} {v:Value} {w w':World} (h:FLess n1 h0 b6 k D L1 L2 p q i v w) (hb:Below w.heap.size w w'):FLess n1 h0 b6 k D L1 L2 p q i v w':=by
 have hk:∀ {b:Nat} {o:Obj},w.heap[b]?=some o→w'.heap[b]?=some o:=fun e=>(hb.block _ (Array.getElem?_eq_some_iff.1 e).1).trans e
 match i,h with
 | 0,h=>exact h
 | 1,h=>exact h
 | 2,h=>exact h.imp id fun ⟨b,e,hn,hc⟩=>⟨b,e,hn,hk hc⟩
 | 3,h=>exact h
 | 4,h=>exact h
 | 5,h=>exact h
 | 6,h=>exact h.imp id fun x=>ownM_below x hb
 | 7,h=>exact h
 | 8,h=>exact h
 | 9,h=>exact h
 | 10,h=>exact h
 | 11,h=>exact ⟨h.1,ownM_below h.2 hb⟩
 | 12,h=>obtain ⟨hq,s,e,x⟩:=h;exact ⟨hq,s,e,ownM_below x hb⟩
 | 13,h=>obtain ⟨b,e,hn,hc⟩:=h;exact ⟨b,e,hn,hk hc⟩
 | _+14,h=>exact trivial
theorem FLess.loud {n1 h0 b6 k:Nat} {D:ByteArray} {L1 L2:List AT} {p q q':Bool} {i:Nat} {v:Value} {w w':World} (h:FLess n1 h0 b6 k D L1 L2 p q i v w) (hp:q=false) (hi:i≠6∨q'=true)
  (hk:∀ (b:Nat) (cs:Array Value) (e:TypeId),w.heap[b]?=some (.cells cs e (0,0))→e≠60→w'.heap[b]?=w.heap[b]?):FLess n1 h0 b6 k D L1 L2 true q' i v w':=by
 subst hp
 match i,h,hi with
 | 0,h,_=>exact h
 | 1,h,_=>exact h
 | 2,h,_=>exact .inl rfl
 | 3,h,_=>exact h
 | 4,h,_=>exact h
 | 5,h,_=>exact h
 | 6,h,hi=>exact .inl (hi.resolve_left (fun x=>x rfl))
 | 7,h,_=>exact h
 | 8,h,_=>exact h
 | 9,h,_=>exact h
 | 10,h,_=>exact h
 | 11,h,_=>cases h.1
 | 12,h,_=>cases h.1
 | 13,h,_=>obtain ⟨b,e,hn,hc⟩:=h;exact ⟨b,e,hn,(hk _ _ _ hc (by decide)).trans hc⟩
 | _+14,h,_=>exact trivial
def FMore (n1 h0 b6 wh q6:Nat) (D:ByteArray) (NC:Array Value) (NA VT:ByteArray) (L1 L2:List AT) (p q:Bool) (i:Nat) (v:Value) (w:World):Prop:=match i with
 | 0=>v=.pointer (some ⟨h0,0,none⟩)
 | 1=>v=.string D
 | 2=>p=true∨∃ b,v=.slice (some ⟨b,0,none⟩) 0 0∧n1≤b∧w.heap[b]?=some (.cells #[] 60 (0,0))
 | 3=>v=.slice (some ⟨b6,0,none⟩) 3 3
 | 4=>q=true∨OwnM n1 w v L1
 | 5=>∃ b,v=.slice (some ⟨b,0,none⟩) NC.size NC.size∧w.heap[b]?=some (.cells NC 9 (0,0))
 | 6=>v=.int .u8 (wh:Int)
 | 7=>v=.int .u8 (q6:Int)
 | 8=>∃ b,v=.pointer (some ⟨b,q6,none⟩)∧w.heap[b]?=some (.cells NC 9 (0,0))
 | 9=>v=.string NA
 | 10=>∃ b,v=.slice (some ⟨b,0,none⟩) 1 1∧w.heap[b]?=some (.cells #[.string VT] 9 (0,0))
 | 11=>∃ b,v=.agg #[.string NA,.slice (some ⟨b,0,none⟩) 1 1]∧w.heap[b]?=some (.cells #[.string VT] 9 (0,0))
 | 12=>q=true∨∃ c b,v=.slice (some ⟨c,0,none⟩) 1 1∧w.heap[c]?=some (.cells #[.string NA,.slice (some ⟨b,0,none⟩) 1 1] 60 (0,0))∧w.heap[b]?=some (.cells #[.string VT] 9 (0,0))
 | 13=>q=true∧OwnM n1 w v L2
 | 14=>q=true∧∃ s,v=.agg #[.string D,s]∧OwnM n1 w s L2
 | 15=>∃ b,v=.pointer (some ⟨b,0,none⟩)∧n1≤b∧w.heap[b]?=some (.cells #[.string ⟨#[]⟩,.slice none 0 0] 27 (0,0))
 | _=>True
theorem FMore.go {n1 h0 b6 wh q6:Nat} {D:ByteArray} {NC:Array Value} {NA VT:ByteArray} {L1 L2:List AT} {p q:Bool} {i:Nat} {v:Value} {w w':World} (h:FMore n1 h0 b6 wh q6 D NC NA VT L1 L2 p q i v w) (hb:Below w.heap.size w w'):FMore n1 h0 b6 wh q6 D NC NA VT L1 L2 p q i v w':=by
 have hk:∀ {b:Nat} {o:Obj},w.heap[b]?=some o→w'.heap[b]?=some o:=fun e=>(hb.block _ (Array.getElem?_eq_some_iff.1 e).1).trans e
 match i,h with
 | 0,h=>exact h
 | 1,h=>exact h
 | 2,h=>exact h.imp id fun ⟨b,e,hn,hc⟩=>⟨b,e,hn,hk hc⟩
 | 3,h=>exact h
 | 4,h=>exact h.imp id fun x=>ownM_below x hb
 | 5,h=>obtain ⟨b,e,hc⟩:=h;exact ⟨b,e,hk hc⟩
 | 6,h=>exact h
 | 7,h=>exact h
 | 8,h=>obtain ⟨b,e,hc⟩:=h;exact ⟨b,e,hk hc⟩
 | 9,h=>exact h
 | 10,h=>obtain ⟨b,e,hc⟩:=h;exact ⟨b,e,hk hc⟩
 | 11,h=>obtain ⟨b,e,hc⟩:=h;exact ⟨b,e,hk hc⟩
 | 12,h=>exact h.imp id fun ⟨c,b,e,h1,h2⟩=>⟨c,b,e,hk h1,hk h2⟩
 | 13,h=>exact ⟨h.1,ownM_below h.2 hb⟩
 | 14,h=>obtain ⟨hq,s,e,x⟩:=h;exact ⟨hq,s,e,ownM_below x hb⟩
 | 15,h=>obtain ⟨b,e,hn,hc⟩:=h;exact ⟨b,e,hn,hk hc⟩
 | _+16,h=>exact trivial
end Go.Proofs.YtgaaefcanfglhaaGreatDoor
namespace Go.Proofs.YtgaaefcanfglhaaGreatDoor
open Go.RowKit
set_option linter.unusedVariables false
section
variable {P:Program} {ops:Array Oper} {Q:Exit→Act→World→Prop}
theorem region_J {id:Nat} {a0:Act} {w0:World} (hm:P.follows .mixedOrders=true) (n0 l1 l2:Nat) (F:Bool→Bool→Nat→Value→World→Prop) (J:Bool→Bool→World→Prop)
  (hJ:∀ p q w w',n0≤w.heap.size→J p q w→Below w.heap.size w w'→J p q w') (hJ0:J false false w0)
  (hF:∀ p q i v w w',n0≤w.heap.size→F p q i v w→Below w.heap.size w w'→F p q i v w') (hn:n0≤w0.heap.size)
  (hok:regOk ops a0.tmps.size=true) (h12:depOn ops l2 l1=true) (h2:decide (l1<l2∧l2+1<ops.size)=true) {l:Oper} (hl:ops[ops.size - 1]?=some l)
  (hstep:∀ listed a w p q,n0≤w.heap.size→J p q w→Kept ops (F p q) (Below n0) a0 w0 listed a w→∀ (i:Nat) (o:Oper),ops[i]?=some o→i+1<ops.size→i≠l1→i≠l2→Came listed o →
   wpOp P ops Q i (fun a' w'=>∃ d v,o.dst=some d∧a'=a.put (some d) v∧Below w.heap.size w w'∧F p q i v w') a w)
  (hloud1:∀ listed a w,n0≤w.heap.size→J false false w→Kept ops (F false false) (Below n0) a0 w0 listed a w→∀ o,ops[l1]?=some o→Came listed o →
   wpOp P ops Q l1 (fun a' w'=>∃ d v,o.dst=some d∧a'=a.put (some d) v∧Below n0 w w'∧F true false l1 v w'∧J true false w'∧∀ j u,j≠l1→F false false j u w→F true false j u w') a w)
  (hloud2:∀ listed a w,n0≤w.heap.size→J true false w→Kept ops (F true false) (Below n0) a0 w0 listed a w→∀ o,ops[l2]?=some o→Came listed o →
   wpOp P ops Q l2 (fun a' w'=>∃ d v,o.dst=some d∧a'=a.put (some d) v∧Below n0 w w'∧F true true l2 v w'∧J true true w'∧∀ j u,j≠l2→F true false j u w→F true true j u w') a w)
  (hlast:∀ listed a w,n0≤w.heap.size→J true true w→Kept ops (F true true) (Below n0) a0 w0 listed a w→(∀ i,i+1<ops.size→listed.getD i false=true)→wpOp P ops Q (ops.size - 1) (fun a' w'=>Q .normal a' w') a w) :
  (Code.region id ops true).wp P Q a0 w0:=by
 have hne:0<ops.size:=by
  have:=(Array.getElem?_eq_some_iff.1 hl).1;omega
 obtain ⟨hlt12,h2⟩:=of_decide_eq_true h2;have hb:=fun (i:Nat) (o:Oper) (ho:ops[i]?=some o)=>(regOk_at hok ho).1
 have hd:=fun (i j:Nat) (o o':Oper) (d:Tmp) (ho:ops[i]?=some o) (ho':ops[j]?=some o') (hd:o.dst=some d) (hd':o'.dst=some d)=>((regOk_at hok ho).2.1 d hd).2 j o' ho' hd'
 have hin:=fun (i:Nat) (o:Oper) (d:Tmp) (ho:ops[i]?=some o) (hd:o.dst=some d)=>((regOk_at hok ho).2.1 d hd).1
 have hw:=fun i (hi:i+1<ops.size)=>(regOk_at hok (Array.getElem?_eq_getElem (show i<ops.size by omega))).2.2 hi
 have hno:∀ i,(Array.replicate ops.size false).getD i false=false:=fun i=>by
  rcases Nat.lt_or_ge i ops.size with h | h <;> simp[h]
 refine region_inv hm (fun listed a w=>(Kept ops (F (listed.getD l1 false) (listed.getD l2 false)) (Below n0) a0 w0 listed a w∧J (listed.getD l1 false) (listed.getD l2 false) w∧listed.getD (ops.size - 1) false=false)∨(listed.size=ops.size∧(∀ i,i<ops.size→listed.getD i false=true)∧Q .normal a w)) ?_ hb ?_ ?_ ?_
 ·exact .inl ⟨⟨by simp,fun i o _ h=>(by rw[hno] at h;cases h),rfl,rfl,(Below.refl n0 w0).drew,fun _ _=>rfl,fun i o d _ _ h=>(by rw[hno] at h;cases h)⟩,by rw[hno,hno];exact hJ _ _ _ _ hn hJ0 (Below.refl _ _).drew,hno _⟩
 ·rintro listed a w (⟨h,_⟩ | ⟨h,_⟩)
  ·exact h.size
  ·exact h
 ·rintro listed a w (⟨hk,hjw,hnl⟩ | ⟨hs,ha,_⟩) i o ho hi hc
  ·have hio:i<ops.size:=(Array.getElem?_eq_some_iff.1 ho).1;have hsz:n0≤w.heap.size:=Nat.le_trans hn hk.grown.size;have hpi:listed.getD i false=false:=by
    have hi':i<listed.size:=by rw[hk.size];exact hio
    simpa [hi'] using hi
   have hsl:(listed.setIfInBounds i true).getD i false=true:=getD_set_self (by rw[hk.size];exact hio)
   by_cases hlst:i=ops.size - 1
   ·subst hlst;rw[ho] at hl;cases hl;have hall:=fun j=>rest_came hk.shut hw ho hc ops.size j (by omega)
    rw[hall l2 h2,hall l1 (by omega)] at hk hjw;refine wpOp_mono (fun a' w' hq=>.inr ⟨by simp[hk.size],fun j hj=>?_,hq⟩) (hlast listed a w hsz hjw hk hall)
    by_cases hjl:j=ops.size - 1
    ·subst hjl;exact hsl
    ·exact getD_set_true (hall j (by omega))
   ·by_cases hi1:i=l1
    ·subst hi1;have hp2:listed.getD l2 false=false:=by
      cases e:listed.getD l2 false with
      | false=>rfl
      | true=>
       exfalso;unfold depOn at h12
       cases eo:ops[l2]? with
       | none=>rw[eo] at h12;cases h12
       | some o2=>
        rw[eo] at h12;obtain ⟨x,hx,hxe⟩:=Array.any_eq_true'.1 h12;simp only[Bool.and_eq_true,decide_eq_true_eq] at hxe;have:=hk.shut l2 o2 eo e x hx hxe.1;rw[hxe.2,hpi] at this
        cases this
     rw[hpi,hp2] at hk hjw;refine wpOp_mono (fun a' w' hq=>?_) (hloud1 listed a w hsz hjw hk o ho hc);obtain ⟨d,v,hod,rfl,hg,hv,hj2,hj⟩:=hq;refine .inl ⟨?_,by rw[hsl,getD_set_ne false (show i≠l2 by omega),hp2];exact hj2,by rw[getD_set_ne false hlst];exact hnl⟩;rw[hsl,getD_set_ne false (show i≠l2 by omega),hp2];exact hk.more2 hj (hk.grown.trans hg) hd hin ho hod hc hv
    ·by_cases hi2:i=l2
     ·subst hi2;have hp1:listed.getD l1 false=true:=by
       unfold depOn at h12;rw[ho] at h12;obtain ⟨x,hx,hxe⟩:=Array.any_eq_true'.1 h12;simp only[Bool.and_eq_true,decide_eq_true_eq] at hxe;have:=hc x hx hxe.1
       rwa [hxe.2] at this
      rw[hp1,hpi] at hk hjw;refine wpOp_mono (fun a' w' hq=>?_) (hloud2 listed a w hsz hjw hk o ho hc);obtain ⟨d,v,hod,rfl,hg,hv,hj2,hj⟩:=hq;refine .inl ⟨?_,by rw[hsl,getD_set_ne false (show i≠l1 by omega),hp1];exact hj2,by rw[getD_set_ne false hlst];exact hnl⟩;rw[hsl,getD_set_ne false (show i≠l1 by omega),hp1];exact hk.more2 hj (hk.grown.trans hg) hd hin ho hod hc hv
     ·refine wpOp_mono (fun a' w' hq=>?_) (hstep listed a w _ _ hsz hjw hk i o ho (by omega) hi1 hi2 hc);obtain ⟨d,v,hod,rfl,hg,hv⟩:=hq;refine .inl ⟨?_,by rw[getD_set_ne false hi1,getD_set_ne false hi2];exact hJ _ _ _ _ hsz hjw hg,by rw[getD_set_ne false hlst];exact hnl⟩;rw[getD_set_ne false hi1,getD_set_ne false hi2];exact hk.more2 (fun j u _ h=>hF _ _ _ _ _ _ hsz h hg) (hk.grown.trans (hg.mono hsz)) hd hin ho hod hc hv
  ·exfalso;have hio:i<ops.size:=(Array.getElem?_eq_some_iff.1 ho).1;have:=ha i hio;have hi':i<listed.size:=by omega
   simp[hi'] at this hi;rw[this] at hi;cases hi
 ·rintro listed a w (⟨hk,_,hnl⟩ | ⟨_,_,hq⟩) ha
  ·rw[ha _ (by omega)] at hnl;cases hnl
  ·exact hq
theorem wpOp_call {i:Nat} {o:Oper} {a:Act} {w:World} {f:FuncId} {args:Array Value} {K:Act→World→Prop} (ho:ops[i]?=some o) (hg:o.guard=none) (hr:(execOp a.eval o).run P w=.ok (.enter f args) w)
  (hc:Calls P f args w fun e w'=>∃ v,e=.returned v∧K (a.put o.dst v) w'):wpOp P ops Q i K a w:=by
 unfold wpOp;rw[ho]
 show if Region.wanted o (yielded ops a.tmps)=true then _ else _
 rw[if_pos (by unfold Region.wanted;rw[hg])];refine .inl ?_;unfold Oper.wp;rw[hr];exact Calls.mono hc (fun e w' h=>by obtain ⟨v,rfl,h⟩:=h;exact h)
end
end Go.Proofs.YtgaaefcanfglhaaGreatDoor
namespace Go.Proofs.YtgaaefcanfglhaaGreatDoor
open Go.RowKit
set_option linter.unusedVariables false
inductive Fk where
 | is (v:Value)
 | val (VB:Array Value) (g:Nat→Value)
 | att (M:List AT)
 | row (P:List PT) (L:List AT)
 | txt (L:List (List UInt8))
 | any
def FK (B:Nat) (T:List Fk) (q:Bool) (i:Nat) (v:Value) (w:World):Prop:=match T.getD i .any with
 | .is x=>v=x
 | .val VB g=>∃ b,v=g b∧w.heap[b]?=some (.cells VB 9 (0,0))
 | .att M=>q=true∨∃ c PM,v=.slice (some ⟨c,0,none⟩) M.length M.length∧w.heap[c]?=some (.cells (cellsP PM).toArray 60 (0,0))∧SaysM w PM M
 | .row P L=>q=true∧∃ PM,RowP B w v (P++PM)∧SaysM w (P++PM) L
 | .txt L=>IsTo (StrB w) w L v
 | .any=>True
theorem FK.go {B:Nat} {T:List Fk} {q:Bool} {i:Nat} {v:Value} {w w':World} (h:FK B T q i v w) (hb:Below w.heap.size w w'):FK B T q i v w':=by
 have hk:∀ {b:Nat} {o:Obj},w.heap[b]?=some o→w'.heap[b]?=some o:=fun e=>(hb.block _ (Array.getElem?_eq_some_iff.1 e).1).trans e
 unfold FK at h ⊢
 cases e:T.getD i .any with
 | is x=>rw[e] at h;exact h
 | val VB g=>rw[e] at h;obtain ⟨b,h1,h2⟩:=h;exact ⟨b,h1,hk h2⟩
 | att M=>rw[e] at h;exact h.imp id fun ⟨c,PM,h1,h2,h3⟩=>⟨c,PM,h1,hk h2,saysM_below h3 hb⟩
 | row P L=>rw[e] at h;obtain ⟨hq,PM,h1,h2⟩:=h;exact ⟨hq,PM,rowP_below h1 hb,saysM_below h2 hb⟩
 | txt L=>rw[e] at h;exact h.imp (fun b ⟨cs,fr,hc⟩=>⟨cs,fr,hk hc⟩) (fun b o hs=>hb.cell (p:=⟨b,o,none⟩) hs.lt)
 | any=>exact trivial
theorem FK.loud {B:Nat} {T:List Fk} {i:Nat} {v:Value} {w w':World} (h:FK B T false i v w) (hks:∀ (b:Nat) (cs:Array Value) (fr:Nat×Nat),w.heap[b]?=some (.cells cs 9 fr)→w'.heap[b]?=w.heap[b]?) (hk:∀ (b:Nat) (cs:Array Value) (e:TypeId),w.heap[b]?=some (.cells cs e (0,0))→e≠60→w'.heap[b]?=w.heap[b]?):FK B T true i v w':=by
 unfold FK at h ⊢
 cases e:T.getD i .any with
 | is x=>rw[e] at h;exact h
 | val VB g=>rw[e] at h;obtain ⟨b,h1,h2⟩:=h;exact ⟨b,h1,(hk _ _ _ h2 (by decide)).trans h2⟩
 | att M=>exact .inl rfl
 | row P L=>rw[e] at h;cases h.1
 | txt L=>
  rw[e] at h;have hs:∀ b,StrB w b→w'.heap[b]?=w.heap[b]?:=fun b ⟨cs,fr,hc⟩=>hks b cs fr hc
  exact h.imp (fun b hb=>by obtain ⟨cs,fr,hc⟩:=hb;exact ⟨cs,fr,(hs b ⟨cs,fr,hc⟩).trans hc⟩) (fun b o hb=>by simp only[World.cell?,hs b hb])
 | any=>exact trivial
def kOf (ns:List UInt8) (i:Nat):Nat:=(ns.getD i 0).toNat
structure MkAt (B:Nat) (W:World) (ge:Nat) (D:ByteArray) (u:Value) (P:List PT) (L:List AT) (kb:Nat) (KC:Array Value):Prop where
 box:BoxN W ge D u
 row:RowP B W u P
 says:SaysM W P L
 nums:W.heap[kb]?=some (.cells KC 3 (0,0))
 lo:B≤ge
theorem MkAt.own {B ge kb:Nat} {D:ByteArray} {u:Value} {P:List PT} {L:List AT} {KC:Array Value} {W:World} (h:MkAt B W ge D u P L kb KC):OwnM B W u L:=⟨P,h.row,h.says⟩
theorem MkAt.go {B ge kb:Nat} {D:ByteArray} {u:Value} {P:List PT} {L:List AT} {KC:Array Value} {W W':World} (h:MkAt B W ge D u P L kb KC) (hb:Below W.heap.size W W'):MkAt B W' ge D u P L kb KC:=
 ⟨h.box.below hb (Array.getElem?_eq_some_iff.1 h.box).1,rowP_below h.row hb,saysM_below h.says hb,(hb.block _ (Array.getElem?_eq_some_iff.1 h.nums).1).trans h.nums,h.lo⟩
def MkJ (B ge kb:Nat) (D:ByteArray) (u:Value) (P:List PT) (L:List AT) (KC:Array Value) (q:Bool) (W:World):Prop:=BoxN W ge D u∧W.heap[kb]?=some (.cells KC 3 (0,0))∧(q=false→RowP B W u P∧SaysM W P L)
theorem MkJ.go {B ge kb:Nat} {D:ByteArray} {u:Value} {P:List PT} {L:List AT} {KC:Array Value} {q:Bool} {W W':World} (h:MkJ B ge kb D u P L KC q W) (hb:Below W.heap.size W W'):MkJ B ge kb D u P L KC q W':=
 ⟨h.1.below hb (Array.getElem?_eq_some_iff.1 h.1).1,(hb.block _ (Array.getElem?_eq_some_iff.1 h.2.1).1).trans h.2.1,fun e=>⟨rowP_below (h.2.2 e).1 hb,saysM_below (h.2.2 e).2 hb⟩⟩
theorem MkJ.loud {B ge kb:Nat} {D:ByteArray} {u:Value} {P:List PT} {L:List AT} {KC:Array Value} {q:Bool} {W W':World} (h:MkJ B ge kb D u P L KC q W) (hk:∀ (b:Nat) (cs:Array Value) (e:TypeId),W.heap[b]?=some (.cells cs e (0,0))→e≠60→W'.heap[b]?=W.heap[b]?):MkJ B ge kb D u P L KC true W':=
 ⟨(hk _ _ _ h.1 (by decide)).trans h.1,(hk _ _ _ h.2.1 (by decide)).trans h.2.1,fun e=>by cases e⟩
theorem MkAt.j {B ge kb:Nat} {D:ByteArray} {u:Value} {P:List PT} {L:List AT} {KC:Array Value} {W:World} (h:MkAt B W ge D u P L kb KC):MkJ B ge kb D u P L KC false W:=⟨h.box,h.nums,fun _=>⟨h.row,h.says⟩⟩
theorem run_append_P {B:Nat} {w:World} {v:Value} {P:List PT} {L:List AT} (hr:RowP B w v P) (hsay:SaysM w P L) (hB:B≤w.heap.size) {PM:List PT} {M:List AT} (hs:SaysM w PM M) (ad:Addr) (c:Nat)
  (hc:∀ j u,(cellsP PM)[j]?=some u→w.cell? (ad.add j)=some u) (hlen:L.length+M.length≤1000) (ty:TypeId) :
  ∃ v' w',(Builtin.append_ #[25,25] ty #[v,.slice (some ad) M.length c]).run Tryz.prog w=.ok v' w'∧RowP B w' v' (P++PM)∧SaysM w' (P++PM) (L++M)∧Below B w w' ∧
   (∀ (k:Nat) (cs:Array Value) (fr:Nat×Nat),w.heap[k]?=some (.cells cs 9 fr)→w'.heap[k]?=w.heap[k]?)∧(∀ (k:Nat) (cs:Array Value) (e:TypeId),w.heap[k]?=some (.cells cs e (0,0))→e≠60→w'.heap[k]?=w.heap[k]?):=by
 obtain ⟨i0,hi,hz0,hz1,hz2⟩:=info_parts infoA;have e1:=hsay.1;have e2:=hs.1;have h1:∀ u∈cellsP PM,u.oneCell'=true:=by
  intro u hu;have:∀ (l:List PT),(∀ j (h:j<l.length),l[j].2.oneCell'=true)→∀ u∈cellsP l,u.oneCell'=true:=by
   intro l
   induction l with
   | nil=>intro _ u hu;simp[cellsP] at hu
   | cons r l ih=>
    intro h u hu;simp only[cellsP,List.mem_cons] at hu;rcases hu with rfl | rfl | hu
    ·rfl
    ·exact h 0 (by simp)
    ·exact ih (fun j hj=>h (j+1) (by simpa using hj)) u hu
  exact this PM (fun j hj=>one_isTo (hs.2 j (by omega) hj).2) u hu
 obtain ⟨v',w',hrun,hown',hgrow,_,hat⟩:=run_append_own_at (P:=Tryz.prog) w B 25 ty 60 i0 (.agg #[.string ⟨#[]⟩,.slice none 0 0]) 2 40 Tryz.underlying25 hi hz0 hz1 hz2 rfl (by decide) v P.length (cellsP P) hr ad PM.length c (cellsP PM) (cellsP_length PM) hc h1 (by unfold maxLen;omega) (by omega) hB;rw[e2] at hrun;refine ⟨v',w',hrun,?_,saysM_app (saysM_grown hr hgrow hsay) (saysM_grown hr hgrow hs),(Below.refl B w).grown hgrow hB (fun k e=>(World.ownsRow.lt hr k e).1),fun k cs fr hk=>row_keep hr hgrow hk (by decide),fun k cs e hk hne=>row_keep hr hgrow hk hne⟩;unfold RowP;rw[List.length_append,cellsP_append];exact hown'
theorem rowP_setE {B b i:Nat} {w:World} {v x:Value} {P:List PT} {L:List AT} {cs:Array Value} {fr:Nat×Nat} (hr:RowP B w v P) (hs:SaysM w P L) (hb:w.heap[b]?=some (.cells cs 27 fr)):RowP B (w.setCell ⟨b,i,none⟩ x) v P∧SaysM (w.setCell ⟨b,i,none⟩ x) P L:=by
 have hgr:w.grownBy (w.setCell ⟨b,i,none⟩ x) (some b):=⟨rfl,rfl,rfl,by simp[World.setCell],fun k hk hn=>block_ne w ⟨b,i,none⟩ x (fun e=>hn (by rw[e]))⟩;refine ⟨World.ownsRow.kept hr hgr (.inr fun he=>?_),saysM_to hs fun k hk=>block_ne w ⟨b,i,none⟩ x fun e=>?_⟩
 ·rcases hr.2 with ⟨rfl,_⟩ | ⟨g,cap,cur,rfl,_,hgc,_⟩
  ·cases he
  ·have:g=b:=by simpa [Value.ownBlock] using he
   subst this;rw[hgc] at hb
   cases hb
 ·obtain ⟨cs',fr',hk⟩:=hk;rw[show k=b from e,hb] at hk
  cases hk
theorem mkAt_store {B ge kb:Nat} {D:ByteArray} {u s:Value} {P P2:List PT} {L L2:List AT} {KC:Array Value} {W:World} {q:Bool} (h:MkJ B ge kb D u P L KC q W) (hr:RowP B W s P2) (hs:SaysM W P2 L2) (hlo:B≤ge):MkAt B (W.setCell ⟨ge,1,none⟩ s) ge D s P2 L2 kb KC∧W.cell? ⟨ge,1,none⟩=some u∧W.frozen? ⟨ge,1,none⟩=false:=by
 obtain ⟨hb,hk,_⟩:=h;have hne:kb≠ge:=fun e=>by
  unfold BoxN at hb;rw[e,hb] at hk
  cases hk
 refine ⟨⟨?_,(rowP_setE hr hs hb).1,(rowP_setE hr hs hb).2,(block_ne W ⟨ge,1,none⟩ s hne).trans hk,hlo⟩,hb.cells.2,?_⟩
 ·unfold BoxN at hb ⊢;simp[World.setCell,Array.getElem?_modify,hb]
 ·unfold BoxN at hb;simp[World.frozen?,hb]
theorem mkAt_name {B ge kb:Nat} {D D2:ByteArray} {u:Value} {P:List PT} {L:List AT} {KC:Array Value} {W:World} (h:MkAt B W ge D u P L kb KC):MkAt B (W.setCell ⟨ge,0,none⟩ (.string D2)) ge D2 u P L kb KC∧W.cell? ⟨ge,0,none⟩=some (.string D)∧W.frozen? ⟨ge,0,none⟩=false:=by
 obtain ⟨hb,hr,hs,hk,hlo⟩:=h;have hne:kb≠ge:=fun e=>by
  unfold BoxN at hb;rw[e,hb] at hk
  cases hk
 refine ⟨⟨?_,(rowP_setE hr hs hb).1,(rowP_setE hr hs hb).2,(block_ne W ⟨ge,0,none⟩ _ hne).trans hk,hlo⟩,hb.cells.1,?_⟩
 ·unfold BoxN at hb ⊢;simp[World.setCell,Array.getElem?_modify,hb]
 ·unfold BoxN at hb;simp[World.frozen?,hb]
theorem cellsP_set:∀ (P:List PT) (j:Nat) (h:j<P.length) (u:Value),(cellsP P).set (j * 2+1) u=cellsP (P.set j (P[j].1,u))
 | r :: l,0,_,u=>rfl
 | r :: l,j+1,h,u=>by
  rw[show (j+1) * 2+1=(j * 2+1)+2 from by omega]
  show strV r.1 :: r.2 :: (cellsP l).set (j * 2+1) u=strV r.1 :: r.2 :: cellsP (l.set j _)
  rw[cellsP_set l j (by simpa using h) u];rfl
theorem rowP_set {B g n cap:Nat} {w:World} {P:List PT} {L:List AT} {j:Nat} (hj:j<L.length) (hjP:j<P.length) {A':List (List UInt8)} {u:Value} (hr:RowP B w (.slice (some ⟨g,0,none⟩) n cap) P) (hs:SaysM w P L) (hu:IsTo (StrB w) w A' u) :
  RowP B (w.setCell ⟨g,j * 2+1,none⟩ u) (.slice (some ⟨g,0,none⟩) n cap) (P.set j (P[j].1,u))∧SaysM (w.setCell ⟨g,j * 2+1,none⟩ u) (P.set j (P[j].1,u)) (L.set j (L[j].1,A'))∧w.cell? ⟨g,j * 2+1,none⟩=some P[j].2∧w.frozen? ⟨g,j * 2+1,none⟩=false∧(∃ cs,w.heap[g]?=some (.cells cs 60 (0,0)))∧B≤g∧n=P.length:=by
 have hPl:=hs.1;unfold RowP at hr;have hg:∃ cs,w.heap[g]?=some (.cells cs 60 (0,0))∧B≤g∧n=P.length:=by
  rcases hr.2 with ⟨h',_⟩ | ⟨g',cap',cur,h',hb,hg,_⟩
  ·simp at h'
  ·simp only[Value.slice.injEq,Option.some.injEq,Addr.mk.injEq,and_true] at h';obtain ⟨rfl,rfl,_⟩:=h';exact ⟨cur,hg,hb,rfl⟩
 obtain ⟨cs,hg,hB,rfl⟩:=hg;have hst:=(World.ownsRow.stored hr (j * 2+1) u).1;have hcl:=World.ownsRow.cellAt hr (j * 2+1) (by omega);rw[cellsP_set P j hjP u] at hst;have hot:∀ k,StrB w k→(w.setCell ⟨g,j * 2+1,none⟩ u).heap[k]?=w.heap[k]?:=fun k hk=>block_ne w ⟨g,_,none⟩ u fun e=>by
  obtain ⟨cs',fr',hk⟩:=hk;rw[show k=g from e,hg] at hk
  cases hk
 refine ⟨?_,?_,by rw[hcl];exact (cellsP_get P j hjP).2,World.ownsRow.frozenAt hr _,⟨cs,hg⟩,hB,rfl⟩
 ·unfold RowP;rw[List.length_set];exact hst
 ·refine ⟨by simp[hPl],fun i hi hi'=>?_⟩;have hi1:i<L.length:=by simpa using hi
  have hi2:i<P.length:=by simpa using hi'
  have base:=hs.2 i hi1 hi2
  by_cases hij:j=i
  ·subst hij;rw[List.getElem_set_self,List.getElem_set_self];exact ⟨base.1,hu.imp (fun b hb=>by obtain ⟨cs',fr',e⟩:=hb;exact ⟨cs',fr',(hot b ⟨cs',fr',e⟩).trans e⟩) (fun b o hb=>by simp only[World.cell?,hot b hb])⟩
  ·rw[List.getElem_set_ne hij,List.getElem_set_ne hij];exact ⟨base.1,base.2.imp (fun b hb=>by obtain ⟨cs',fr',e⟩:=hb;exact ⟨cs',fr',(hot b ⟨cs',fr',e⟩).trans e⟩) (fun b o hb=>by simp only[World.cell?,hot b hb])⟩
end Go.Proofs.YtgaaefcanfglhaaGreatDoor
namespace Go.Proofs.YtgaaefcanfglhaaGreatDoor
open Go.RowKit
set_option linter.unusedVariables false
def mkN (ns:List UInt8):List UInt8:=110 :: Lib.itoa ((kOf ns 0 % 6:Nat):Int)
def mkLa (ns:List UInt8):List AT:=if kOf ns 1 % 3=0 then [([99,110],[mkN ns]),(objB,[[105,110,101,116,79,114,103,80,101,114,115,111,110]]),([115,110],[[115]]),([109,97,105,108],[[97,64]++Lib.itoa (kOf ns 2:Int)])] else perL (mkN ns)
def mkLb (ns:List UInt8):List AT:=if kOf ns 1 % 3=1 then mkLa ns++[([68,101,115,99,114,105,112,116,105,111,110],[[100,32]++Lib.itoa ((kOf ns 2 % 9:Nat):Int),[101]])] else mkLa ns
def mkLc (ns:List UInt8):List AT:=if kOf ns 3 % 4=0 then (mkLb ns).set 1 (objB,((mkLb ns).getD 1 ([],[])).2++[[112,111,115,105,120]])++[([117,105,100],[[117]++Lib.itoa ((kOf ns 4 % 9:Nat):Int)]),([117,105,100,78,117,109,98,101,114],[Lib.itoa ((kOf ns 4:Int) - 100)])] else mkLb ns
def mkLd (ns:List UInt8):List AT:=if kOf ns 3 % 4=1 then mkLc ns++[([117,115,101,114,80,97,115,115,119,111,114,100],[[115,101,99,114,101,116]])] else mkLc ns
def mkD (ns:List UInt8):List UInt8:=if kOf ns 5 % 5=0 then [99,110,61]++mkN ns else if kOf ns 5 % 5=1 then [67,78,61]++mkN ns++[44,111,117,61,97,44,111,61,120] else perD (mkN ns)
end Go.Proofs.YtgaaefcanfglhaaGreatDoor
namespace Go.Proofs.YtgaaefcanfglhaaGreatDoor
set_option linter.unusedVariables false
def nmT8:List ByteArray:=[⟨#[111,61,120]⟩,⟨#[111,117,61,97,44,111,61,120]⟩,⟨#[111,117,61,98,44,111,61,120]⟩,⟨#[99,110,61,110,48,44,111,117,61,97,44,111,61,120]⟩,⟨#[99,110,61,110,49,44,111,117,61,97,44,111,61,120]⟩,⟨#[99,110,61,110,50,44,111,117,61,98,44,111,61,120]⟩,⟨#[99,110,61,110,51,44,111,61,120]⟩,⟨#[99,110,61,110,52]⟩,⟨#[111,117,61,99,44,111,117,61,97,44,111,61,120]⟩,⟨#[99,110,61,110,53,44,111,117,61,99,44,111,117,61,97,44,111,61,120]⟩,⟨#[111,61,121]⟩,⟨#[99,110,61,110,48,44,111,61,121]⟩]
def nmE (k:Nat):List UInt8:=(nmT8.getD k ⟨#[]⟩).data.toList
def avE (k:Nat):R:=((parseD (nmE k)).getD []).headD ([],[])
def clB (t:List UInt8):ByteArray:=if t=[111] then ⟨#[111,114,103,97,110,105,122,97,116,105,111,110]⟩ else if t=[111,117] then ⟨#[111,114,103,97,110,105,122,97,116,105,111,110,97,108,117,110,105,116]⟩ else ⟨#[112,101,114,115,111,110]⟩
def dscE (x:Nat):List UInt8:=100 :: Lib.itoa (x:Int)
def fstE (k x:Nat):List AT:=[((avE k).1,[(avE k).2]),([111,98,106,101,99,116,99,108,97,115,115],[(clB (avE k).1).data.toList]),([100,101,115,99,114,105,112,116,105,111,110],[dscE x])]
def snE (x:Nat):List AT:=[([115,110],[115 :: Lib.itoa ((x % 4:Nat):Int)])]
def pwE (i:Nat):List AT:=[([117,115,101,114,112,97,115,115,119,111,114,100],[112 :: 119 :: Lib.itoa (i:Int)])]
def isP (k:Nat):Bool:=!decide ((avE k).1=[111]) && !decide ((avE k).1=[111,117])
def rawE (i x:Nat):List AT:=fstE (i % 12) x++(if isP (i % 12)=true then snE x++(if x % 3=0 then pwE i else []) else [])
def entE (i x:Nat):ET:=normE (nmE (i % 12),rawE i x)
def okNm (k:Nat):Bool:=(parseD (nmE k)).isSome && !((parseD (nmE k)).getD []).isEmpty && decide ((nmE k).length≤30) && decide ((avE k).1.length≤3) && decide ((avE k).2.length≤3)
theorem nm_ok:(List.range 12).all okNm=true:=by kernel_rfl
theorem nm_parse (k:Nat) (hk:k<12):(parseD (nmE k)).isSome=true∧((parseD (nmE k)).getD []).isEmpty=false∧(nmE k).length≤30∧(avE k).1.length≤3∧(avE k).2.length≤3:=by
 have h:=List.all_eq_true.1 nm_ok k (by simpa using hk);unfold okNm at h;simp only[Bool.and_eq_true,decide_eq_true_eq,Bool.not_eq_true'] at h;exact ⟨h.1.1.1.1,h.1.1.1.2,h.1.1.2,h.1.2,h.2⟩
theorem nm_first {k:Nat} (hk:k<12):∃ l,parseD (nmE k)=some (avE k :: l):=by
 obtain ⟨h1,h2,_⟩:=nm_parse k hk;unfold avE
 cases e:parseD (nmE k) with
 | none=>rw[e] at h1;cases h1
 | some l=>
  rw[e] at h2
  cases l with
  | nil=>cases h2
  | cons r l=>exact ⟨l,rfl⟩
theorem itoa_byte {n:Nat} (h:n<256):(Lib.itoa (n:Int)).length≤3:=by
 have:∀ m:Fin 256,(Lib.itoa ((m:Nat):Int)).length≤3:=by decide +kernel
 exact this ⟨n,h⟩
theorem raw_len (i x:Nat):(rawE i x).length≤5:=by
 unfold rawE fstE snE pwE
 by_cases h:isP (i % 12)=true
 ·by_cases h3:x % 3=0 <;> simp[h,h3]
 ·simp[h]
end Go.Proofs.YtgaaefcanfglhaaGreatDoor
namespace Go.Proofs.YtgaaefcanfglhaaGreatDoor
open Go.RowKit
set_option linter.unusedVariables false
theorem run_grow_one {w:World} {vb c:Nat} {X:List UInt8} (h:IsTo (StrB w) w [X] (.slice (some ⟨vb,0,none⟩) 1 1)) {Z:ByteArray} (hc:w.heap[c]?=some (.cells #[.string Z] 9 (0,0))) (ty:TypeId) :
  ∃ v' w',(Builtin.append_ #[33,33] ty #[.slice (some ⟨vb,0,none⟩) 1 1,.slice (some ⟨c,0,none⟩) 1 1]).run Tryz.prog w=.ok v' w'∧Below w.heap.size w w'∧IsTo (StrB w') w' ([X]++[Z.data.toList]) v':=by
 obtain ⟨i0,hi,hz0,hz1,hz2⟩:=info_parts infoS;obtain ⟨a,cc,e,_,hh⟩:=h;obtain ⟨b,off,e2,hb,hcell⟩:=hh 0 (by simp);subst e2;simp only[Value.slice.injEq,Option.some.injEq,Addr.mk.injEq,and_true] at e;obtain ⟨⟨rfl,rfl⟩,_,_⟩:=e;have hcell:w.cell? ⟨vb,0,none⟩=some (strV X):=hcell;have hsrc:Src Tryz.prog i0.size 33 (.slice (some ⟨c,0,none⟩) 1 1) 1 [.string Z] w:=by
  rw[hz1];refine Src.ofSlice w Tryz.underlying33 ⟨c,0,none⟩ 1 1 [.string Z] (by simp) ?_ (by simp[Value.oneCell']);intro j u hu
  match j,hu with
  | 0,hu=>
   have:u=.string Z:=by simpa using hu.symm
   subst this;simp[World.cell?,Addr.add,hc]
 have hold:(Builtin.firstCells i0.size 1 (.slice (some ⟨vb,0,none⟩) 1 1)).run Tryz.prog w.drew=.ok [strV X].toArray w.drew:=by
  rw[hz1];refine run_firstCells_some w.drew 1 1 ⟨vb,0,none⟩ 1 1 [strV X] (by simp) ?_;intro j u hu
  match j,hu with
  | 0,hu=>
   have:u=strV X:=by simpa using hu.symm
   subst this;exact hcell
 have hrun:=run_append_grow_src (P:=Tryz.prog) w 33 33 ty 9 i0 (.string ⟨#[]⟩) Tryz.underlying33 hi hz0 (some ⟨vb,0,none⟩) 1 1 [strV X] hold (.slice (some ⟨c,0,none⟩) 1 1) 1 [.string Z] hsrc (by omega) (by omega) (by rw[hz2];decide);refine ⟨_,_,hrun,(Below.refl _ _).drew.alloc (Nat.le_refl _) _,?_⟩;have hnew:=heap_alloc_new w.drew (.cells (([strV X]++[Value.string Z]).toArray++Builtin.zeroCells (Value.string ⟨#[]⟩).cells (grownCap w (1+1) 1 9 - (1+1))) 9);have hds:w.drew.heap.size=w.heap.size:=rfl;rw[hds] at hnew;refine ⟨_,_,rfl,by unfold maxLen;simp,fun j hj=>?_⟩
 match j,hj with
 | 0,_=>
  refine ⟨w.heap.size,0,rfl,strB_at hnew,?_⟩;simp only[World.cell?,hnew];rw[Array.getElem?_append_left (by simp)];rfl
 | 1,_=>
  refine ⟨w.heap.size,0,rfl,strB_at hnew,?_⟩
  show _=some (strV Z.data.toList)
  rw[strV_whole];simp only[World.cell?,hnew];rw[Array.getElem?_append_left (by simp)];rfl
theorem row_second {B g n cap:Nat} {w:World} {P:List PT} {L:List AT} {T:List UInt8} {V:Value} {A:List (List UInt8)} (hr:RowP B w (.slice (some ⟨g,0,none⟩) n cap) P) (hs:SaysM w P L) (hP:∃ t,P[1]?=some (t,V)) (hL:L[1]?=some (T,A)) :
  w.cell? ⟨g,3,none⟩=some V∧w.frozen? ⟨g,3,none⟩=false∧IsTo (StrB w) w A V:=by
 obtain ⟨t,hP⟩:=hP;obtain ⟨h1,e1⟩:=List.getElem?_eq_some_iff.1 hP;obtain ⟨h2,e2⟩:=List.getElem?_eq_some_iff.1 hL;obtain ⟨_,_,c3,f3,_⟩:=rowP_set (j:=1) (A':=[]) (u:=.slice none 0 0) h2 h1 hr hs ⟨_,_,rfl,by unfold maxLen;simp,fun j hj=>absurd hj (by simp)⟩;have:=(hs.2 1 h2 h1).2;rw[e1] at c3 this;rw[e2] at this;exact ⟨c3,f3,this⟩
theorem row_some {B:Nat} {w:World} {u:Value} {P:List PT} (hr:RowP B w u P) (h:1<P.length):∃ g n cap,u=.slice (some ⟨g,0,none⟩) n cap∧1<n:=by
 unfold RowP at hr;rcases hr.2 with ⟨_,hz⟩ | ⟨g,cap,cur,rfl,_⟩
 ·omega
 ·exact ⟨g,_,cap,rfl,h⟩
theorem mkLb_one (ns:List UInt8):∃ x,(mkLb ns)[1]?=some (objB,[x]):=by
 unfold mkLb mkLa
 split <;> split <;> exact ⟨_,rfl⟩
theorem addr0 (c j:Nat):(⟨c,0,none⟩:Addr).add j=⟨c,j,none⟩:=by simp[Addr.add];omega
theorem saysM_two {w:World} {b:Nat} {X Y Z:ByteArray} (h:w.heap[b]?=some (.cells #[.string Y,.string Z] 9 (0,0))):SaysM w [(X.data.toList,.slice (some ⟨b,0,none⟩) 2 2)] [(X.data.toList,[Y.data.toList,Z.data.toList])]:=
 ⟨rfl,fun j hj hj'=>by
  have:j=0:=by simp at hj;omega
  subst this;refine ⟨rfl,_,_,rfl,by unfold maxLen;simp,fun k hk=>?_⟩
  match k,hk with
  | 0,_=>
   refine ⟨b,0,rfl,strB_at h,?_⟩
   show _=some (strV Y.data.toList)
   rw[strV_whole];simp only[World.cell?,h];rfl
  | 1,_=>
   refine ⟨b,0,rfl,strB_at h,?_⟩
   show _=some (strV Z.data.toList)
   rw[strV_whole];simp only[World.cell?,h]
   rfl⟩
end Go.Proofs.YtgaaefcanfglhaaGreatDoor
namespace Go.Proofs.YtgaaefcanfglhaaGreatDoor
open Go.RowKit
set_option linter.unusedVariables false
def IsB (n0:Nat) (w:World) (l:List UInt8) (a:Option Addr) (cap:Nat):Prop:=
 l.length≤maxLen∧(l=[]∨∃ b off,a=some ⟨b,off,none⟩∧b<n0∧∀ j,(h:j<l.length)→w.cell? ⟨b,off+j,none⟩=some (.int .u8 l[j].toNat))
def IsS (n0:Nat) (w:World) (L:List ByteArray) (a:Option Addr) (cap:Nat):Prop:=
 L.length≤maxLen∧(∀ s∈L,s.size≤maxLen)∧(L=[]∨∃ b off,a=some ⟨b,off,none⟩∧b<n0∧∀ j,(h:j<L.length)→w.cell? ⟨b,off+j,none⟩=some (.string L[j]))
theorem IsB.below {n0:Nat} {w w':World} {l:List UInt8} {a:Option Addr} {cap:Nat} (h:IsB n0 w l a cap) (hb:Below n0 w w'):IsB n0 w' l a cap:=
 ⟨h.1,h.2.imp id fun ⟨b,off,e,hlt,hc⟩=>⟨b,off,e,hlt,fun j hj=>(hb.cell (p:=⟨b,_,none⟩) hlt).trans (hc j hj)⟩⟩
theorem IsS.below {n0:Nat} {w w':World} {l:List ByteArray} {a:Option Addr} {cap:Nat} (h:IsS n0 w l a cap) (hb:Below n0 w w'):IsS n0 w' l a cap:=
 ⟨h.1,h.2.1,h.2.2.imp id fun ⟨b,off,e,hlt,hc⟩=>⟨b,off,e,hlt,fun j hj=>(hb.cell (p:=⟨b,_,none⟩) hlt).trans (hc j hj)⟩⟩
set_option maxRecDepth 100000 in
theorem open_bytes {H:Type} {enc:TypeId×Value→H} {W:World} {v:Value} {d:DataW H} {ps:List MemPlace} (hval:Value.okWide Tryz.prog W .any 0 22 v) (hd:DataW.Trod enc Tryz.prog W 0 (fun _=>true) true 22 v d ps) :
  ∃ (a:Option Addr) (cap:Nat) (l:List UInt8),v=.slice a l.length cap∧IsB W.heap.size W l a cap:=by
 obtain ⟨a0,len,cap,rfl⟩:=Go.WideShapes.okWide_slice Tryz.underlying22 hval;obtain ⟨fuel,hf⟩:=hd;have hc:Tryz.prog.cellsOf 5=1:=by kernel_rfl
 rcases Go.ChangeShapes.open_ints Tryz.underlying22 Tryz.underlying5 hc hf with ⟨hcs,_⟩ | ⟨a,len',cap',zs,hcs,_,hle,hmax,hall,_,hcell,hwf⟩
 ·simp[Value.cells] at hcs;obtain ⟨rfl,rfl,rfl⟩:=hcs;exact ⟨none,0,[],rfl,Nat.zero_le _,.inl rfl⟩
 ·simp[Value.cells] at hcs;obtain ⟨rfl,rfl,rfl⟩:=hcs;simp only[if_true] at hall;have hlen:((zs.take len).map fun z=>UInt8.ofNat z.toNat).length=len:=by simp;omega
  refine ⟨some a,cap,(zs.take len).map fun z=>UInt8.ofNat z.toNat,by rw[hlen],by omega,?_⟩
  by_cases h0:len=0
  ·left;subst h0;simp
  ·right;obtain ⟨b,off,rfl,hat⟩:=ints_at hcell (by omega);refine ⟨b,off,rfl,World.block_lt_of_cell? W ⟨b,off+0,none⟩ (hat 0 (by omega)),fun j hj=>?_⟩;have hjz:j<zs.length:=by omega
   have hw:=hwf zs[j] (List.getElem_mem _);simp only[Lit.wf,Bool.and_eq_true,decide_eq_true_eq] at hw;have h1:(0:Int)≤zs[j]:=hw.1;have h2:zs[j]≤255:=hw.2;have hn:(UInt8.ofNat zs[j].toNat).toNat=zs[j].toNat:=by simp;omega
   rw[hat j hjz];simp only[List.getElem_map,List.getElem_take,hn];simp[List.getD,List.getElem?_eq_getElem hjz];omega
end Go.Proofs.YtgaaefcanfglhaaGreatDoor
