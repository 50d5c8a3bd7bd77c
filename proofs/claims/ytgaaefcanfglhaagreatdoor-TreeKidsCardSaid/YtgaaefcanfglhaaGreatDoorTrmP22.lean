/- Several texts in one file: TrKidP, TrKidsW. -/
import Derived.Test.YtgaaefcanfglhaaGreatDoorTrmP19
import Derived.Test.YtgaaefcanfglhaaGreatDoorTrmP8
namespace Go.Proofs.YtgaaefcanfglhaaGreatDoor
set_option linter.unusedVariables false
set_option linter.unusedSimpArgs false
def totK (X:List KL):List KL→Nat
 | []=>0
 | k :: l=>(kidsP X k).length+totK X l
theorem totK_app (X A B:List KL):totK X (A++B)=totK X A+totK X B:=by
 induction A with
 | nil=>simp[totK]
 | cons a A ih=>simp only[List.cons_append,totK,ih];omega
theorem kidsP_cons (x:KL) (X:List KL) (k:KL) (hx:x≠[]):(kidsP (x :: X) k).length=(if upD x=k then 1 else 0)+(kidsP X k).length:=by
 have h1:x.isEmpty=false:=by cases x <;> simp_all
 unfold kidsP;rw[List.filter_cons]
 by_cases e:upD x=k
 ·simp[e,h1];omega
 ·simp[e,h1]
def hitK (u:KL):List KL→Nat
 | []=>0
 | k :: l=>(if u=k then 1 else 0)+hitK u l
theorem hitK_no {u:KL}:∀ {l:List KL},u ∉ l→hitK u l=0
 | [],_=>rfl
 | k :: l,h=>by
  have h1:u≠k:=fun e=>h (by rw[e];exact List.mem_cons_self)
  unfold hitK;rw[if_neg h1,hitK_no (fun hm=>h (List.mem_cons_of_mem _ hm))]
theorem hitK_one {u:KL}:∀ {l:List KL},u∈l→l.Nodup→hitK u l=1
 | k :: l,h,hn=>by
  obtain ⟨h1,h2⟩:=List.nodup_cons.1 hn;unfold hitK
  by_cases e:u=k
  ·rw[if_pos e,hitK_no (by rw[e];exact h1)]
  ·rw[if_neg e,hitK_one ((List.mem_cons.1 h).resolve_left e) h2]
theorem totK_cons (x:KL) (X:List KL) (hx:x≠[]):∀ l:List KL,totK (x :: X) l=hitK (upD x) l+totK X l
 | []=>rfl
 | k :: l=>by
  unfold totK hitK;rw[kidsP_cons x X k hx,totK_cons x X hx l];omega
theorem totK_all (Ks:List KL) (hn:Ks.Nodup):∀ X:List KL,(∀ x∈X,x≠[]∧upD x∈Ks)→totK X Ks=X.length
 | [],_=>by
  have:∀ l:List KL,totK [] l=0:=fun l=>by
   induction l with
   | nil=>rfl
   | cons k l ih=>unfold totK;rw[ih];rfl
  exact this Ks
 | x :: X,h=>by
  obtain ⟨h1,h2⟩:=h x (by simp);rw[totK_cons x X h1,hitK_one h2 hn,totK_all Ks hn X (fun y hy=>h y (by simp[hy])),List.length_cons];omega
theorem rise_nodup {KS:List KL} (h:Rise KS):KS.Nodup:=h.imp fun {a b} hab e=>by rw[e,gleT_refl] at hab;cases hab
theorem ents_key {L:List ET} (h:Ents L):[] ∉ keysE L:=fun hm=>by
 obtain ⟨e,he,hk⟩:=List.mem_map.1 hm;obtain ⟨i,x,_,_,rfl⟩:=h e he;exact ent_keyne i x hk
structure KidsD (L:List ET):Prop where
 ents:Ents L
 len:L.length≤40
 stands:standsK (keysE L)=true
theorem kids_dat (ns:List UInt8):KidsD (mkT (ns.take 40)):=by
 have hg:=mkT_good (ns.take 40);exact ⟨hg.1.ents,by have:=hg.2;rw[List.length_take] at this;omega,hg.1.stands⟩
theorem KidsD.tot {L:List ET} (h:KidsD L):totK (keysE L) ([] :: keysE L)=L.length:=by
 have h0:=ents_key h.ents
 rw[totK_all _ (List.nodup_cons.2 ⟨h0,rise_nodup (stands_rise h.stands)⟩) _ (fun x hx=>⟨fun e=>h0 (by rw[← e];exact hx),by
  rcases stands_up h.stands x hx with e | e
  ·rw[e];exact List.mem_cons_self
  ·exact List.mem_cons_of_mem _ e⟩),keysE_len]
theorem KidsD.step {L:List ET} (h:KidsD L) {j:Nat} (hj:j<L.length) (hk:j<(keysE L).length):totK (keysE L) ([] :: (keysE L).take (j+1))=totK (keysE L) ([] :: (keysE L).take j)+(kidsP (keysE L) (keysE L)[j]).length:=by
 rw[List.take_succ_eq_append_getElem hk,← List.cons_append,totK_app];simp[totK]
theorem KidsD.most {L:List ET} (h:KidsD L) (j:Nat):totK (keysE L) ([] :: (keysE L).take j)≤40:=by
 have h1:=h.tot;have h2:[] :: keysE L=([] :: (keysE L).take j)++(keysE L).drop j:=by rw[List.cons_append,List.take_append_drop]
 rw[h2,totK_app] at h1;have:=h.len;omega
theorem KidsD.all {L:List ET} (h:KidsD L):totK (keysE L) ([] :: (keysE L).take L.length)=L.length:=by
 rw[List.take_of_length_le (by rw[keysE_len];exact Nat.le_refl _)];exact h.tot
theorem KidsD.kid {L:List ET} (h:KidsD L) {k:KL} {m:Nat} (hm:m<(kidsP (keysE L) k).length):upD (kidsP (keysE L) k)[m]=k∧0≤findK (keysE L) (kidsP (keysE L) k)[m]∧(kidsP (keysE L) k)[m]∈keysE L:=by
 have hin:=List.getElem_mem hm;have h1:=hin;unfold kidsP at h1;rw[List.mem_filter] at h1;obtain ⟨h2,h3⟩:=h1;simp only[Bool.and_eq_true,beq_iff_eq] at h3;refine ⟨h3.2,?_,h2⟩;obtain ⟨j,_,e,_⟩:=idxK_some h2;rw[findK_idx (ents_key h.ents)];rw[show idxK (keysE L) (kidsP (keysE L) k)[m]=(j:Int) from e];omega
theorem KidsD.rise {L:List ET} (h:KidsD L) {k:KL} {m:Nat} (hm:m+1<(kidsP (keysE L) k).length):Op.bytesLess ((kidsP (keysE L) k)[m]'(by omega)) ((kidsP (keysE L) k)[m+1])=true:=by
 have hr:Rise (kidsP (keysE L) k):=List.Pairwise.filter _ (stands_rise h.stands);rw[gt_bl];exact List.pairwise_iff_getElem.1 hr m (m+1) (by omega) hm (by omega)
theorem KidsD.may {L:List ET} (h:KidsD L) {j:Nat} (hj:j<(keysE L).length):mayE (delE L (keysE L)[j])=decide ((kidsP (keysE L) (keysE L)[j]).length=0)∧fineE (delE L (keysE L)[j]):=by
 obtain ⟨k,hk⟩:∃ k,k=(keysE L)[j]:=⟨_,rfl⟩;rw[← hk];have hin:k∈keysE L:=by rw[hk];exact List.getElem_mem _
 have h0:=ents_key h.ents;have hkne:k≠[]:=fun e=>h0 (by rw[← e];exact hin)
 have hr:=stands_rise h.stands;obtain ⟨A,B,hc⟩:=rise_cut L k hr;have hd:=hc.delE hkne;have hmem:∀ z,z∈A++B→z∈L:=fun z hz=>by
  rcases hc.all with e | ⟨y,_,e⟩
  ·rw[e];exact hz
  ·rw[e];rcases List.mem_append.1 hz with h | h
   ·exact List.mem_append.2 (.inl h)
   ·exact List.mem_append.2 (.inr (List.mem_cons_of_mem _ h))
 have hback:∀ x∈keysE L,x≠k→x∈keysE (A++B):=fun x hx hne=>by
  rw[keysE_app];rcases hc.all with e | ⟨y,hy,e⟩
  ·rw[e,keysE_app] at hx;exact hx
  ·rw[e,keysE_app] at hx;rcases List.mem_append.1 hx with h | h
   ·exact List.mem_append.2 (.inl h)
   ·rcases List.mem_cons.1 h with e2 | h
    ·exact absurd (e2.trans hy) hne
    ·exact List.mem_append.2 (.inr h)
 have he:Ents (A++B):=fun e he=>h.ents e (hmem e he)
 have hl:(A++B).length≤40:=by
  have:=h.len;rcases hc.all with e | ⟨y,_,e⟩ <;> rw[e] at this <;> simp at this ⊢ <;> omega
 rw[hd];refine ⟨?_,ents_fine he (by omega)⟩;rw[ents_may he (by omega)]
 by_cases hz:(kidsP (keysE L) k).length=0
 ·rw[show decide ((kidsP (keysE L) k).length=0)=true from by simpa using hz];refine stands_of (rise_del hc hr) fun x hx=>?_
  obtain ⟨e,hem,rfl⟩:=List.mem_map.1 hx;have hxL:kE e∈keysE L:=List.mem_map_of_mem (hmem e hem);rcases stands_up h.stands _ hxL with hu | hu
  ·exact .inl hu
  ·refine .inr (hback _ hu fun e2=>?_);have:kE e∈kidsP (keysE L) k:=by
    unfold kidsP;rw[List.mem_filter];have:(kE e).isEmpty=false:=by
     cases e3:kE e with
     | nil=>exact absurd (e3 ▸ hxL) h0
     | cons _ _=>rfl
    exact ⟨hxL,by simp[this,e2]⟩
   rw[List.length_eq_zero_iff.1 hz] at this
   cases this
 ·rw[show decide ((kidsP (keysE L) k).length=0)=false from by simpa using hz];obtain ⟨x,hx⟩:=List.exists_mem_of_length_pos (Nat.pos_of_ne_zero hz);unfold kidsP at hx;rw[List.mem_filter] at hx;obtain ⟨hx1,hx2⟩:=hx;simp only[Bool.and_eq_true,beq_iff_eq] at hx2;have hxk:x≠k:=fun e=>by
   have:=upD_lt x (fun e2=>hkne (by rw[← e,e2]));rw[hx2.2,e] at this;omega
  cases hs:standsK (keysE (A++B)) with
  | false=>rfl
  | true=>
   rcases stands_up hs x (hback x hx1 hxk) with hu | hu
   ·exact absurd (hx2.2.symm.trans hu) hkne
   ·rw[hx2.2] at hu;exact absurd hu hc.no
open Go.RowKit
theorem isT_cell {L:List (List UInt8)} {w:World} {v:Value} (h:IsT w.heap.size w L v) (j:Nat) (hj:j<L.length) :
  ∃ b off c,v=.slice (some ⟨b,off,none⟩) L.length c∧w.cell? ⟨b,off+j,none⟩=some (.string (ofL L[j]))∧b<w.heap.size:=by
 obtain ⟨a,c,hv,hm,hh⟩:=h;obtain ⟨b,off,ha,hb,hc⟩:=hh j hj;exact ⟨b,off,c,by rw[hv,ha],hc,hb⟩
set_option maxRecDepth 100000 in
set_option maxHeartbeats 8000000 in
theorem treeKidsL_any (ns:List UInt8) (b0:Option Addr) (c0:Nat) (i0:Nat) (w:World) (hw:LaidW w) (hlf:LaidF w) (h:IsB w.heap.size w ns b0 c0) :
  Calls Tryz.prog 5 #[.slice b0 ns.length c0,.int .u8 i0] w fun e w'=>e=.returned (.bool true)∧Below w.heap.size w w':=by
 have hd:=kids_dat ns;obtain ⟨n,hn⟩:∃ n,n=ns.length:=⟨_,rfl⟩;have HMk:=Lib.hid (tree8_any ns b0 c0 w h);rw[← hn] at HMk ⊢;obtain ⟨L,hL⟩:∃ L,L=mkT (ns.take 40):=⟨_,rfl⟩;rw[← hL] at HMk hd;have fL:=ents_fine hd.ents (by have:=hd.len;omega);obtain ⟨KS,hKS⟩:∃ KS,KS=keysE L:=⟨_,rfl⟩;have hKl:KS.length=L.length:=by rw[hKS,keysE_len]
 obtain ⟨ll,hll⟩:∃ n,n=L.length:=⟨_,rfl⟩;rw[← hll] at hKl;have ll4:ll≤40:=by rw[hll];exact hd.len
 have hksz:∀ x∈KS,x.length≤100000:=fun x hx=>by
  rw[hKS] at hx;obtain ⟨e,he,rfl⟩:=List.mem_map.1 hx;exact Nat.le_trans (kE_len _) (fL.1.2 _ he).1
 have HSz:=Lib.hid hksz;have HD:=Lib.hid hd;have HFl:=Lib.hid fL;have HLl:=Lib.hid hll;have HKS:=Lib.hid hKS;have HKl:=Lib.hid hKl;have HKi:=Lib.hid (fun (v:Value) (K:ByteArray) (W:World) (h:IsE W.heap.size W L v)=>show Calls Tryz.prog 15 #[v,.string K] W (fun e w'=>∃ v,e=.returned v∧OwnS W.heap.size w' v (kidsP KS K.data.toList)∧Below W.heap.size W w') from by rw[hKS];exact treeKids_any L fL.1 v K W h);have HFi:=Lib.hid (fun (v:Value) (K:ByteArray) (hs:K.size≤100000) (W:World) (h:IsE W.heap.size W L v)=>show Calls Tryz.prog 12 #[v,.string K] W (fun e w'=>e=.returned (.int .i64 (findK KS K.data.toList))∧Below W.heap.size W w') from by rw[hKS];exact treeFind_any L fL.1 v K hs W h);have HDe:=Lib.hid (fun (v:Value) (hc:capV v) (K:ByteArray) (hs:K.size≤100000) (W:World) (h:IsE W.heap.size W L v)=>treeDel_any L fL.1 v (capV_w hc) K hs W h);have HLd:=Lib.hid (fun (W:World) (h:Below w.heap.size w W)=>And.intro (hw.below h) (hlf.below h));have HAw:=Lib.hid (fun (W:World) (h:Below w.heap.size w W)=>awake8_any W (hw.below h) (hlf.below h));have HSlL:=Lib.hid (fun (W:World) (v:Value) (h:IsE W.heap.size W L v)=>show ∃ a c,v=.slice a ll c from by rw[hll];exact IsE.sl h);obtain ⟨k0,hk0⟩:∃ n,n=(kidsP KS []).length:=⟨_,rfl⟩;have hk09:k0≤40:=by
  rw[hk0];have h2:(kidsP KS []).length≤KS.length:=List.length_filter_le _ _;omega
 have HK0:=Lib.hid hk0
 have HKm:Hid (∀ k,(kidsP KS k).length≤40):=Lib.hid (fun k=>by
  have h2:(kidsP KS k).length≤KS.length:=List.length_filter_le _ _
  omega)
 clear h hw hlf hd hL fL hKS hKl hll hksz hn hk0;have tok:Hid ((0:Nat)=0):=Lib.hid rfl;go_enter Tryz.func5,Tryz.ntmps5
 go_upto_region 3 with (first
  | (go_at_call 7;refine (HMk.out).mono ?_;rintro e w1 ⟨v1,rfl,hi1,hc1,hb1⟩;(obtain ⟨la,lc,hle⟩:=HSlL.out w1 v1 hi1);subst hle;have HT1:=Lib.hid hi1;have HC1:=Lib.hid hc1;have HB1:=Lib.hid hb1;clear hi1 hc1 hb1)
  | (go_at_call 15;refine (HKi.out _ ⟨#[]⟩ _ HT1.out).mono ?_;rintro e w2 ⟨v2,rfl,hk2,hb2⟩;(obtain ⟨ka,kc,hke⟩:=ownS_slice hk2);rw[← HK0.out] at hke;subst hke;have HT2:=Lib.hid (HT1.out.below hb2 hb2.size);have HB2:=Lib.hid (bthen HB1.out hb2);clear hk2 hb2))
 go_wp2
 go_loopw [6,7] (fun nn i wr=>∃ j t:Nat,j≤ll∧i=.int .i64 j∧nn=.int .i64 t∧Hid (t=totK KS ([] :: KS.take j))∧Hid (IsE wr.heap.size wr L (.slice la ll lc))∧Below w.heap.size w wr) (fun nn i wr=>ll - (intOf i).toNat)
 case atStart=>exact ⟨0,k0,by omega,rfl,rfl,Lib.hid (by rw[HK0.out];simp[totK]),HT2,HB2.out⟩
 case round=>
  obtain ⟨j,t,hj,rfl,rfl,HTot,HT,hbel⟩:=hrel;rename World=>wr;have HBel:=Lib.hid hbel;clear hbel
  by_cases hlt:j<ll
  ·have t1:decide ((j:Int)<(ll:Int))=true:=by simp;omega
   have t1':decide (j<ll)=true:=by simpa using hlt
   have u0:(0:Int)≤(j:Int):=by omega
   have u1:(j:Int)<(ll:Int):=by omega
   have hjK:j<KS.length:=by rw[HKl.out];exact hlt
   have hjL:j<L.length:=by rw[← HLl.out];exact hlt
   obtain ⟨lb,lo,lc2,X,xa,xn,xc,hve,x0,x1,hX,hxA,hlb⟩:=isE_cell HT.out j hjL;rw[← HLl.out] at hve
   cases hve
   obtain ⟨K,hK⟩:∃ K,K=keyB (keyD X.data.toList):=⟨_,rfl⟩;have hXs:X.size≤100000:=by rw[← bytes_len,hX];exact (HFl.out.1.2 _ (List.getElem_mem hjL)).1
   have hKl:K.data.toList=KS[j]:=by
    rw[hK,keyB_list,hX];have e:=keysE_at L j hjL;simp only[← HKS.out] at e;rw[e];rfl
   have hKs:K.size≤100000:=by rw[← bytes_len,hKl];exact HSz.out _ (List.getElem_mem hjK)
   have HKy:=Lib.hid (fun (W:World)=>treeKey_any X hXs xa xn xc W);rw[← hK] at HKy;obtain ⟨KD,hKD⟩:∃ KD,KD=kidsP KS KS[j]:=⟨_,rfl⟩;have HKi2:=Lib.hid (fun (W:World) (h:IsE W.heap.size W L (.slice (some ⟨lb,lo,none⟩) ll lc))=>HKi.out (.slice (some ⟨lb,lo,none⟩) ll lc) K W h);rw[hKl,← hKD] at HKi2;obtain ⟨kl,hkl⟩:∃ n,n=KD.length:=⟨_,rfl⟩;have hkl9:kl≤40:=by rw[hkl,hKD];exact HKm.out _
   obtain ⟨t2,ht2⟩:∃ q,q=t+kl:=⟨_,rfl⟩;have htot2:t2=totK KS ([] :: KS.take (j+1)):=by
    have h9:=HD.out.step hjL (by rw[keysE_len];exact hjL);simp only[← HKS.out] at h9;rw[h9,ht2,HTot.out,hkl,hKD]
   have ht29:t2≤40:=by
    rw[htot2];have h9:=HD.out.most (j+1);rw[← HKS.out] at h9;exact h9
   have e1:(t:Int)+(kl:Int)=(t2:Int):=by omega
   have e2:IntKind.i64.wrap (t2:Int)=(t2:Int):=IntWalk.i64_in _ (by omega);have HTot2:=Lib.hid htot2;have hmay:=HD.out.may (j:=j) (by rw[keysE_len];exact hjL);simp only[← HKS.out] at hmay;rw[← hKD,← hkl] at hmay
   have HMy:=Lib.hid (fun (v:Value) (W:World) (hb:Below w.heap.size w W) (h:IsE W.heap.size W (delE L K.data.toList) v)=>show Calls Tryz.prog 10 #[v] W (fun e w'=>e=.returned (.bool (decide (kl=0)))∧Below W.heap.size W w') from by
    have h9:=treeMay_any (delE L KS[j]) hmay.2 v W (HLd.out W hb).1 (HLd.out W hb).2 (by rw[← hKl];exact h);rw[hmay.1] at h9
    exact h9)
   have HDe2:=Lib.hid (fun (v:Value) (hc:capV v) (W:World) (h:IsE W.heap.size W L v)=>HDe.out v hc K hKs W h)
   have HKid:Hid (∀ m (hm:m<KD.length),upD KD[m]=K.data.toList∧0≤findK KS KD[m]∧KD[m]∈KS):=Lib.hid (fun m hm=>by
    subst hKD;have hm2:m<(kidsP (keysE L) KS[j]).length:=by rw[← HKS.out];exact hm
    have h9:=HD.out.kid hm2;simp only[← HKS.out] at h9
    exact ⟨h9.1.trans hKl.symm,h9.2⟩)
   have HKri:Hid (∀ m (hm:m+1<KD.length),Op.bytesLess (KD[m]'(Nat.lt_of_succ_lt hm)) KD[m+1]=true):=Lib.hid (fun m hm=>by
    subst hKD;have hm2:m+1<(kidsP (keysE L) KS[j]).length:=by rw[← HKS.out];exact hm
    have h9:=HD.out.rise hm2;simp only[← HKS.out] at h9
    exact h9)
   have HKl2:=Lib.hid hkl;have hbb:((decide (kl=0)) != (decide (kl=0)))=false:=by simp
   have hbz:((kl:Int) == 0)=decide (kl=0):=by
    by_cases h0:kl=0
    ·subst h0;rfl
    ·have:((kl:Int) == 0)=false:=by simpa using h0
     rw[this];simp[h0]
   clear hX hxA hK hXs hKD hkl ht2 htot2 hmay hKl hKs;have x0w:=x0
   go_upto_region 9 with (first
    | (go_at_call 9;refine (HKy.out _).mono ?_;rintro e w3 ⟨rfl,hb3⟩;have HT3:=Lib.hid (HT.out.below hb3 hb3.size);have HB3:=Lib.hid (bthen HBel.out hb3);clear hb3)
    | (go_at_call 15;refine (HKi2.out _ HT3.out).mono ?_;rintro e w4 ⟨v4,rfl,hk4,hb4⟩;have hki:=ownS_isT hk4 (by have:=HKl2.out;unfold maxLen;omega);(obtain ⟨ka4,kc4,hke⟩:=ownS_slice hk4);rw[← HKl2.out] at hke;subst hke;have HKd:=Lib.hid hki;have HT4:=Lib.hid (HT3.out.below hb4 hb4.size);have HB4:=Lib.hid (bthen HB3.out hb4);clear hk4 hb4 hki))
   go_wp2
   go_loopw [10] (fun jj wx=>∃ m:Nat,m≤kl∧jj=.int .i64 m∧Below w4.heap.size w4 wx) (fun jj wx=>kl - (intOf jj).toNat)
   case atStart=>exact ⟨0,by omega,rfl,Below.refl _ _⟩
   case round=>
    obtain ⟨m,hm,rfl,hbx⟩:=hrel;rename World=>wx;have HBx:=Lib.hid hbx;clear hbx
    by_cases hmt:m<kl
    ·have v1:decide ((m:Int)<(kl:Int))=true:=by simp;omega
     have v1':decide (m<kl)=true:=by simpa using hmt
     have y0:(0:Int)≤(m:Int):=by omega
     have y1:(m:Int)<(kl:Int):=by omega
     have hmK:m<KD.length:=by rw[← HKl2.out];exact hmt
     obtain ⟨kb,ko,kc5,hve,d0,hkb⟩:=isT_cell HKd.out m hmK;rw[← HKl2.out] at hve
     cases hve
     obtain ⟨Y,hY⟩:∃ Y,Y=ofL KD[m]:=⟨_,rfl⟩;rw[← hY] at d0;have hYl:Y.data.toList=KD[m]:=by rw[hY,ofL_list]
     obtain ⟨hk1,hk2,hk3⟩:=HKid.out m hmK;have hYs:Y.size≤100000:=by rw[← bytes_len,hYl];exact HSz.out _ hk3
     obtain ⟨f,hf⟩:∃ f:Nat,findK KS Y.data.toList=(f:Int):=⟨(findK KS Y.data.toList).toNat,by rw[hYl];omega⟩;have hU:upB Y=K:=bytes_ext (by rw[upK_list,hYl,hk1]);have q1:(K.toList != K.toList)=false:=by simp
     have q1':(K.toList == K.toList)=true:=by simp
     have q2:decide ((f:Int)<0)=false:=by simp
     by_cases hm0:m=0
     ·have g0:decide ((0:Int)<(m:Int))=false:=by simp;omega
      have g0':decide (0<m)=false:=by simp;omega
      clear hm0;have HC:Hid (∀ W,Below wx.heap.size wx W→(fun w'=>w'.cell? ⟨kb,ko+m,none⟩=some (.string Y)∧Below wx.heap.size wx w') W):=Lib.hid (fun W hW=>⟨((HBx.out.trans (hW.mono HBx.out.size)).cell (p:=⟨kb,ko+m,none⟩) hkb).trans d0,hW⟩);have hst:=HC.out _ (Below.refl _ _).drew;have HUq:Hid (∀ W,Below wx.heap.size wx W→Calls Tryz.prog 25 #[.string Y] W (fun e w''=>e=.returned (.string K)∧(fun w'=>w'.cell? ⟨kb,ko+m,none⟩=some (.string Y)∧Below wx.heap.size wx w') w'')):=Lib.hid (fun W hW=>(upRef_any Y W (by omega)).mono (fun e w'' h=>⟨by rw[← hU];exact h.1,by rw[← h.2];exact HC.out W hW⟩));have HFq:Hid (∀ W,Below wx.heap.size wx W→Calls Tryz.prog 12 #[.slice (some ⟨lb,lo,none⟩) ll lc,.string Y] W (fun e w''=>e=.returned (.int .i64 (f:Int))∧(fun w'=>w'.cell? ⟨kb,ko+m,none⟩=some (.string Y)∧Below wx.heap.size wx w') w'')):=Lib.hid (fun W hW=>(HFi.out _ Y hYs W (HT4.out.below (HBx.out.trans (hW.mono HBx.out.size)) (HBx.out.trans (hW.mono HBx.out.size)).size)).mono (fun e w'' h=>⟨by rw[← hf];exact h.1,HC.out w'' (bthen hW h.2)⟩));clear hY hYl hk1 hk2 hk3 d0 HC
      go_upto_region 12 with fail
      refine region_det (by kernel_rfl) (fun w'=>w'.cell? ⟨kb,ko+m,none⟩=some (.string Y)∧Below wx.heap.size wx w') (hst) (by kernel_rfl) ?_;simp only[List.toList_toArray]
      repeat' (first
       | (refine det_shut (by rfl) ?_;(simp only[Act.put,List.setIfInBounds_toArray,List.set_cons_zero,List.set_cons_succ]))
       | (apply det_val;(case hw=>rfl);(case hv=>(intro w' hS;(obtain ⟨s0,s1⟩:=hS);go_simp;first | done | with_reducible exact rfl));(simp only[Act.put,List.setIfInBounds_toArray,List.set_cons_zero,List.set_cons_succ]))
       | (apply det_call;(case hw=>rfl);(case hv=>(intro w' hS;(obtain ⟨s0,s1⟩:=hS);go_simp;first | done | with_reducible exact rfl | with_reducible exact ⟨rfl,rfl⟩));(case hc=>(intro w' hS;(first | (go_at_call 25;with_reducible exact HUq.out w' hS.2) | (go_at_call 12;with_reducible exact HFq.out w' hS.2))));(simp only[Act.put,List.setIfInBounds_toArray,List.set_cons_zero,List.set_cons_succ]))
       | fail)
      intro wz hSz;have hbz:=hSz.2;have HBz:=Lib.hid (HBx.out.trans (hbz.mono HBx.out.size));clear hSz hst hbz;go_wp2;go_roundw
      case rel=>exact ⟨m+1,by omega,by go_num,HBz.out⟩
      case measure=>simp[intOf];omega
     ·obtain ⟨p,hp⟩:∃ p,p+1=m:=⟨m - 1,by omega⟩;have hpK:p<KD.length:=by omega
      obtain ⟨kb2,ko2,kc6,hve2,d1,_⟩:=isT_cell HKd.out p hpK;rw[← HKl2.out] at hve2
      cases hve2
      obtain ⟨Z,hZ⟩:∃ Z,Z=ofL KD[p]:=⟨_,rfl⟩;rw[← hZ] at d1;have hZl:Z.data.toList=KD[p]:=by rw[hZ,ofL_list]
      have hls:Op.bytesLess Z.toList Y.toList=true:=by
       rw[ByteArray.toList_eq,ByteArray.toList_eq,hZl,hYl];subst hp;exact HKri.out p hmK
      have g0:decide ((0:Int)<(m:Int))=true:=by simp;omega
      have g0':decide (0<m)=true:=by simp;omega
      have g1:(m:Int) - 1=(p:Int):=by omega
      have g2:IntKind.i64.wrap (p:Int)=(p:Int):=IntWalk.i64_in _ (by omega);have g3:(0:Int)≤(p:Int):=by omega
      have g4:(p:Int)<(kl:Int):=by omega
      have g5:p<kl:=by omega
      have HC:Hid (∀ W,Below wx.heap.size wx W→(fun w'=>w'.cell? ⟨kb,ko+m,none⟩=some (.string Y)∧w'.cell? ⟨kb,ko+p,none⟩=some (.string Z)∧Below wx.heap.size wx w') W):=Lib.hid (fun W hW=>⟨((HBx.out.trans (hW.mono HBx.out.size)).cell (p:=⟨kb,ko+m,none⟩) hkb).trans d0,((HBx.out.trans (hW.mono HBx.out.size)).cell (p:=⟨kb,ko+p,none⟩) hkb).trans d1,hW⟩);clear hZ hZl hp d1 hpK;have hst:=HC.out _ (Below.refl _ _).drew;have HUq:Hid (∀ W,Below wx.heap.size wx W→Calls Tryz.prog 25 #[.string Y] W (fun e w''=>e=.returned (.string K)∧(fun w'=>w'.cell? ⟨kb,ko+m,none⟩=some (.string Y)∧w'.cell? ⟨kb,ko+p,none⟩=some (.string Z)∧Below wx.heap.size wx w') w'')):=Lib.hid (fun W hW=>(upRef_any Y W (by omega)).mono (fun e w'' h=>⟨by rw[← hU];exact h.1,by rw[← h.2];exact HC.out W hW⟩));have HFq:Hid (∀ W,Below wx.heap.size wx W→Calls Tryz.prog 12 #[.slice (some ⟨lb,lo,none⟩) ll lc,.string Y] W (fun e w''=>e=.returned (.int .i64 (f:Int))∧(fun w'=>w'.cell? ⟨kb,ko+m,none⟩=some (.string Y)∧w'.cell? ⟨kb,ko+p,none⟩=some (.string Z)∧Below wx.heap.size wx w') w'')):=Lib.hid (fun W hW=>(HFi.out _ Y hYs W (HT4.out.below (HBx.out.trans (hW.mono HBx.out.size)) (HBx.out.trans (hW.mono HBx.out.size)).size)).mono (fun e w'' h=>⟨by rw[← hf];exact h.1,HC.out w'' (bthen hW h.2)⟩));clear hY hYl hk1 hk2 hk3 d0 HC
      go_upto_region 12 with fail
      refine region_det (by kernel_rfl) (fun w'=>w'.cell? ⟨kb,ko+m,none⟩=some (.string Y)∧w'.cell? ⟨kb,ko+p,none⟩=some (.string Z)∧Below wx.heap.size wx w') (hst) (by kernel_rfl) ?_;simp only[List.toList_toArray]
      repeat' (first
       | (refine det_shut (by rfl) ?_;(simp only[Act.put,List.setIfInBounds_toArray,List.set_cons_zero,List.set_cons_succ]))
       | (apply det_val;(case hw=>rfl);(case hv=>(intro w' hS;(obtain ⟨s0,s1,s2⟩:=hS);go_simp;first | done | with_reducible exact rfl));(simp only[Act.put,List.setIfInBounds_toArray,List.set_cons_zero,List.set_cons_succ]))
       | (apply det_call;(case hw=>rfl);(case hv=>(intro w' hS;(obtain ⟨s0,s1,s2⟩:=hS);go_simp;first | done | with_reducible exact rfl | with_reducible exact ⟨rfl,rfl⟩));(case hc=>(intro w' hS;(first | (go_at_call 25;with_reducible exact HUq.out w' hS.2.2) | (go_at_call 12;with_reducible exact HFq.out w' hS.2.2))));(simp only[Act.put,List.setIfInBounds_toArray,List.set_cons_zero,List.set_cons_succ]))
       | fail)
      intro wz hSz;have hbz:=hSz.2.2;have HBz:=Lib.hid (HBx.out.trans (hbz.mono HBx.out.size));clear hSz hst hbz;go_wp2;go_roundw
      case rel=>exact ⟨m+1,by omega,by go_num,HBz.out⟩
      case measure=>simp[intOf];omega
    ·obtain rfl:m=kl:=by omega
     have v1:decide ((m:Int)<(m:Int))=false:=by simp
     have v1':decide (m<m)=false:=by simp
     have HT9:=Lib.hid (HT4.out.below HBx.out HBx.out.size);have HB9:=Lib.hid (bthen HB4.out HBx.out)
     go_upto_region 15 with (first
      | (go_at_call 20;refine (HDe2.out _ HC1.out _ HT9.out).mono ?_;rintro e z1 ⟨v9,rfl,hi9,hc9,hb9⟩;have HI9:=Lib.hid hi9;have HB10:=Lib.hid (bthen HB9.out hb9);have HT10:=Lib.hid (HT9.out.below hb9 hb9.size);clear hi9 hc9 hb9)
      | (go_at_call 10;refine (HMy.out _ _ HB10.out HI9.out).mono ?_;rintro e z2 ⟨rfl,hb10⟩;have HB11:=Lib.hid (bthen HB10.out hb10);have HT11:=Lib.hid (HT10.out.below hb10 hb10.size);clear hb10))
     go_wp2;go_roundw
     case rel=>exact ⟨j+1,t2,by omega,by go_num,rfl,HTot2,HT11,HB11.out⟩
     case measure=>simp[intOf];omega
  ·obtain rfl:j=ll:=by omega
   have t1:decide ((j:Int)<(j:Int))=false:=by simp
   have t1':decide (j<j)=false:=by simp
   have htt:t=j:=by
    have h9:=HD.out.all;rw[← HLl.out,← HKS.out] at h9;rw[HTot.out,h9]
   subst htt;have q0:((t:Int) == (t:Int))=true:=by simp
   have q3:decide ((t:Int)=(t:Int))=true:=by simp
   go_wp2_with (go_at_call 23;refine (HAw.out _ HBel.out).mono ?_;rintro e z5 ⟨rfl,hb5⟩;have HB12:=Lib.hid (bthen HBel.out hb5);clear hb5)
   go_ret;exact ⟨rfl,HB12.out⟩
end Go.Proofs.YtgaaefcanfglhaaGreatDoor
