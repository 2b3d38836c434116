/- A dimension's own formula in its place, and what was lifted with the dimension taken out again: terms. -/
import Derived.Test.YtmblbmdchinflaaGreatEYDsM
import Derived.Test.YtmblbmdchinflaaGreatEYDmG
import Derived.Test.YtmblbmdchinflaaGreatEYDmT
import Derived.Test.YtmblbmdchinflaaGreatEG24
set_option linter.unusedVariables false
set_option linter.unusedSimpArgs false
namespace Go.Proofs.YtmblbmdchinflaaGreat
open Go.RowKit
theorem e_zero {o:DOp} (Q:Tm→Nat→Prop) (hQ:∀ t bd,Q t bd→(ownP o t.kind t.r bd).2=0∧(∀ k x,t.kids[k]? = some x→Q x (bd+bdK t.kind k))∧∀ b∈t.sys,(o.fc b.1 bd).2=0∧∀ x∈b.2,Q x (bd+moreK t.kind)):∀ (n:Nat) (t:Tm) (bd:Nat),blk t≤n→Q t bd→eT o t bd=0
 | 0,t,bd,hn,_=>by have:=blk_pos t;omega
 | n+1,t,bd,hn,h=>by
  obtain⟨h1,h2,h3⟩:=hQ t bd h
  refine e_none h1 (firstE_zero.2 fun x hx=>?_) (firstE_zero.2 fun x hx=>?_)
  ·obtain⟨i,hi⟩:=List.mem_iff_getElem?.1 hx
   obtain⟨y,hy⟩:=someL (l:=t.kids) (k:=i) (by rw [← eK_len o t.kind t.kids bd];exact some_lt hi)
   rw [eK_get hy] at hi
   injection hi with hi
   rw [← hi]
   exact e_zero Q hQ n y _ (by have:=blk_kid (List.mem_of_getElem? hy);omega) (h2 _ _ hy)
  ·unfold eS at hx
   obtain⟨b,hb,rfl⟩:=List.mem_map.1 hx
   obtain⟨hf,hk⟩:=h3 b hb
   cases hst:stayB o bd b.1
   ·exact b_gone hf hst
   ·refine b_none hf hst (firstE_zero.2 fun x hx=>?_)
    unfold eBk at hx
    obtain⟨y,hy,rfl⟩:=List.mem_map.1 hx
    exact e_zero Q hQ n y _ (by have:=blk_sub hb hy;omega) (hk y hy)
theorem rowP_sd {i:Nat} (hi:i<24) (bd:Nat) (r:List C):rowP (sd (i:Int)) bd r=liftFF r ((i+bd:Nat):Int) 1:=by
 unfold rowP sd
 rw [if_neg (by show ¬ (1:Int)=0;decide)]
 have e:min (i:Int) 24+(bd:Int)=((i+bd:Nat):Int):=by omega
 show liftFF r (min (i:Int) 24+(bd:Int)) 1=_
 rw [e]
theorem er_parts {s:Sf} {t:Tm} {bv bd:Nat} (h:erT s t bv bd=0):(rowP s bd t.r).2=0∧(∀ k x,t.kids[k]? = some x→erT s x (bv+bvK t.kind k) (bd+bdK t.kind k)=0)∧∀ b∈t.sys,(rowP s bd b.1).2=0∧∀ x∈b.2,erT s x bv (bd+moreK t.kind)=0:=by
 rw [er_eq] at h
 have hz:=firstE_zero.1 h
 refine⟨hz _ (by simp),fun k x hx=>?_,fun b hb=>?_⟩
 ·exact hz _ (by
   refine List.mem_cons_of_mem _ (List.mem_cons_of_mem _ (List.mem_append_left _ ?_))
   exact List.mem_of_getElem? (erK_get hx))
 ·have hB:=hz (erB s t.kind b bv bd) (List.mem_cons_of_mem _ (List.mem_cons_of_mem _ (List.mem_append_right _ (List.mem_map_of_mem hb))))
  unfold erB at hB
  have hz2:=firstE_zero.1 hB
  exact⟨hz2 _ (by simp),fun x hx=>hz2 _ (List.mem_cons_of_mem _ (List.mem_map_of_mem hx))⟩
theorem ne_li {i:Nat} (hi:i<24):∀ (n:Nat) (t:Tm) (bv bd:Nat),blk t≤n→neT t→erT (sd (i:Int)) t bv bd=0→neT (liT (sd (i:Int)) t bv bd)
 | 0,t,bv,bd,hn,_,_=>by have:=blk_pos t;omega
 | n+1,t,bv,bd,hn,hne,he=>by
  rw [ne_eq] at hne
  obtain⟨h1,h2,h3⟩:=er_parts he
  rw [li_eq,ne_eq]
  refine⟨fun x hx=>?_,fun b hb=>?_⟩
  ·obtain⟨k,hk⟩:=List.mem_iff_getElem?.1 (show x∈liK (sd (i:Int)) t.kind t.kids bv bd from hx)
   obtain⟨y,hy⟩:=someL (l:=t.kids) (k:=k) (by rw [← liK_len (sd (i:Int)) t.kind t.kids bv bd];exact some_lt hk)
   rw [liK_get hy] at hk
   injection hk with hk
   rw [← hk]
   exact ne_li hi n y _ _ (by have:=blk_kid (List.mem_of_getElem? hy);omega) (hne.1 y (List.mem_of_getElem? hy)) (h2 k y hy)
  ·obtain⟨b',hb',rfl⟩:=List.mem_map.1 (show b∈t.sys.map fun b=>liB (sd (i:Int)) t.kind b bv bd from hb)
   obtain⟨g1,g2⟩:=h3 b' hb'
   obtain⟨m1,m2⟩:=hne.2 b' hb'
   refine⟨?_,fun x hx=>?_⟩
   ·show (rowP (sd (i:Int)) bd b'.1).1≠[]
    rw [rowP_sd hi] at g1 ⊢
    rw [(lift_row g1).1]
    intro e
    exact m1 (List.map_eq_nil_iff.1 e)
   ·obtain⟨y,hy,rfl⟩:=List.mem_map.1 (show x∈b'.2.map fun x=>liT (sd (i:Int)) x bv (bd+moreK t.kind) from hx)
    exact ne_li hi n y _ _ (by have:=blk_sub hb' hy;omega) (m2 y hy) (g2 y hy)
theorem numV_sd2 (i:Int) (bv:Nat) (k n:Int):numV (sd i) bv k n=n:=by
 unfold numV sd
 split <;> simp
theorem drop_li {i:Nat} (hi:i<24):∀ (n:Nat) (t:Tm) (bv bd:Nat),blk t≤n→neT t→erT (sd (i:Int)) t bv bd=0→dT (dropOp (i:Int)) (liT (sd (i:Int)) t bv bd) bd=t
 | 0,t,bv,bd,hn,_,_=>by have:=blk_pos t;omega
 | n+1,t,bv,bd,hn,hne,he=>by
  rw [ne_eq] at hne
  obtain⟨h1,h2,h3⟩:=er_parts he
  have row:∀ r:List C,(rowP (sd (i:Int)) bd r).2=0→dropRow (i:Int) (rowP (sd (i:Int)) bd r).1 bd=(r,0):=fun r h=>by
   rw [rowP_sd hi] at h ⊢
   unfold dropRow
   have e:((i:Int) + (bd:Int))=((i+bd:Nat):Int):=by omega
   rw [e,drop_row h]
  have e1:(ownP (dropOp (i:Int)) t.kind (rowP (sd (i:Int)) bd t.r).1 bd).1=t.r:=by
   unfold ownP
   have:∀ k:Prop,∀ [Decidable k],(if k then (dropOp (i:Int)).fc (rowP (sd (i:Int)) bd t.r).1 bd else (dropOp (i:Int)).fn (rowP (sd (i:Int)) bd t.r).1 bd)=dropRow (i:Int) (rowP (sd (i:Int)) bd t.r).1 bd:=fun k _=>by split <;> rfl
   rw [this,row _ h1]
  have e2:dK (dropOp (i:Int)) t.kind (liK (sd (i:Int)) t.kind t.kids bv bd) bd=t.kids:=by
   refine List.ext_getElem? fun k=>?_
   cases hx:t.kids[k]? with
   | none=>rw [List.getElem?_eq_none_iff] at hx ⊢; rw [dK_len,liK_len];exact hx
   | some x=>rw [dK_get (liK_get hx),drop_li hi n x _ _ (by have:=blk_kid (List.mem_of_getElem? hx);omega) (hne.1 x (List.mem_of_getElem? hx)) (h2 k x hx)]
  have e3:dS (dropOp (i:Int)) t.kind (t.sys.map fun b=>liB (sd (i:Int)) t.kind b bv bd) bd=t.sys:=by
   unfold dS
   have fc:∀ b∈t.sys,(dropOp (i:Int)).fc (liB (sd (i:Int)) t.kind b bv bd).1 bd=(b.1,0):=fun b hb=>row _ (h3 b hb).1
   rw [List.filter_eq_self.2 (fun b hb=>by
    obtain⟨b',hb',rfl⟩:=List.mem_map.1 hb
    unfold stayB
    rw [fc b' hb']
    have:=(hne.2 b' hb').1
    cases hb1:b'.1 with
    | nil=>exact absurd hb1 this
    | cons _ _=>rfl),List.map_map]
   conv=>rhs;rw [← List.map_id t.sys]
   refine List.map_congr_left fun b hb=>?_
   show dB (dropOp (i:Int)) t.kind (liB (sd (i:Int)) t.kind b bv bd) bd=b
   unfold dB
   rw [fc b hb]
   refine Prod.ext rfl ?_
   show ((b.2.map fun x=>liT (sd (i:Int)) x bv (bd+moreK t.kind)).map fun x=>dT (dropOp (i:Int)) x (bd+moreK t.kind))=b.2
   rw [List.map_map]
   conv=>rhs;rw [← List.map_id b.2]
   exact List.map_congr_left fun x hx=>drop_li hi n x _ _ (by have:=blk_sub hb hx;omega) ((hne.2 b hb).2 x hx) ((h3 b hb).2 x hx)
  rw [li_eq,d_eq]
  show Tm.mk t.kind (numV (sd (i:Int)) bv t.kind t.n) t.name (ownP (dropOp (i:Int)) t.kind (rowP (sd (i:Int)) bd t.r).1 bd).1 (dK (dropOp (i:Int)) t.kind (liK (sd (i:Int)) t.kind t.kids bv bd) bd) (dS (dropOp (i:Int)) t.kind (t.sys.map fun b=>liB (sd (i:Int)) t.kind b bv bd) bd)=t
  rw [e1,e2,e3,numV_sd2]
  cases t;rfl
theorem e_drop {i:Int} (t:Tm):eT (dropOp i) t 0=0:=by
 refine e_zero (fun _ _=>True) (fun t bd _=>⟨?_,fun _ _ _=>trivial,fun _ _=>⟨rfl,fun _ _=>trivial⟩⟩) _ t 0 (Nat.le_refl _) trivial
 unfold ownP
 split <;> rfl
theorem lift_bitsN {s j m:Nat} (h:liftE s (j:Int) (m:Int)=0) (hs:s<16777216) (k:Nat):(liftN s (j:Int) (m:Int)).testBit k=if k<j then s.testBit k else if k<j+m then false else s.testBit (k - m):=by
 have ha:argB (j:Int) (m:Int)=false:=argB_no (by omega) (by omega)
 have hb:liftBad (j:Int) (m:Int) (dimsOf s)=false:=by cases hb:liftBad (j:Int) (m:Int) (dimsOf s) with | false=>rfl | true=>rw [(lift_bad ha hb).2] at h;cases h
 have h24:∀ d,s.testBit d=true→d<24:=fun d hd=>bit_lt24 hs hd
 rw [(lift_ok ha hb).1,testBit_orAll,Bool.eq_iff_iff,decide_eq_true_iff,List.mem_map]
 constructor
 ·rintro⟨d,hd,e⟩
  rw [mem_dimsOf] at hd
  unfold upK at e
  split at e
  ·subst e;rw [if_pos (by omega)];exact hd.2
  ·have e:d+m=k:=by simpa using e
   subst e
   rw [if_neg (by omega),if_neg (by omega),Nat.add_sub_cancel];exact hd.2
 ·intro hk
  split at hk
  ·exact⟨k,by rw [mem_dimsOf];exact⟨h24 k hk,hk⟩,by unfold upK;rw [if_pos (by omega)]⟩
  ·split at hk
   ·cases hk
   ·exact⟨k - m,by rw [mem_dimsOf];exact⟨h24 _ hk,hk⟩,by unfold upK;rw [if_neg (by omega)];show k - m+(m:Int).toNat=k;omega⟩
theorem liftCN_ok {c:C} {fr by_:Int} (h:liftCE c fr by_=0):rightC c=true∧liftE c.1.val fr by_=0∧liftE c.2.val fr by_=0:=by
 unfold liftCE at h
 split at h
 ·split at h
  ·exact⟨‹_›,‹_›,h⟩
  ·exact absurd h ‹_›
 ·cases h
theorem liftC_bits {c:C} {j m:Nat} (h:liftCE c (j:Int) (m:Int)=0) (k:Nat) :
  (liftC c (j:Int) (m:Int)).1.val.testBit k=(if k<j then c.1.val.testBit k else if k<j+m then false else c.1.val.testBit (k - m)) ∧
  (liftC c (j:Int) (m:Int)).2.val.testBit k=(if k<j then c.2.val.testBit k else if k<j+m then false else c.2.val.testBit (k - m)):=by
 obtain⟨h0,h1,h2⟩:=liftCN_ok h
 obtain⟨l1,l2⟩:=right_lts h0
 unfold liftC
 rw [if_pos ⟨h0,h1,h2⟩]
 exact⟨lift_bitsN h1 l1 k,lift_bitsN h2 l2 k⟩
theorem liftS_mapN {fr by_:Int} (l:List C):(liftS l fr by_).2=0→(liftS l fr by_).1=l.map (fun c=>liftC c fr by_)∧∀ c∈l,liftCE c fr by_=0:=by
 induction l using snoc_ind with
 | nil=>intro _;exact⟨rfl,fun c hc=>by cases hc⟩
 | snoc l c ih =>
  intro h
  rw [liftS_snoc] at h ⊢
  unfold stepL at h ⊢
  by_cases h0:(liftS l fr by_).2=0
  ·rw [if_pos h0] at h ⊢
   by_cases h1:liftCE c fr by_=0
   ·rw [if_pos h1]
    obtain⟨e,hall⟩:=ih h0
    refine⟨by rw [List.map_append,← e];rfl,fun d hd=>?_⟩
    rcases List.mem_append.1 hd with hd|hd
    ·exact hall d hd
    ·rw [List.mem_singleton.1 hd];exact h1
   ·rw [if_neg h1] at h;exact absurd h h1
  ·rw [if_neg h0] at h;exact absurd h h0
theorem liftS_all {fr by_:Int} (l:List C):(∀ c∈l,liftCE c fr by_=0)→(liftS l fr by_).2=0:=by
 induction l using snoc_ind with
 | nil=>intro _;rfl
 | snoc l c ih =>
  intro h
  have h0:=ih (fun d hd=>h d (List.mem_append_left _ hd))
  have h1:=h c (by simp)
  rw [liftS_snoc]
  unfold stepL
  rw [if_pos h0,if_pos h1]
theorem liftFF_facts {f:List C} {fr by_:Int} (h:(liftFF f fr by_).2=0) :
  rightF f=true∧(∀ c∈f,liftCE c fr by_=0)∧(∀ x∈(liftFF f fr by_).1,∃ c∈f,x=liftC c fr by_)∧(∀ c∈f,∃ x∈(liftFF f fr by_).1,belC (liftC c fr by_) x=true)∧rightF (liftFF f fr by_).1=true:=by
 unfold liftFF at h ⊢
 by_cases hr:rightF f=true
 ·rw [if_pos hr] at h ⊢
  by_cases h0:(liftS f fr by_).2=0
  ·rw [if_pos h0] at h ⊢
   obtain⟨e,hall⟩:=liftS_mapN f h0
   refine⟨hr,hall,fun x hx=>?_,fun c hc=>?_,leastF_right _⟩
   ·have:=leastF_sub x hx
    rw [e] at this
    obtain⟨c,hc,rfl⟩:=List.mem_map.1 this
    exact⟨c,hc,rfl⟩
   ·exact (leastF_dn h _).2 ⟨_,by rw [e];exact List.mem_map_of_mem hc,belC_refl _⟩
  ·rw [if_neg h0] at h;exact absurd h h0
 ·rw [if_neg hr] at h;cases h
theorem badK_less {j:Nat} {k:Nat} (h:badK (j:Int) 2 k=false):badK (j:Int) 1 k=false:=by
 unfold badK at h ⊢
 simp only [Bool.and_eq_false_iff,decide_eq_false_iff_not] at h ⊢
 omega
theorem liftE_less {s j:Nat} (h:liftE s (j:Int) 2=0):liftE s (j:Int) 1=0:=by
 have ha:argB (j:Int) 2=false:=argB_no (by omega) (by omega)
 have ha1:argB (j:Int) 1=false:=argB_no (by omega) (by omega)
 have hb:liftBad (j:Int) 2 (dimsOf s)=false:=by cases hb:liftBad (j:Int) 2 (dimsOf s) with | false=>rfl | true=>rw [(lift_bad ha hb).2] at h;cases h
 refine (lift_ok ha1 ?_).2
 unfold liftBad at hb ⊢
 rw [List.any_eq_false] at hb ⊢
 intro k hk
 have:=hb k hk
 rw [Bool.not_eq_true] at this ⊢
 exact badK_less this
theorem liftCE_less {c:C} {j:Nat} (h:liftCE c (j:Int) 2=0):liftCE c (j:Int) 1=0:=by
 obtain⟨h0,h1,h2⟩:=liftCN_ok h
 unfold liftCE
 rw [if_pos h0,if_pos (liftE_less h1)]
 exact liftE_less h2
theorem liftFF_less {f:List C} {j:Nat} (h:(liftFF f (j:Int) 2).2=0):(liftFF f (j:Int) 1).2=0:=by
 obtain⟨hr,hall,_⟩:=liftFF_facts h
 have h1:∀ c∈f,liftCE c (j:Int) 1=0:=fun c hc=>liftCE_less (hall c hc)
 have h0:=liftS_all f h1
 unfold liftFF
 rw [if_pos hr,if_pos h0]
 obtain⟨e,_⟩:=liftS_mapN f h0
 rw [e]
 refine least_small (all_mem fun x hx=>?_) (by rw [List.length_map];exact rightF_len hr)
 obtain⟨c,hc,rfl⟩:=List.mem_map.1 hx
 exact rightC_lift c _ _
theorem right_bit {c:C} (h:rightC c=true) {k:Nat}:(c.1.val.testBit k=true→k<24)∧(c.2.val.testBit k=true→k<24) :=
 ⟨fun hb=>bit_lt24 (rightC_iff.1 h).1 hb,fun hb=>bit_lt24 (rightC_iff.1 h).2 hb⟩
theorem bel_bits {a b:C} (hb:rightC b=true) (h:belC a b=true) (k:Nat):(b.1.val.testBit k=true→a.1.val.testBit k=true)∧(b.2.val.testBit k=true→a.2.val.testBit k=true) :=
 ⟨fun q=>(belC_iff.1 h).1 k ((right_bit hb).1 q) q,fun q=>(belC_iff.1 h).2 k ((right_bit hb).2 q) q⟩
theorem bits_bel {a b:C} (h:∀ k,(b.1.val.testBit k=true→a.1.val.testBit k=true)∧(b.2.val.testBit k=true→a.2.val.testBit k=true)):belC a b=true :=
 belC_iff.2 ⟨fun k _ q=>(h k).1 q,fun k _ q=>(h k).2 q⟩
theorem drC_bits {c:C} {j:Nat} (hj:j<24) (h:rightC c=true) (k:Nat):(drC (j:Int) c).1.val.testBit k=(if k<j then c.1.val.testBit k else c.1.val.testBit (k+1))∧(drC (j:Int) c).2.val.testBit k=(if k<j then c.2.val.testBit k else c.2.val.testBit (k+1)):=by
 obtain⟨l1,l2⟩:=right_lts h
 exact⟨drop_bits hj l1 k,drop_bits hj l2 k⟩
theorem mem_right {f:List C} (h:rightF f=true) {c:C} (hc:c∈f):rightC c=true:=List.all_eq_true.1 (rightF_all h) c hc
structure Pts (l P:List C) (i a b:Nat):Prop where
 right:∀ p∈P,rightC p=true
 dn1:∀ p∈P,∃ c∈l,(∀ k,k≠i→(c.1.val.testBit k=true→p.1.val.testBit k=true)∧(c.2.val.testBit k=true→p.2.val.testBit k=true))∧(c.1.val.testBit i=true→p.1.val.testBit a=true∧p.1.val.testBit b=true)∧(c.2.val.testBit i=true→p.2.val.testBit a=true∨p.2.val.testBit b=true)
 up1:∀ c∈l,∃ p∈P,(∀ k,p.1.val.testBit k=true→(k≠i∧c.1.val.testBit k=true)∨(c.1.val.testBit i=true∧(k=a∨k=b)))∧(∀ k,p.2.val.testBit k=true→(k≠i∧c.2.val.testBit k=true)∨(c.2.val.testBit i=true∧k=a))
structure Ones (P Q:List C) (k:Nat):Prop where
 dn1:∀ q∈Q,∃ p∈P,p.2.val.testBit k=false∧∀ m,m≠k→(p.1.val.testBit m=true→q.1.val.testBit m=true)∧(p.2.val.testBit m=true→q.2.val.testBit m=true)
 up1:∀ p∈P,p.2.val.testBit k=false→∃ q∈Q,∀ m,(q.1.val.testBit m=true→m≠k∧p.1.val.testBit m=true)∧(q.2.val.testBit m=true→m≠k∧p.2.val.testBit m=true)
theorem row_chain {f P Q:List C} {d:Nat} (hd:d<24) (hl:(liftFF f ((d+1:Nat):Int) 2).2=0) (hP:Pts (liftFF f ((d+1:Nat):Int) 2).1 P d (d+1) (d+2)) (hQ:Ones (P.map (drC (d:Int))) Q (d+1)) (hQr:rightF Q=true) :
  (liftFF f ((d+1:Nat):Int) 1).2=0∧Q=(liftFF f ((d+1:Nat):Int) 1).1:=by
 have hl1:=liftFF_less hl
 obtain⟨hr,hall,m1,m2,_⟩:=liftFF_facts hl
 obtain⟨_,hall1,n1,n2,hR1⟩:=liftFF_facts hl1
 refine⟨hl1,rightF_ext hQr hR1 fun y _=>⟨fun ⟨q,hq,hy⟩=>?_,fun ⟨x,hx,hy⟩=>?_⟩⟩
 ·obtain⟨p',hp',g1,g2⟩:=hQ.dn1 q hq
  obtain⟨p,hp,rfl⟩:=List.mem_map.1 hp'
  have hpr:=hP.right p hp
  obtain⟨c,hc,a1,a2,a3⟩:=hP.dn1 p hp
  obtain⟨c0,hc0,rfl⟩:=m1 c hc
  have hb2:=liftC_bits (m:=2) (hall c0 hc0)
  have hb1:=liftC_bits (m:=1) (hall1 c0 hc0)
  obtain⟨z,hz,hbz⟩:=n2 c0 hc0
  refine⟨z,hz,belC_trans hy (belC_trans (bits_bel fun k=>?_) hbz)⟩
  have dP:=drC_bits hd hpr
  have e1:=hb1 k
  rw [(dP (d+1)).2,if_neg (by omega)] at g1
  constructor
  ·intro hk
   rw [show ((1:Nat):Int)=1 from rfl] at e1
   rw [e1.1] at hk
   split at hk
   ·rename_i hkd
    refine (g2 k (by omega)).1 ?_
    rw [(dP k).1]
    split
    ·refine (a1 k (by omega)).1 ?_
     have:=(hb2 k).1
     rw [if_pos hkd] at this
     exact this.trans hk
    ·obtain rfl:k=d:=by omega
     refine (a2 ?_).1
     have:=(hb2 k).1
     rw [if_pos hkd] at this
     exact this.trans hk
   ·split at hk
    ·cases hk
    ·rename_i h1 h2
     refine (g2 k (by omega)).1 ?_
     rw [(dP k).1,if_neg (by omega)]
     refine (a1 (k+1) (by omega)).1 ?_
     have:=(hb2 (k+1)).1
     rw [if_neg (by omega),if_neg (by omega)] at this
     exact this.trans hk
  ·intro hk
   rw [show ((1:Nat):Int)=1 from rfl] at e1
   rw [e1.2] at hk
   split at hk
   ·rename_i hkd
    refine (g2 k (by omega)).2 ?_
    rw [(dP k).2]
    split
    ·refine (a1 k (by omega)).2 ?_
     have:=(hb2 k).2
     rw [if_pos hkd] at this
     exact this.trans hk
    ·obtain rfl:k=d:=by omega
     have h3:=a3 (by
      have:=(hb2 k).2
      rw [if_pos hkd] at this
      exact this.trans hk)
     rcases h3 with h3|h3
     ·exact h3
     ·rw [show k+1+1=k+2 from rfl,h3] at g1;cases g1
   ·split at hk
    ·cases hk
    ·rename_i h1 h2
     refine (g2 k (by omega)).2 ?_
     rw [(dP k).2,if_neg (by omega)]
     refine (a1 (k+1) (by omega)).2 ?_
     have:=(hb2 (k+1)).2
     rw [if_neg (by omega),if_neg (by omega)] at this
     exact this.trans hk
 ·obtain⟨c0,hc0,rfl⟩:=n1 x hx
  obtain⟨c,hc,hcb⟩:=m2 c0 hc0
  have hcr:rightC c=true:=by
   obtain⟨c1,_,rfl⟩:=m1 c hc
   exact rightC_lift _ _ _
  have cb:=bel_bits hcr hcb
  have hb2:=liftC_bits (m:=2) (hall c0 hc0)
  have hb1:=liftC_bits (m:=1) (hall1 c0 hc0)
  rw [show ((1:Nat):Int)=1 from rfl] at hb1
  obtain⟨p,hp,u1,u2⟩:=hP.up1 c hc
  have hpr:=hP.right p hp
  have dP:=drC_bits hd hpr
  have no2:p.2.val.testBit (d+2)=false:=by
   cases h:p.2.val.testBit (d+2)
   ·rfl
   ·exfalso
    rcases u2 _ h with ⟨_,h1⟩|⟨_,h1⟩
    ·have:=(cb _).2 h1
     rw [show (2:Int)=((2:Nat):Int) from rfl,(hb2 (d+2)).2,if_neg (by omega),if_pos (by omega)] at this
     cases this
    ·omega
  obtain⟨q,hq,w⟩:=hQ.up1 _ (List.mem_map_of_mem hp) (by rw [(dP (d+1)).2,if_neg (by omega)];exact no2)
  refine⟨q,hq,belC_trans hy (bits_bel fun k=>⟨fun hk=>?_,fun hk=>?_⟩)⟩
  ·obtain⟨k1,k2⟩:=(w k).1 hk
   rw [(dP k).1] at k2
   rw [(hb1 k).1]
   split at k2
   ·rename_i hkd
    rw [if_pos (by omega)]
    rcases u1 _ k2 with ⟨_,h1⟩|⟨_,h1⟩
    ·have:=(cb _).1 h1
     rw [show (2:Int)=((2:Nat):Int) from rfl,(hb2 k).1,if_pos (by omega)] at this
     exact this
    ·omega
   ·rename_i hkd
    by_cases hkd2:k=d
    ·subst hkd2
     rw [if_pos (by omega)]
     rcases u1 _ k2 with ⟨_,h1⟩|⟨h1,_⟩
     ·have:=(cb _).1 h1
      rw [show (2:Int)=((2:Nat):Int) from rfl,(hb2 _).1,if_neg (by omega),if_pos (by omega)] at this
      cases this
     ·have:=(cb _).1 h1
      rw [show (2:Int)=((2:Nat):Int) from rfl,(hb2 _).1,if_pos (by omega)] at this
      exact this
    ·rw [if_neg (by omega),if_neg (by omega)]
     rcases u1 _ k2 with ⟨_,h1⟩|⟨_,h1⟩
     ·have:=(cb _).1 h1
      rw [show (2:Int)=((2:Nat):Int) from rfl,(hb2 _).1,if_neg (by omega),if_neg (by omega)] at this
      exact this
     ·omega
  ·obtain⟨k1,k2⟩:=(w k).2 hk
   rw [(dP k).2] at k2
   rw [(hb1 k).2]
   split at k2
   ·rename_i hkd
    rw [if_pos (by omega)]
    rcases u2 _ k2 with ⟨_,h1⟩|⟨_,h1⟩
    ·have:=(cb _).2 h1
     rw [show (2:Int)=((2:Nat):Int) from rfl,(hb2 k).2,if_pos (by omega)] at this
     exact this
    ·omega
   ·rename_i hkd
    by_cases hkd2:k=d
    ·subst hkd2
     rw [if_pos (by omega)]
     rcases u2 _ k2 with ⟨_,h1⟩|⟨h1,_⟩
     ·have:=(cb _).2 h1
      rw [show (2:Int)=((2:Nat):Int) from rfl,(hb2 _).2,if_neg (by omega),if_pos (by omega)] at this
      cases this
     ·have:=(cb _).2 h1
      rw [show (2:Int)=((2:Nat):Int) from rfl,(hb2 _).2,if_pos (by omega)] at this
      exact this
    ·rw [if_neg (by omega),if_neg (by omega)]
     rcases u2 _ k2 with ⟨_,h1⟩|⟨_,h1⟩
     ·have:=(cb _).2 h1
      rw [show (2:Int)=((2:Nat):Int) from rfl,(hb2 _).2,if_neg (by omega),if_neg (by omega)] at this
      exact this
     ·omega
end Go.Proofs.YtmblbmdchinflaaGreat
