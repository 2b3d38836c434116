/- A part of the proof. -/
import Derived.Test.YtblbhmnahoiecaaGreatHG29
import Derived.Test.YtblbhmnahoiecaaGreatHYDmT
set_option linter.unusedVariables false
set_option linter.unusedSimpArgs false
namespace Go.Proofs.YtblbhmnahoiecaaGreat
open Go.RowKit
structure LEnv (w:World) (s:Sf) (xs xl:Nat):Prop where
 sc:w.heap[xs]? = some (.cells #[.int .i64 s.vf,.int .i64 s.vb,.int .i64 s.df,.int .i64 s.db] 166 (0,0))
 lf:w.heap[xl]? = some (.cells #[.func (.func 215) #[] #[.pointer (some ⟨xs,0,none⟩),.pointer (some ⟨xl,0,none⟩)]] 192 (0,0))
theorem LEnv.blw {w w':World} {s:Sf} {xs xl:Nat} (h:LEnv w s xs xl) (hb:Below w.heap.size w w'):LEnv w' s xs xl :=
 ⟨(hb.block xs (Array.getElem?_eq_some_iff.1 h.sc).1).trans h.sc,(hb.block xl (Array.getElem?_eq_some_iff.1 h.lf).1).trans h.lf⟩
theorem LEnv.fn {w:World} {s:Sf} {xs xl:Nat} (h:LEnv w s xs xl):w.cell? ⟨xl,0,none⟩=some (.func (.func 215) #[] #[.pointer (some ⟨xs,0,none⟩),.pointer (some ⟨xl,0,none⟩)]):=by simp [World.cell?,h.lf]
theorem LEnv.cs {w:World} {s:Sf} {xs xl:Nat} (h:LEnv w s xs xl):w.cell? ⟨xs,0,none⟩=some (.int .i64 s.vf)/\w.cell? ⟨xs,1,none⟩=some (.int .i64 s.vb)/\w.cell? ⟨xs,2,none⟩=some (.int .i64 s.df)/\w.cell? ⟨xs,3,none⟩=some (.int .i64 s.db):=by
 refine⟨?_,?_,?_,?_⟩ <;> simp [World.cell?,h.sc]
def Bnd (w:World) (x bv bd:Nat):Prop:=w.heap[x]? = some (.cells #[.int .i64 (bv:Int),.int .i64 (bd:Int)] 194 (0,0))
theorem Bnd.blw {w w':World} {x bv bd:Nat} (h:Bnd w x bv bd) (hb:Below w.heap.size w w'):Bnd w' x bv bd:=(hb.block x (Array.getElem?_eq_some_iff.1 h).1).trans h
theorem Bnd.cs {w:World} {x bv bd:Nat} (h:Bnd w x bv bd):w.cell? ⟨x,0,none⟩=some (.int .i64 (bv:Int))/\w.cell? ⟨x,1,none⟩=some (.int .i64 (bd:Int)):=by
 unfold Bnd at h;refine⟨?_,?_⟩ <;> simp [World.cell?,h]
def sv (p:Int):Sf:=⟨p,1,0,0⟩
def sd (p:Int):Sf:=⟨0,0,p,1⟩
theorem rightC_lift (c:C) (fr by_:Int):rightC (liftC c fr by_)=true:=by
 unfold liftC
 split
 ·have h1:=liftN_lt c.1.val fr by_
  have h2:=liftN_lt c.2.val fr by_
  exact rightC_iff.2 ⟨h1,h2⟩
 ·decide
theorem ok_row {o:Bool} {V:Int} {D:Nat} {t:Tm} {bv bd:Nat} (h:okT o V D t bv bd=true):rightF t.r=true:=by
 rw [ok_eq,Bool.and_eq_true] at h
 have h1:=h.1
 unfold Tm.node nodeB at h1
 simp only [Bool.and_eq_true] at h1
 have h2:=h1.1.2
 unfold rowB at h2
 split at h2
 ·simp only [Bool.and_eq_true] at h2;exact h2.1
 ·split at h2
  ·simp only [Bool.and_eq_true] at h2;exact rightA_right h2.1
  ·have h3:t.r=[]:=List.length_eq_zero_iff.1 (by simpa using h2)
   rw [h3];exact rightF_nil
theorem ok_face {o:Bool} {V:Int} {D:Nat} {t:Tm} {bv bd:Nat} {b:List C × List Tm} (h:okT o V D t bv bd=true) (hb:b∈t.sys):rightA b.1=true:=by
 rw [ok_eq,Bool.and_eq_true] at h
 have h1:=h.1
 unfold Tm.node nodeB at h1
 simp only [Bool.and_eq_true] at h1
 have h2:=List.all_eq_true.1 h1.2 (b.1,b.2.length) (List.mem_map.2 ⟨b,hb,rfl⟩)
 unfold brB at h2
 simp only [Bool.and_eq_true] at h2
 exact h2.1.2
theorem e_zero {o:DOp} (Q:Tm->Nat->Prop) (hQ:∀ t bd,Q t bd->(ownP o t.kind t.r bd).2=0/\(∀ k x,t.kids[k]? = some x->Q x (bd+bdK t.kind k))/\∀ b∈t.sys,(o.fc b.1 bd).2=0/\∀ x∈b.2,Q x (bd+moreK t.kind)):∀ (n:Nat) (t:Tm) (bd:Nat),blk t<=n->Q t bd->eT o t bd=0
 | 0,t,bd,hn,_=>by have:=blk_pos t;omega
 | n+1,t,bd,hn,h=>by
  obtain⟨h1,h2,h3⟩:=hQ t bd h
  refine e_none h1 (firstE_zero.2 fun x hx=>?_) (firstE_zero.2 fun x hx=>?_)
  ·obtain⟨i,hi⟩:=List.mem_iff_getElem?.1 hx
   obtain⟨y,hy⟩:=someL (l:=t.kids) (k:=i) (by rw [<- eK_len o t.kind t.kids bd];exact some_lt hi)
   rw [eK_get hy] at hi
   injection hi with hi
   rw [<- hi]
   exact e_zero Q hQ n y _ (by have:=blk_kid (List.mem_of_getElem? hy);omega) (h2 _ _ hy)
  ·unfold eS at hx
   obtain⟨b,hb,rfl⟩:=List.mem_map.1 hx
   obtain⟨hf,hk⟩:=h3 b hb
   cases hst:stayB o bd b.1
   ·exact b_gone hf hst
   ·refine b_none hf hst (firstE_zero.2 fun x hx=>?_)
    unfold eBk at hx
    obtain⟨y,hy,rfl⟩:=List.mem_map.1 hx
    exact e_zero Q hQ n y _ (by have:=blk_sub hb hy;omega) (hk y hy)
theorem lift_bitsN {s j m:Nat} (h:liftE s (j:Int) (m:Int)=0) (hs:s<16777216) (k:Nat):(liftN s (j:Int) (m:Int)).testBit k=if k<j then s.testBit k else if k<j+m then false else s.testBit (k - m):=by
 have ha:argB (j:Int) (m:Int)=false:=argB_no (by omega) (by omega)
 have hb:liftBad (j:Int) (m:Int) (dimsOf s)=false:=by cases hb:liftBad (j:Int) (m:Int) (dimsOf s) with | false=>rfl | true=>rw [(lift_bad ha hb).2] at h;cases h
 have h24:∀ d,s.testBit d=true->d<24:=fun d hd=>bit_lt24 hs hd
 rw [(lift_ok ha hb).1,testBit_orAll,Bool.eq_iff_iff,decide_eq_true_iff,List.mem_map]
 constructor
 ·rintro⟨d,hd,e⟩
  rw [mem_dimsOf] at hd
  unfold upK at e
  split at e
  ·subst e;rw [if_pos (by omega)];exact hd.2
  ·have e:d+m=k:=by simpa using e
   subst e
   rw [if_neg (by omega),if_neg (by omega),Nat.add_sub_cancel];exact hd.2
 ·intro hk
  split at hk
  ·exact⟨k,by rw [mem_dimsOf];exact⟨h24 k hk,hk⟩,by unfold upK;rw [if_pos (by omega)]⟩
  ·split at hk
   ·cases hk
   ·exact⟨k - m,by rw [mem_dimsOf];exact⟨h24 _ hk,hk⟩,by unfold upK;rw [if_neg (by omega)];show k - m+(m:Int).toNat=k;omega⟩
theorem liftCN_ok {c:C} {fr by_:Int} (h:liftCE c fr by_=0):rightC c=true/\liftE c.1.val fr by_=0/\liftE c.2.val fr by_=0:=by
 unfold liftCE at h
 split at h
 ·split at h
  ·exact⟨‹_›,‹_›,h⟩
  ·exact absurd h ‹_›
 ·cases h
theorem liftC_bits {c:C} {j m:Nat} (h:liftCE c (j:Int) (m:Int)=0) (k:Nat) :
  (liftC c (j:Int) (m:Int)).1.val.testBit k=(if k<j then c.1.val.testBit k else if k<j+m then false else c.1.val.testBit (k - m)) /\
  (liftC c (j:Int) (m:Int)).2.val.testBit k=(if k<j then c.2.val.testBit k else if k<j+m then false else c.2.val.testBit (k - m)):=by
 obtain⟨h0,h1,h2⟩:=liftCN_ok h
 obtain⟨l1,l2⟩:=right_lts h0
 unfold liftC
 rw [if_pos ⟨h0,h1,h2⟩]
 exact⟨lift_bitsN h1 l1 k,lift_bitsN h2 l2 k⟩
theorem liftS_mapN {fr by_:Int} (l:List C):(liftS l fr by_).2=0->(liftS l fr by_).1=l.map (fun c=>liftC c fr by_)/\∀ c∈l,liftCE c fr by_=0:=by
 induction l using snoc_ind with
 | nil=>intro _;exact⟨rfl,fun c hc=>by cases hc⟩
 | snoc l c ih =>
  intro h
  rw [liftS_snoc] at h ⊢
  unfold stepL at h ⊢
  by_cases h0:(liftS l fr by_).2=0
  ·rw [if_pos h0] at h ⊢
   by_cases h1:liftCE c fr by_=0
   ·rw [if_pos h1]
    obtain⟨e,hall⟩:=ih h0
    refine⟨by rw [List.map_append,<- e];rfl,fun d hd=>?_⟩
    rcases List.mem_append.1 hd with hd|hd
    ·exact hall d hd
    ·rw [List.mem_singleton.1 hd];exact h1
   ·rw [if_neg h1] at h;exact absurd h h1
  ·rw [if_neg h0] at h;exact absurd h h0
theorem liftS_all {fr by_:Int} (l:List C):(∀ c∈l,liftCE c fr by_=0)->(liftS l fr by_).2=0:=by
 induction l using snoc_ind with
 | nil=>intro _;rfl
 | snoc l c ih =>
  intro h
  have h0:=ih (fun d hd=>h d (List.mem_append_left _ hd))
  have h1:=h c (by simp)
  rw [liftS_snoc]
  unfold stepL
  rw [if_pos h0,if_pos h1]
theorem liftFF_facts {f:List C} {fr by_:Int} (h:(liftFF f fr by_).2=0) :
  rightF f=true/\(∀ c∈f,liftCE c fr by_=0)/\(∀ x∈(liftFF f fr by_).1,∃ c∈f,x=liftC c fr by_)/\(∀ c∈f,∃ x∈(liftFF f fr by_).1,belC (liftC c fr by_) x=true)/\rightF (liftFF f fr by_).1=true:=by
 unfold liftFF at h ⊢
 by_cases hr:rightF f=true
 ·rw [if_pos hr] at h ⊢
  by_cases h0:(liftS f fr by_).2=0
  ·rw [if_pos h0] at h ⊢
   obtain⟨e,hall⟩:=liftS_mapN f h0
   refine⟨hr,hall,fun x hx=>?_,fun c hc=>?_,leastF_right _⟩
   ·have:=leastF_sub x hx
    rw [e] at this
    obtain⟨c,hc,rfl⟩:=List.mem_map.1 this
    exact⟨c,hc,rfl⟩
   ·exact (leastF_dn h _).2 ⟨_,by rw [e];exact List.mem_map_of_mem hc,belC_refl _⟩
  ·rw [if_neg h0] at h;exact absurd h h0
 ·rw [if_neg hr] at h;cases h
theorem right_bit {c:C} (h:rightC c=true) {k:Nat}:(c.1.val.testBit k=true->k<24)/\(c.2.val.testBit k=true->k<24) :=
 ⟨fun hb=>bit_lt24 (rightC_iff.1 h).1 hb,fun hb=>bit_lt24 (rightC_iff.1 h).2 hb⟩
theorem bel_bits {a b:C} (hb:rightC b=true) (h:belC a b=true) (k:Nat):(b.1.val.testBit k=true->a.1.val.testBit k=true)/\(b.2.val.testBit k=true->a.2.val.testBit k=true) :=
 ⟨fun q=>(belC_iff.1 h).1 k ((right_bit hb).1 q) q,fun q=>(belC_iff.1 h).2 k ((right_bit hb).2 q) q⟩
theorem bits_bel {a b:C} (h:∀ k,(b.1.val.testBit k=true->a.1.val.testBit k=true)/\(b.2.val.testBit k=true->a.2.val.testBit k=true)):belC a b=true :=
 belC_iff.2 ⟨fun k _ q=>(h k).1 q,fun k _ q=>(h k).2 q⟩
theorem drC_bits {c:C} {j:Nat} (hj:j<24) (h:rightC c=true) (k:Nat):(drC (j:Int) c).1.val.testBit k=(if k<j then c.1.val.testBit k else c.1.val.testBit (k+1))/\(drC (j:Int) c).2.val.testBit k=(if k<j then c.2.val.testBit k else c.2.val.testBit (k+1)):=by
 obtain⟨l1,l2⟩:=right_lts h
 exact⟨drop_bits hj l1 k,drop_bits hj l2 k⟩
theorem mem_right {f:List C} (h:rightF f=true) {c:C} (hc:c∈f):rightC c=true:=List.all_eq_true.1 (rightF_all h) c hc
def e2 (a b:Nat):C:=meetC (posB a) (posB b)
theorem bel_out {x c:C} {i:Nat} (hi:i<24) (hr:rightC c=true):belC x (outC c (i:Int))=true↔∀ k,k≠i->(c.1.val.testBit k=true->x.1.val.testBit k=true)/\(c.2.val.testBit k=true->x.2.val.testBit k=true):=by
 constructor
 ·intro h k hk
  have:=bel_bits (out_right c _) h k
  rw [(out_bits c i k hi).1,(out_bits c i k hi).2] at this
  simp only [Bool.and_eq_true,decide_eq_true_eq,Bool.not_eq_true',decide_eq_false_iff_not] at this
  exact⟨fun q=>this.1 ⟨⟨(right_bit hr).1 q,q⟩,fun e=>hk e.symm⟩,fun q=>this.2 ⟨⟨(right_bit hr).2 q,q⟩,fun e=>hk e.symm⟩⟩
 ·intro h
  refine bits_bel fun k=>?_
  rw [(out_bits c i k hi).1,(out_bits c i k hi).2]
  simp only [Bool.and_eq_true,decide_eq_true_eq,Bool.not_eq_true',decide_eq_false_iff_not]
  exact⟨fun q=>(h k (fun e=>q.2 e.symm)).1 q.1.2,fun q=>(h k (fun e=>q.2 e.symm)).2 q.1.2⟩
theorem liftE_far {s j m:Nat} (hj:24<=j):liftE s (j:Int) (m:Int)=0:=by
 have ha:argB (j:Int) (m:Int)=false:=argB_no (by omega) (by omega)
 refine (lift_ok ha ?_).2
 unfold liftBad
 rw [List.any_eq_false]
 intro k hk
 have:=(mem_dimsOf.1 hk).1
 unfold badK
 simp only [Bool.and_eq_true,decide_eq_true_eq]
 omega
theorem lift_far {l:List C} {j m:Nat} (hj:24<=j) (hl:rightF l=true):liftFF l (j:Int) (m:Int)=(l,0):=by
 have h1:∀ c∈l,liftCE c (j:Int) (m:Int)=0:=fun c hc=>by
  unfold liftCE
  rw [if_pos (mem_right hl hc),if_pos (liftE_far hj)]
  exact liftE_far hj
 have h0:=liftS_all l h1
 unfold liftFF
 rw [if_pos hl,if_pos h0,(liftS_mapN l h0).1]
 have:l.map (fun c=>liftC c (j:Int) (m:Int))=l:=by
  conv=>rhs;rw [<- List.map_id l]
  refine List.map_congr_left fun c hc=>?_
  have hb:=liftC_bits (h1 c hc)
  have hr:=fun k=>right_bit (mem_right hl hc) (k:=k)
  refine c_bits (fun k=>?_) (fun k=>?_)
  ·rw [(hb k).1]
   split
   ·rfl
   ·have h24:c.1.val.testBit k=false:=by
     cases h:c.1.val.testBit k
     ·rfl
     ·have:=(hr k).1 h;omega
    rw [id,h24]
    split
    ·rfl
    ·cases h:c.1.val.testBit (k - m)
     ·rfl
     ·exfalso
      have e:=(hb k).1
      rw [if_neg (by omega),if_neg (by omega),h] at e
      have:=(right_bit (rightC_lift c (j:Int) (m:Int))).1 e
      omega
  ·rw [(hb k).2]
   split
   ·rfl
   ·have h24:c.2.val.testBit k=false:=by
     cases h:c.2.val.testBit k
     ·rfl
     ·have:=(hr k).2 h;omega
    rw [id,h24]
    split
    ·rfl
    ·cases h:c.2.val.testBit (k - m)
     ·rfl
     ·exfalso
      have e:=(hb k).2
      rw [if_neg (by omega),if_neg (by omega),h] at e
      have:=(right_bit (rightC_lift c (j:Int) (m:Int))).2 e
      omega
 rw [this]
 exact rightF_eq hl
theorem drop_far {l:List C} {j:Nat} (hj:24<=j) (hl:rightF l=true):l.map (drC (j:Int))=l:=by
 have e:=lift_far (m:=1) hj hl
 have h:(liftFF l (j:Int) 1).2=0:=by rw [show (1:Int)=((1:Nat):Int) from rfl,e]
 have:=drop_row h
 rw [show (1:Int)=((1:Nat):Int) from rfl,e] at this
 exact this
def s2:Sf:=⟨0,0,1,2⟩
theorem top_diffD {x y:Nat}:∀ n,(∀ k,n<=k->x.testBit k=y.testBit k)->x≠y->∃ k,x.testBit k≠y.testBit k/\∀ m,k<m->x.testBit m=y.testBit m
 | 0,h,hne=>absurd (Nat.eq_of_testBit_eq fun k=>h k (Nat.zero_le _)) hne
 | n+1,h,hne=>by
  by_cases hn:x.testBit n=y.testBit n
  ·exact top_diffD n (fun k hk=>by
    rcases Nat.eq_or_lt_of_le hk with e|e
    ·rw [<- e];exact hn
    ·exact h k e) hne
  ·exact⟨n,hn,fun m hm=>h m hm⟩
theorem lt_bitsD {x y:Nat} (k:Nat) (hx:x.testBit k=false) (hy:y.testBit k=true) (h:∀ m,k<m->x.testBit m=y.testBit m):x<y:=by
 rw [Nat.testBit_eq_decide_div_mod_eq,decide_eq_false_iff_not] at hx
 rw [Nat.testBit_eq_decide_div_mod_eq,decide_eq_true_iff] at hy
 have e:x / 2 ^ k / 2=y / 2 ^ k / 2:=by
  rw [Nat.div_div_eq_div_mul,Nat.div_div_eq_div_mul,<- Nat.pow_succ]
  refine Nat.eq_of_testBit_eq fun m=>?_
  rw [Nat.testBit_div_two_pow,Nat.testBit_div_two_pow]
  exact h _ (by omega)
 rcases Nat.lt_or_ge x y with h1|h1
 ·exact h1
 ·have:=Nat.div_le_div_right (c:=2 ^ k) h1
  omega
theorem lt_topD {x y:Nat} (hx:x<16777216) (hy:y<16777216) (h:x<y):∃ k,x.testBit k=false/\y.testBit k=true/\∀ m,k<m->x.testBit m=y.testBit m:=by
 have e1:∀ z,z<16777216->∀ m,24<=m->z.testBit m=false:=fun z hz m hm=>Nat.testBit_lt_two_pow (Nat.lt_of_lt_of_le hz (Nat.pow_le_pow_right (n:=2) (by omega) hm))
 obtain⟨k,hk,hm⟩:=top_diffD 24 (fun m hm=>by rw [e1 x hx m hm,e1 y hy m hm]) (by omega:x≠y)
 cases ha:x.testBit k <;> cases hb:y.testBit k
 ·rw [ha,hb] at hk;exact absurd rfl hk
 ·exact⟨k,ha,hb,hm⟩
 ·have:=lt_bitsD k hb ha (fun m hm'=>(hm m hm').symm)
  omega
 ·rw [ha,hb] at hk;exact absurd rfl hk
theorem lift_bitsD {s j d:Nat} (h:liftE s (j:Int) (d:Int)=0) (hs:s<16777216) (k:Nat):(liftN s (j:Int) (d:Int)).testBit k=if k<j then s.testBit k else if k<j+d then false else s.testBit (k - d):=by
 have ha:argB (j:Int) (d:Int)=false:=by cases ha:argB (j:Int) (d:Int) with | false=>rfl | true=>rw [(lift_arg ha).2] at h;cases h
 have hb:liftBad (j:Int) (d:Int) (dimsOf s)=false:=by cases hb:liftBad (j:Int) (d:Int) (dimsOf s) with | false=>rfl | true=>rw [(lift_bad ha hb).2] at h;cases h
 have h24:∀ z,s.testBit z=true->z<24:=fun z hz=>by
  rcases Nat.lt_or_ge z 24 with h|h
  ·exact h
  ·rw [Nat.testBit_lt_two_pow (Nat.lt_of_lt_of_le hs (Nat.pow_le_pow_right (n:=2) (by omega) h))] at hz;cases hz
 rw [(lift_ok ha hb).1,testBit_orAll,Bool.eq_iff_iff,decide_eq_true_iff,List.mem_map]
 constructor
 ·rintro⟨z,hz,e⟩
  rw [mem_dimsOf] at hz
  unfold upK at e
  split at e
  ·rename_i hzj
   subst e
   rw [if_pos (by omega)];exact hz.2
  ·rename_i hzj
   have e:z+d=k:=by simpa using e
   subst e
   rw [if_neg (by omega),if_neg (by omega),Nat.add_sub_cancel]
   exact hz.2
 ·intro hk
  split at hk
  ·rename_i hkj
   exact⟨k,by rw [mem_dimsOf];exact⟨h24 k hk,hk⟩,by unfold upK;rw [if_pos (by omega)]⟩
  ·split at hk
   ·cases hk
   ·rename_i h1 h2
    exact⟨k - d,by rw [mem_dimsOf];exact⟨h24 _ hk,hk⟩,by unfold upK;rw [if_neg (by omega),Int.toNat_natCast];omega⟩
theorem lift_ltD {x y j d:Nat} (hx:x<16777216) (hy:y<16777216) (ex:liftE x (j:Int) (d:Int)=0) (ey:liftE y (j:Int) (d:Int)=0) (h:x<y):liftN x (j:Int) (d:Int) < liftN y (j:Int) (d:Int):=by
 obtain⟨k,h1,h2,h3⟩:=lt_topD hx hy h
 have bx:=lift_bitsD ex hx
 have by_:=lift_bitsD ey hy
 by_cases hk:k<j
 ·refine lt_bitsD k (by rw [bx,if_pos hk,h1]) (by rw [by_,if_pos hk,h2]) (fun m hm=>?_)
  rw [bx,by_]
  split
  ·exact h3 m hm
  ·split
   ·rfl
   ·exact h3 (m - d) (by omega)
 ·refine lt_bitsD (k+d) (by rw [bx,if_neg (by omega),if_neg (by omega),Nat.add_sub_cancel];exact h1) (by rw [by_,if_neg (by omega),if_neg (by omega),Nat.add_sub_cancel];exact h2) (fun m hm=>?_)
  rw [bx,by_]
  split
  ·exact h3 m (by omega)
  ·split
   ·rfl
   ·exact h3 (m - d) (by omega)
theorem liftC_okD {c:C} {j d:Nat} (h:liftCE c (j:Int) (d:Int)=0):rightC c=true/\liftE c.1.val (j:Int) (d:Int)=0/\liftE c.2.val (j:Int) (d:Int)=0:=by
 unfold liftCE at h
 split at h
 ·split at h
  ·exact⟨‹_›,‹_›,h⟩
  ·exact absurd h ‹_›
 ·cases h
theorem right_ltsD {c:C} (h:rightC c=true):c.1.val<16777216/\c.2.val<16777216:=by
 have:=rightC_iff.1 h
 exact⟨by first | exact this.1 | (have:=this.1;omega),by first | exact this.2 | (have:=this.2;omega)⟩
theorem liftC_eqD {c:C} {j d:Nat} (h:liftCE c (j:Int) (d:Int)=0):(liftC c (j:Int) (d:Int)).1.val=liftN c.1.val (j:Int) (d:Int)/\(liftC c (j:Int) (d:Int)).2.val=liftN c.2.val (j:Int) (d:Int):=by
 unfold liftC
 rw [if_pos (liftC_okD h)]
 exact⟨rfl,rfl⟩
theorem ltC_liftD {a b:C} {j d:Nat} (ha:liftCE a (j:Int) (d:Int)=0) (hb:liftCE b (j:Int) (d:Int)=0) (h:ltC a b=true):ltC (liftC a (j:Int) (d:Int)) (liftC b (j:Int) (d:Int))=true:=by
 obtain⟨ra,a1,a2⟩:=liftC_okD ha
 obtain⟨rb,b1,b2⟩:=liftC_okD hb
 obtain⟨la1,la2⟩:=right_ltsD ra
 obtain⟨lb1,lb2⟩:=right_ltsD rb
 unfold ltC at h ⊢
 rw [(liftC_eqD ha).1,(liftC_eqD ha).2,(liftC_eqD hb).1,(liftC_eqD hb).2]
 simp only [Bool.or_eq_true,Bool.and_eq_true,decide_eq_true_eq] at h ⊢
 rcases h with h|⟨h,h'⟩
 ·exact .inl (lift_ltD la1 lb1 a1 b1 h)
 ·exact .inr ⟨by rw [h],lift_ltD la2 lb2 a2 b2 h'⟩
theorem belC_liftD {a b:C} {j d:Nat} (ha:liftCE a (j:Int) (d:Int)=0) (hb:liftCE b (j:Int) (d:Int)=0) (h:belC (liftC a (j:Int) (d:Int)) (liftC b (j:Int) (d:Int))=true):belC a b=true:=by
 obtain⟨ra,a1,a2⟩:=liftC_okD ha
 obtain⟨rb,b1,b2⟩:=liftC_okD hb
 obtain⟨la1,la2⟩:=right_ltsD ra
 obtain⟨lb1,lb2⟩:=right_ltsD rb
 have h':=belC_iff.1 h
 rw [(liftC_eqD ha).1,(liftC_eqD ha).2,(liftC_eqD hb).1,(liftC_eqD hb).2] at h'
 have gen:∀ (x y:Nat),x<16777216->y<16777216->liftE x (j:Int) (d:Int)=0->liftE y (j:Int) (d:Int)=0->(∀ k,k<24->(liftN y (j:Int) (d:Int)).testBit k=true->(liftN x (j:Int) (d:Int)).testBit k=true)->∀ k,k<24->y.testBit k=true->x.testBit k=true:=by
  intro x y hx hy ex ey hh k hk hyk
  have bx:=lift_bitsD ex hx
  have by_:=lift_bitsD ey hy
  have h24:∀ z,(liftN y (j:Int) (d:Int)).testBit z=true->z<24:=fun z hd=>by
   rcases Nat.lt_or_ge z 24 with h|h
   ·exact h
   ·rw [Nat.testBit_lt_two_pow (Nat.lt_of_lt_of_le (liftN_lt y (j:Int) (d:Int)) (Nat.pow_le_pow_right (n:=2) (by omega) h))] at hd;cases hd
  by_cases hkj:k<j
  ·have e:(liftN y (j:Int) (d:Int)).testBit k=true:=by rw [by_,if_pos hkj];exact hyk
   have:=hh k (h24 k e) e
   rw [bx,if_pos hkj] at this
   exact this
  ·have e:(liftN y (j:Int) (d:Int)).testBit (k+d)=true:=by rw [by_,if_neg (by omega),if_neg (by omega),Nat.add_sub_cancel];exact hyk
   have:=hh (k+d) (h24 _ e) e
   rw [bx,if_neg (by omega),if_neg (by omega),Nat.add_sub_cancel] at this
   exact this
 exact belC_iff.2 ⟨gen _ _ la1 lb1 a1 b1 h'.1,gen _ _ la2 lb2 a2 b2 h'.2⟩
theorem liftS_mapD {j d:Nat} (l:List C):(liftS l (j:Int) (d:Int)).2=0->(liftS l (j:Int) (d:Int)).1=l.map (fun c=>liftC c (j:Int) (d:Int))/\∀ c∈l,liftCE c (j:Int) (d:Int)=0:=by
 induction l using snoc_ind with
 | nil=>intro _;exact⟨rfl,fun c hc=>by cases hc⟩
 | snoc l c ih =>
  intro h
  rw [liftS_snoc] at h ⊢
  unfold stepL at h ⊢
  by_cases h0:(liftS l (j:Int) (d:Int)).2=0
  ·rw [if_pos h0] at h ⊢
   by_cases h1:liftCE c (j:Int) (d:Int)=0
   ·rw [if_pos h1]
    obtain⟨e,hall⟩:=ih h0
    refine⟨by rw [List.map_append,<- e];rfl,fun d hd=>?_⟩
    rcases List.mem_append.1 hd with hd|hd
    ·exact hall d hd
    ·rw [List.mem_singleton.1 hd];exact h1
   ·rw [if_neg h1] at h;exact absurd h h1
  ·rw [if_neg h0] at h;exact absurd h h0
theorem lift_rowD {f:List C} {j d:Nat} (h:(liftFF f (j:Int) (d:Int)).2=0):(liftFF f (j:Int) (d:Int)).1=f.map (fun c=>liftC c (j:Int) (d:Int))/\(∀ c∈f,liftCE c (j:Int) (d:Int)=0):=by
 unfold liftFF at h ⊢
 by_cases hr:rightF f=true
 ·rw [if_pos hr] at h ⊢
  by_cases h0:(liftS f (j:Int) (d:Int)).2=0
  ·rw [if_pos h0] at h ⊢
   obtain⟨e,hall⟩:=liftS_mapD f h0
   rw [e] at h ⊢
   obtain⟨hp,hlen⟩:=rightF_iff.1 hr
   have hP:PreOk (f.map fun c=>liftC c (j:Int) (d:Int)):=by
    refine⟨?_,?_,?_⟩
    ·rw [List.all_eq_true]
     intro x hx
     obtain⟨c,hc,rfl⟩:=List.mem_map.1 hx
     rw [rightC_iff,(liftC_eqD (hall c hc)).1,(liftC_eqD (hall c hc)).2]
     exact⟨liftN_lt _ _ _,liftN_lt _ _ _⟩
    ·exact List.pairwise_map.2 (List.Pairwise.imp_of_mem (fun ha hb h=>ltC_liftD (hall _ ha) (hall _ hb) h) hp.rises)
    ·intro x hx
     obtain⟨c,hc,rfl⟩:=List.mem_map.1 hx
     rw [needed_iff]
     intro y hy hb
     obtain⟨d,hd,rfl⟩:=List.mem_map.1 hy
     rw [needed_iff.1 (hp.need c hc) d hd (belC_liftD (hall c hc) (hall d hd) hb)]
   have hR:rightF (f.map fun c=>liftC c (j:Int) (d:Int))=true:=rightF_iff.2 ⟨hP,by simpa using hlen⟩
   rw [rightF_eq hR]
   exact⟨rfl,hall⟩
  ·rw [if_neg h0] at h;exact absurd h h0
 ·rw [if_neg hr] at h;cases h
def unN (s c m:Nat):Nat:=(s % 2 ^ c) ||| ((s >>> (c+m)) <<< c)
theorem unN_bit (s c m k:Nat):(unN s c m).testBit k=if k<c then s.testBit k else s.testBit (k+m):=by
 unfold unN
 rw [Nat.testBit_or,Nat.testBit_mod_two_pow,Nat.testBit_shiftLeft,Nat.testBit_shiftRight]
 by_cases h:k<c
 ·have h2:¬ c<=k:=by omega
  simp [h,h2]
 ·have h2:c<=k:=by omega
  have h3:c+m+(k - c)=k+m:=by omega
  simp [h,h2,h3]
theorem unN_lt {s c m:Nat} (h:s<4294967296):unN s c m<4294967296:=by
 have e:(4294967296:Nat)=2 ^ 32:=by decide
 rw [e] at h ⊢
 refine Nat.lt_pow_two_of_testBit _ fun k hk=>?_
 rw [unN_bit]
 split
 ·exact Nat.testBit_lt_two_pow (Nat.lt_of_lt_of_le h (Nat.pow_le_pow_right (by decide) hk))
 ·exact Nat.testBit_lt_two_pow (Nat.lt_of_lt_of_le h (Nat.pow_le_pow_right (by decide) (by omega)))
def unC (c m:Nat) (y:C):C:=(⟨unN y.1.val c m,unN_lt y.1.isLt⟩,⟨unN y.2.val c m,unN_lt y.2.isLt⟩)
theorem unC_bits (c m:Nat) (y:C) (k:Nat):(unC c m y).1.val.testBit k=(if k<c then y.1.val.testBit k else y.1.val.testBit (k+m))/\(unC c m y).2.val.testBit k=(if k<c then y.2.val.testBit k else y.2.val.testBit (k+m)):=⟨unN_bit _ _ _ _,unN_bit _ _ _ _⟩
def LiC (c m:Nat) (d d':C):Prop:=∀ k,(d'.1.val.testBit k=if k<c then d.1.val.testBit k else if k<c+m then false else d.1.val.testBit (k - m))/\(d'.2.val.testBit k=if k<c then d.2.val.testBit k else if k<c+m then false else d.2.val.testBit (k - m))
theorem LiC.up {c m:Nat} {d d':C} (h:LiC c m d d') (k:Nat):d'.1.val.testBit (if k<c then k else k+m)=d.1.val.testBit k/\d'.2.val.testBit (if k<c then k else k+m)=d.2.val.testBit k:=by
 have q:=h (if k<c then k else k+m)
 rw [q.1,q.2]
 by_cases hk:k<c
 ·simp [hk]
 ·have h1:¬ k+m<c:=by omega
  have h2:¬ k+m<c+m:=by omega
  simp [hk,h1,h2]
theorem unC_up (c m:Nat) (y:C) (k:Nat):(unC c m y).1.val.testBit k=y.1.val.testBit (if k<c then k else k+m)/\(unC c m y).2.val.testBit k=y.2.val.testBit (if k<c then k else k+m):=by
 have:=unC_bits c m y k
 by_cases hk:k<c
 ·simpa [hk] using this
 ·simpa [hk] using this
theorem LiC.from {c m:Nat} {d d':C} (h:LiC c m d d') (k:Nat) (hb:d'.1.val.testBit k=true\/d'.2.val.testBit k=true):∃ j,k=if j<c then j else j+m:=by
 have q:=h k
 by_cases h1:k<c
 ·exact⟨k,by rw [if_pos h1]⟩
 ·by_cases h2:k<c+m
  ·exfalso
   rw [q.1,q.2,if_neg h1,if_pos h2,if_neg h1,if_pos h2] at hb
   rcases hb with hb|hb <;> cases hb
  ·exact⟨k - m,by rw [if_neg (by omega)];omega⟩
theorem LiC.bel {c m:Nat} {d d' y:C} (h:LiC c m d d') (hr:rightC d=true) (hr':rightC d'=true):belC y d'=true↔belC (unC c m y) d=true:=by
 constructor
 ·intro hb
  have b:=bel_bits hr' hb
  refine bits_bel fun k=>?_
  rw [(unC_up c m y k).1,(unC_up c m y k).2,<- (h.up k).1,<- (h.up k).2]
  exact b _
 ·intro hb
  have b:=bel_bits hr hb
  refine bits_bel fun k=>⟨fun q=>?_,fun q=>?_⟩
  ·obtain⟨j,rfl⟩:=h.from k (.inl q)
   rw [(h.up j).1] at q
   rw [<- (unC_up c m y j).1]
   exact (b j).1 q
  ·obtain⟨j,rfl⟩:=h.from k (.inr q)
   rw [(h.up j).2] at q
   rw [<- (unC_up c m y j).2]
   exact (b j).2 q
theorem LiC.hit {c m:Nat} {d d' y:C} (h:LiC c m d d') (hr:rightC d=true) (hr':rightC d'=true):hit y d'↔hit (unC c m y) d:=by
 constructor
 ·rintro⟨k,hk,hh⟩
  rcases hh with ⟨q1,q2⟩|⟨q1,q2⟩
  ·obtain⟨j,rfl⟩:=h.from k (.inl q1)
   rw [(h.up j).1] at q1
   exact⟨j,(right_bit hr).1 q1,.inl ⟨q1,by rw [(unC_up c m y j).2];exact q2⟩⟩
  ·obtain⟨j,rfl⟩:=h.from k (.inr q1)
   rw [(h.up j).2] at q1
   exact⟨j,(right_bit hr).2 q1,.inr ⟨q1,by rw [(unC_up c m y j).1];exact q2⟩⟩
 ·rintro⟨j,hj,hh⟩
  rw [(unC_up c m y j).1,(unC_up c m y j).2] at hh
  rw [<- (h.up j).1,<- (h.up j).2] at hh
  rcases hh with ⟨q1,q2⟩|⟨q1,q2⟩
  ·exact⟨_,(right_bit hr').1 q1,.inl ⟨q1,q2⟩⟩
  ·exact⟨_,(right_bit hr').2 q1,.inr ⟨q1,q2⟩⟩
theorem LiC.has {c m j:Nat} {d d':C} (h:LiC c m d d') (hc:c<=j) (hj:j+m<24):hasB d'.1.val ((j+m:Nat):Int)=hasB d.1.val (j:Int)/\hasB d'.2.val ((j+m:Nat):Int)=hasB d.2.val (j:Int):=by
 have q:=h.up j
 rw [if_neg (by omega)] at q
 rw [hasB_nat hj,hasB_nat hj,hasB_nat (by omega),hasB_nat (by omega)]
 exact q
theorem LiC.out {c m j:Nat} {d d' y:C} (h:LiC c m d d') (hr:rightC d=true) (hr':rightC d'=true) (hc:c<=j) (hj:j+m<24):belC y (outC d' ((j+m:Nat):Int))=true↔belC (unC c m y) (outC d (j:Int))=true:=by
 rw [bel_out hj hr',bel_out (by omega) hr]
 constructor
 ·intro hb k hk
  rw [(unC_up c m y k).1,(unC_up c m y k).2,<- (h.up k).1,<- (h.up k).2]
  refine hb _ ?_
  split <;> omega
 ·intro hb k hk
  refine⟨fun q=>?_,fun q=>?_⟩
  ·obtain⟨i,rfl⟩:=h.from k (.inl q)
   rw [(h.up i).1] at q
   rw [<- (unC_up c m y i).1]
   refine (hb i (fun e=>hk ?_)).1 q
   subst e;rw [if_neg (by omega)]
  ·obtain⟨i,rfl⟩:=h.from k (.inr q)
   rw [(h.up i).2] at q
   rw [<- (unC_up c m y i).2]
   refine (hb i (fun e=>hk ?_)).2 q
   subst e;rw [if_neg (by omega)]
def LiR (c m:Nat) (l l':List C):Prop:=(∀ d∈l,∃ d'∈l',LiC c m d d')/\(∀ d'∈l',∃ d∈l,LiC c m d d')
theorem LiR.dn {c m:Nat} {l l':List C} (h:LiR c m l l') (hl:∀ d∈l,rightC d=true) (hl':∀ d∈l',rightC d=true) (y:C):dn l' y↔dn l (unC c m y):=by
 constructor
 ·rintro⟨d',hd',hb⟩
  obtain⟨d,hd,q⟩:=h.2 d' hd'
  exact⟨d,hd,(q.bel (hl d hd) (hl' d' hd')).1 hb⟩
 ·rintro⟨d,hd,hb⟩
  obtain⟨d',hd',q⟩:=h.1 d hd
  exact⟨d',hd',(q.bel (hl d hd) (hl' d' hd')).2 hb⟩
theorem lfR_map {f:List C} {j d:Nat} (h:(liftFF f (j:Int) (d:Int)).2=0):LiR j d f (liftFF f (j:Int) (d:Int)).1:=by
 obtain⟨e,hall⟩:=lift_rowD h
 rw [e]
 refine⟨fun x hx=>⟨_,List.mem_map_of_mem hx,fun k=>liftC_bits (hall x hx) k⟩,fun x hx=>?_⟩
 obtain⟨z,hz,rfl⟩:=List.mem_map.1 hx
 exact⟨z,hz,fun k=>liftC_bits (hall z hz) k⟩
theorem lift_right {f:List C} {a b:Int} (h:(liftFF f a b).2=0):rightF (liftFF f a b).1=true:=(liftFF_facts h).2.2.2.2
theorem e_parts {o:DOp} {t:Tm} {bd:Nat} (h:eT o t bd=0):(ownP o t.kind t.r bd).2=0/\(∀ (i:Nat) (x:Tm),t.kids[i]? = some x->eT o x (bd+bdK t.kind i)=0)/\∀ b∈t.sys,(o.fc b.1 bd).2=0/\(stayB o bd b.1=true->∀ x∈b.2,eT o x (bd+moreK t.kind)=0):=by
 rw [e_eq] at h
 have hz:=firstE_zero.1 h
 refine⟨hz _ (.head _),fun i x hx=>?_,fun b hb=>?_⟩
 ·exact hz _ (List.mem_cons_of_mem _ (List.mem_append_left _ (List.mem_of_getElem? (eK_get hx))))
 ·have hB:=hz (eB o t.kind b bd) (List.mem_cons_of_mem _ (List.mem_append_right _ (List.mem_map_of_mem hb)))
  unfold eB at hB
  have hz2:=firstE_zero.1 hB
  refine⟨hz2 _ (.head _),fun hs x hx=>?_⟩
  rw [hs,if_pos rfl] at hz2
  exact hz2 _ (List.mem_cons_of_mem _ (List.mem_map_of_mem hx))
theorem dK_get? (o:DOp) (k:Int) (l:List Tm) (bd i:Nat):(dK o k l bd)[i]? = (l[i]?).map fun x=>dT o x (bd+bdK k i):=by
 unfold dK
 rw [List.getElem?_map,List.getElem?_zipIdx]
 cases l[i]? <;> simp
def OkX (t:Tm):Prop:=∃ bv bd,okT true 0 0 t bv bd=true
theorem okx_own {t:Tm} (h:OkX t):rightF t.r=true/\(t.kind=14->rightA t.r=true):=by
 obtain⟨bv,b2,h⟩:=h
 refine⟨ok_row h,fun h14=>?_⟩
 rw [ok_eq,Bool.and_eq_true] at h
 have h1:=h.1
 unfold Tm.node nodeB at h1
 simp only [Bool.and_eq_true] at h1
 have h2:=h1.1.2
 unfold rowB at h2
 rw [h14] at h2
 first
  | (simp at h2;exact h2.1)
  | (simp at h2;exact h2)
theorem okx_sub {t:Tm} (h:OkX t):(∀ (i:Nat) (x:Tm),t.kids[i]? = some x->OkX x)/\∀ b∈t.sys,rightA b.1=true/\∀ x∈b.2,OkX x:=by
 obtain⟨bv,b2,h⟩:=h
 refine⟨fun k y hy=>?_,fun b hb=>⟨ok_face h hb,fun y hy=>?_⟩⟩
 ·rw [ok_eq,Bool.and_eq_true] at h
  exact⟨_,_,List.all_eq_true.1 h.2 _ (pts_kid hy)⟩
 ·rw [ok_eq,Bool.and_eq_true] at h
  exact⟨_,_,List.all_eq_true.1 h.2 _ (pts_sys hb hy)⟩
theorem okx_of_wrong {t:Tm} (h:wrongN true 0 0 t=0):OkX t:=by
 unfold wrongN at h
 split at h
 ·cases h
 ·split at h
  ·exact⟨0,0,by assumption⟩
  ·cases h
end Go.Proofs.YtblbhmnahoiecaaGreat
