/- Lifts add up. -/
import Derived.Test.YtblbhmnahoiecaaGreatGG15
import Derived.Test.YtblbhmnahoiecaaGreatGG30
import Derived.Test.YtblbhmnahoiecaaGreatGG34
import Derived.Test.YtblbhmnahoiecaaGreatGYDmT
set_option linter.unusedVariables false
set_option linter.unusedSimpArgs false
namespace Go.Proofs.YtblbhmnahoiecaaGreat
open Go.RowKit
def sf (a b:Int):Sf:=⟨0,a,0,b⟩
theorem map_congr_mem {α β:Type} {f g:α→β} {l:List α} (h:∀ x∈l,f x=g x):l.map f=l.map g:=List.map_congr_left h
theorem zip_mem {l:List Tm} {p:Tm × Nat} (h:p∈l.zipIdx):p.1∈l:=List.mem_of_getElem? (List.mem_zipIdx_iff_getElem?.1 h)
theorem zip_zip {β:Type} (l:List Tm) (g:Tm × Nat→Tm) (f:Tm × Nat→β):((l.zipIdx.map g).zipIdx.map f)=l.zipIdx.map fun p=>f (g p,p.2):=by
 refine List.ext_getElem? fun i=>?_
 simp only [List.getElem?_map,List.getElem?_zipIdx]
 cases l[i]? <;> simp
theorem row_row {a b c d:Int} (h:b=0∨d=0) (bd:Nat) (r:List C):rowP (sf c d) bd (rowP (sf a b) bd r).1=(if d=0 then ((rowP (sf a b) bd r).1,0) else rowP (sf a d) bd r):=by
 by_cases hd:d=0
 ·rw [if_pos hd];exact rowP_zero (s:=sf c d) hd bd _
 ·rw [if_neg hd,rowP_zero (s:=sf a b) (h.resolve_right hd)]
  rfl
theorem row_sum {a b c d:Int} (h:b=0∨d=0) (bd:Nat) (r:List C):(rowP (sf c d) bd (rowP (sf a b) bd r).1).1=(rowP (sf (a+c) (b+d)) bd r).1:=by
 rw [row_row h]
 by_cases hd:d=0
 ·rw [if_pos hd,hd,Int.add_zero];rfl
 ·rw [if_neg hd,h.resolve_right hd,Int.zero_add];rfl
theorem numV_sf (a b:Int) (bv:Nat) (k n:Int):numV (sf a b) bv k n=if k=1∧0≤n - (bv:Int) then n+a else n:=by
 have e:farB (sf a b) bv k n↔(k=1∧0≤n - (bv:Int)):=Iff.rfl
 unfold numV
 by_cases h:farB (sf a b) bv k n
 ·rw [if_pos h,if_pos (e.1 h)];rfl
 ·rw [if_neg h,if_neg (fun g=>h (e.2 g))]
theorem num_num {a b c d:Int} (ha:0≤a) (bv:Nat) (k n:Int):numV (sf c d) bv k (numV (sf a b) bv k n)=numV (sf (a+c) (b+d)) bv k n:=by
 rw [numV_sf,numV_sf,numV_sf]
 by_cases h1:k=1∧0≤n - (bv:Int)
 ·simp only [if_pos h1];rw [if_pos ⟨h1.1,by omega⟩];omega
 ·simp only [if_neg h1]
theorem li_li {a b c d:Int} (ha:0≤a) (h:b=0∨d=0):∀ (n:Nat) (t:Tm) (bv bd:Nat),blk t≤n→liT (sf c d) (liT (sf a b) t bv bd) bv bd=liT (sf (a+c) (b+d)) t bv bd
 | 0,t,bv,bd,hn=>by have:=blk_pos t;omega
 | n+1,t,bv,bd,hn=>by
  rw [li_eq (sf c d),li_eq (sf (a+c) (b+d)),li_eq (sf a b)]
  dsimp only
  rw [num_num ha,row_sum h]
  congr 1
  ·unfold liK
   rw [zip_zip]
   exact map_congr_mem fun p hp=>li_li ha h n p.1 _ _ (by have:=blk_kid (zip_mem hp);omega)
  ·rw [List.map_map]
   refine map_congr_mem fun x hx=>?_
   show liB _ _ (liB _ _ x _ _) _ _=_
   unfold liB
   dsimp only
   rw [row_sum h,List.map_map]
   congr 1
   exact map_congr_mem fun y hy=>li_li ha h n y _ _ (by have:=blk_sub hx hy;omega)
def sv (p:Int):Sf:=⟨p,1,0,0⟩
def sd (p:Int):Sf:=⟨0,0,p,1⟩
theorem ok_row {o:Bool} {V:Int} {D:Nat} {t:Tm} {bv bd:Nat} (h:okT o V D t bv bd=true):rightF t.r=true:=by
 rw [ok_eq,Bool.and_eq_true] at h
 have h1:=h.1
 unfold Tm.node nodeB at h1
 simp only [Bool.and_eq_true] at h1
 have h2:=h1.1.2
 unfold rowB at h2
 split at h2
 ·simp only [Bool.and_eq_true] at h2;exact h2.1
 ·split at h2
  ·simp only [Bool.and_eq_true] at h2;exact rightA_right h2.1
  ·have h3:t.r=[]:=List.length_eq_zero_iff.1 (by simpa using h2)
   rw [h3];exact rightF_nil
theorem ok_face {o:Bool} {V:Int} {D:Nat} {t:Tm} {bv bd:Nat} {b:List C × List Tm} (h:okT o V D t bv bd=true) (hb:b∈t.sys):rightA b.1=true:=by
 rw [ok_eq,Bool.and_eq_true] at h
 have h1:=h.1
 unfold Tm.node nodeB at h1
 simp only [Bool.and_eq_true] at h1
 have h2:=List.all_eq_true.1 h1.2 (b.1,b.2.length) (List.mem_map.2 ⟨b,hb,rfl⟩)
 unfold brB at h2
 simp only [Bool.and_eq_true] at h2
 exact h2.1.2
theorem lift_bitsN {s j m:Nat} (h:liftE s (j:Int) (m:Int)=0) (hs:s<16777216) (k:Nat):(liftN s (j:Int) (m:Int)).testBit k=if k<j then s.testBit k else if k<j+m then false else s.testBit (k - m):=by
 have ha:argB (j:Int) (m:Int)=false:=argB_no (by omega) (by omega)
 have hb:liftBad (j:Int) (m:Int) (dimsOf s)=false:=by cases hb:liftBad (j:Int) (m:Int) (dimsOf s) with | false=>rfl | true=>rw [(lift_bad ha hb).2] at h;cases h
 have h24:∀ d,s.testBit d=true→d<24:=fun d hd=>bit_lt24 hs hd
 rw [(lift_ok ha hb).1,testBit_orAll,Bool.eq_iff_iff,decide_eq_true_iff,List.mem_map]
 constructor
 ·rintro⟨d,hd,e⟩
  rw [mem_dimsOf] at hd
  unfold upK at e
  split at e
  ·subst e;rw [if_pos (by omega)];exact hd.2
  ·have e:d+m=k:=by simpa using e
   subst e
   rw [if_neg (by omega),if_neg (by omega),Nat.add_sub_cancel];exact hd.2
 ·intro hk
  split at hk
  ·exact⟨k,by rw [mem_dimsOf];exact⟨h24 k hk,hk⟩,by unfold upK;rw [if_pos (by omega)]⟩
  ·split at hk
   ·cases hk
   ·exact⟨k - m,by rw [mem_dimsOf];exact⟨h24 _ hk,hk⟩,by unfold upK;rw [if_neg (by omega)];show k - m+(m:Int).toNat=k;omega⟩
theorem liftCN_ok {c:C} {fr by_:Int} (h:liftCE c fr by_=0):rightC c=true∧liftE c.1.val fr by_=0∧liftE c.2.val fr by_=0:=by
 unfold liftCE at h
 split at h
 ·split at h
  ·exact⟨‹_›,‹_›,h⟩
  ·exact absurd h ‹_›
 ·cases h
theorem liftC_bits {c:C} {j m:Nat} (h:liftCE c (j:Int) (m:Int)=0) (k:Nat) :
  (liftC c (j:Int) (m:Int)).1.val.testBit k=(if k<j then c.1.val.testBit k else if k<j+m then false else c.1.val.testBit (k - m)) ∧
  (liftC c (j:Int) (m:Int)).2.val.testBit k=(if k<j then c.2.val.testBit k else if k<j+m then false else c.2.val.testBit (k - m)):=by
 obtain⟨h0,h1,h2⟩:=liftCN_ok h
 obtain⟨l1,l2⟩:=right_lts h0
 unfold liftC
 rw [if_pos ⟨h0,h1,h2⟩]
 exact⟨lift_bitsN h1 l1 k,lift_bitsN h2 l2 k⟩
theorem liftS_mapN {fr by_:Int} (l:List C):(liftS l fr by_).2=0→(liftS l fr by_).1=l.map (fun c=>liftC c fr by_)∧∀ c∈l,liftCE c fr by_=0:=by
 induction l using snoc_ind with
 | nil=>intro _;exact⟨rfl,fun c hc=>by cases hc⟩
 | snoc l c ih =>
  intro h
  rw [liftS_snoc] at h ⊢
  unfold stepL at h ⊢
  by_cases h0:(liftS l fr by_).2=0
  ·rw [if_pos h0] at h ⊢
   by_cases h1:liftCE c fr by_=0
   ·rw [if_pos h1]
    obtain⟨e,hall⟩:=ih h0
    refine⟨by rw [List.map_append,← e];rfl,fun d hd=>?_⟩
    rcases List.mem_append.1 hd with hd|hd
    ·exact hall d hd
    ·rw [List.mem_singleton.1 hd];exact h1
   ·rw [if_neg h1] at h;exact absurd h h1
  ·rw [if_neg h0] at h;exact absurd h h0
theorem liftFF_facts {f:List C} {fr by_:Int} (h:(liftFF f fr by_).2=0) :
  rightF f=true∧(∀ c∈f,liftCE c fr by_=0)∧(∀ x∈(liftFF f fr by_).1,∃ c∈f,x=liftC c fr by_)∧(∀ c∈f,∃ x∈(liftFF f fr by_).1,belC (liftC c fr by_) x=true)∧rightF (liftFF f fr by_).1=true:=by
 unfold liftFF at h ⊢
 by_cases hr:rightF f=true
 ·rw [if_pos hr] at h ⊢
  by_cases h0:(liftS f fr by_).2=0
  ·rw [if_pos h0] at h ⊢
   obtain⟨e,hall⟩:=liftS_mapN f h0
   refine⟨hr,hall,fun x hx=>?_,fun c hc=>?_,leastF_right _⟩
   ·have:=leastF_sub x hx
    rw [e] at this
    obtain⟨c,hc,rfl⟩:=List.mem_map.1 this
    exact⟨c,hc,rfl⟩
   ·exact (leastF_dn h _).2 ⟨_,by rw [e];exact List.mem_map_of_mem hc,belC_refl _⟩
  ·rw [if_neg h0] at h;exact absurd h h0
 ·rw [if_neg hr] at h;cases h
theorem right_bit {c:C} (h:rightC c=true) {k:Nat}:(c.1.val.testBit k=true→k<24)∧(c.2.val.testBit k=true→k<24) :=
 ⟨fun hb=>bit_lt24 (rightC_iff.1 h).1 hb,fun hb=>bit_lt24 (rightC_iff.1 h).2 hb⟩
theorem bel_bits {a b:C} (hb:rightC b=true) (h:belC a b=true) (k:Nat):(b.1.val.testBit k=true→a.1.val.testBit k=true)∧(b.2.val.testBit k=true→a.2.val.testBit k=true) :=
 ⟨fun q=>(belC_iff.1 h).1 k ((right_bit hb).1 q) q,fun q=>(belC_iff.1 h).2 k ((right_bit hb).2 q) q⟩
theorem bits_bel {a b:C} (h:∀ k,(b.1.val.testBit k=true→a.1.val.testBit k=true)∧(b.2.val.testBit k=true→a.2.val.testBit k=true)):belC a b=true :=
 belC_iff.2 ⟨fun k _ q=>(h k).1 q,fun k _ q=>(h k).2 q⟩
theorem mem_right {f:List C} (h:rightF f=true) {c:C} (hc:c∈f):rightC c=true:=List.all_eq_true.1 (rightF_all h) c hc
theorem dn_one {c x:C}:dn [c] x↔belC x c=true:=by simp [dn]
theorem partF_dn {c:C} {i:Int} {r:List C} {s:List C × Int} (h:(partF c i r s).2=0) (x:C):dn (partF c i r s).1 x↔belC x (outC c i)=true∧(hasB c.1.val i=true→dn r x)∧(hasB c.2.val i=true→dn s.1 x):=by
 have hA:(partA c i r).2=0→(dn (partA c i r).1 x↔belC x (outC c i)=true∧(hasB c.1.val i=true→dn r x)):=fun hA=>by
  unfold partA at hA ⊢
  cases h1:hasB c.1.val i
  ·simp [dn_one]
  ·rw [h1,if_pos rfl] at hA
   rw [if_pos rfl]
   unfold meetR at hA ⊢
   rw [leastF_dn hA,dn_pairs,dn_one]
   simp
 unfold partF at h ⊢
 by_cases h0:(partA c i r).2=0
 ·rw [if_pos h0] at h ⊢
  cases h2:hasB c.2.val i
  ·rw [if_neg (by simp)]
   rw [hA h0];simp
  ·rw [h2,if_pos rfl] at h
   rw [if_pos rfl]
   by_cases hs:s.2=0
   ·rw [if_pos hs] at h ⊢
    unfold meetR at h ⊢
    rw [leastF_dn h,dn_pairs,hA h0]
    simp [and_assoc]
   ·rw [if_neg hs] at h;exact absurd h hs
 ·rw [if_neg h0] at h;exact absurd h h0
theorem puts_dn {i:Int} {r:List C} {s:List C × Int} (f:List C):(putS f i r s).2=0→(∀ c∈f,(partF c i r s).2=0)∧∀ x,dn (putS f i r s).1 x↔∃ c∈f,dn (partF c i r s).1 x:=by
 induction f using snoc_ind with
 | nil=>intro _;exact⟨(fun c hc=>by cases hc),fun x=>⟨(fun ⟨d,hd,_⟩=>by simp [putS] at hd),(fun ⟨c,hc,_⟩=>by cases hc)⟩⟩
 | snoc f c ih =>
  intro h
  rw [putS_snoc] at h ⊢
  unfold stepP at h ⊢
  by_cases h0:(putS f i r s).2=0
  ·rw [if_pos h0] at h ⊢
   by_cases h1:(partF c i r s).2=0
   ·rw [if_pos h1] at h ⊢
    obtain⟨i1,i2⟩:=ih h0
    refine⟨fun d hd=>?_,fun x=>?_⟩
    ·rcases List.mem_append.1 hd with hd|hd
     ·exact i1 d hd
     ·rw [List.mem_singleton.1 hd];exact h1
    ·unfold joinR at h ⊢
     rw [leastF_dn h,dn_append,i2 x]
     constructor
     ·rintro (⟨d,hd,q⟩ | q)
      ·exact⟨d,List.mem_append_left _ hd,q⟩
      ·exact⟨c,by simp,q⟩
     ·rintro⟨d,hd,q⟩
      rcases List.mem_append.1 hd with hd|hd
      ·exact .inl ⟨d,hd,q⟩
      ·rw [List.mem_singleton.1 hd] at q;exact .inr q
   ·rw [if_neg h1] at h;exact absurd h h1
  ·rw [if_neg h0] at h;exact absurd h h0
theorem mtR_dn {f g:List C} (h:(mtR f g).2=0) {x:C} (hx:okC x=true):dn (mtR f g).1 x↔dn f x∧dn g x:=by
 unfold mtR at h ⊢
 rw [leastF_dn h,dn_calm hx,dn_pairs]
theorem prtA_dn {c:C} {i:Int} {r:List C} {s:List C × Int} (h:(prtA c i r s).2=0) {x:C} (hx:okC x=true) (hc:¬ (hasB c.1.val i=true∧hasB c.2.val i=true)):dn (prtA c i r s).1 x↔belC x (outC c i)=true∧(hasB c.1.val i=true→dn r x)∧(hasB c.2.val i=true→dn s.1 x):=by
 unfold prtA at h ⊢
 cases h1:hasB c.1.val i
 ·rw [h1,if_neg (by simp)] at h
  rw [if_neg (by simp)]
  cases h2:hasB c.2.val i
  ·rw [if_neg (by simp)]
   simp [dn_one]
  ·rw [h2,if_pos rfl] at h
   rw [if_pos rfl]
   by_cases hs:s.2=0
   ·rw [if_pos hs] at h ⊢
    rw [mtR_dn h hx,dn_one]
    simp
   ·rw [if_neg hs] at h;exact absurd h hs
 ·have h2:hasB c.2.val i=false:=by
   cases h2:hasB c.2.val i
   ·rfl
   ·exact absurd ⟨h1,h2⟩ hc
  rw [h1,if_pos rfl] at h
  rw [if_pos rfl]
  rw [mtR_dn h hx,dn_one,h2]
  simp
theorem pts_dn {i:Int} {r:List C} {s:List C × Int} (f:List C):(ptS f i r s).2=0→(∀ c∈f,(prtA c i r s).2=0)∧∀ x,dn (ptS f i r s).1 x↔∃ c∈f,dn (prtA c i r s).1 x:=by
 induction f using snoc_ind with
 | nil=>intro _;exact⟨(fun c hc=>by cases hc),fun x=>⟨(fun ⟨d,hd,_⟩=>by simp [ptS] at hd),(fun ⟨c,hc,_⟩=>by cases hc)⟩⟩
 | snoc f c ih =>
  intro h
  rw [ptS_snoc] at h ⊢
  unfold stpA at h ⊢
  by_cases h0:(ptS f i r s).2=0
  ·rw [if_pos h0] at h ⊢
   by_cases h1:(prtA c i r s).2=0
   ·rw [if_pos h1] at h ⊢
    obtain⟨i1,i2⟩:=ih h0
    refine⟨fun d hd=>?_,fun x=>?_⟩
    ·rcases List.mem_append.1 hd with hd|hd
     ·exact i1 d hd
     ·rw [List.mem_singleton.1 hd];exact h1
    ·rw [leastF_dn h,dn_append,i2 x]
     constructor
     ·rintro (⟨d,hd,q⟩ | q)
      ·exact⟨d,List.mem_append_left _ hd,q⟩
      ·exact⟨c,by simp,q⟩
     ·rintro⟨d,hd,q⟩
      rcases List.mem_append.1 hd with hd|hd
      ·exact .inl ⟨d,hd,q⟩
      ·rw [List.mem_singleton.1 hd] at q;exact .inr q
   ·rw [if_neg h1] at h;exact absurd h h1
  ·rw [if_neg h0] at h;exact absurd h h0
def e2 (a b:Nat):C:=meetC (posB a) (posB b)
theorem bel_out {x c:C} {i:Nat} (hi:i<24) (hr:rightC c=true):belC x (outC c (i:Int))=true↔∀ k,k≠i→(c.1.val.testBit k=true→x.1.val.testBit k=true)∧(c.2.val.testBit k=true→x.2.val.testBit k=true):=by
 constructor
 ·intro h k hk
  have:=bel_bits (out_right c _) h k
  rw [(out_bits c i k hi).1,(out_bits c i k hi).2] at this
  simp only [Bool.and_eq_true,decide_eq_true_eq,Bool.not_eq_true',decide_eq_false_iff_not] at this
  exact⟨fun q=>this.1 ⟨⟨(right_bit hr).1 q,q⟩,fun e=>hk e.symm⟩,fun q=>this.2 ⟨⟨(right_bit hr).2 q,q⟩,fun e=>hk e.symm⟩⟩
 ·intro h
  refine bits_bel fun k=>?_
  rw [(out_bits c i k hi).1,(out_bits c i k hi).2]
  simp only [Bool.and_eq_true,decide_eq_true_eq,Bool.not_eq_true',decide_eq_false_iff_not]
  exact⟨fun q=>(h k (fun e=>q.2 e.symm)).1 q.1.2,fun q=>(h k (fun e=>q.2 e.symm)).2 q.1.2⟩
def s2:Sf:=⟨0,0,1,2⟩
theorem top_diffD {x y:Nat}:∀ n,(∀ k,n≤k→x.testBit k=y.testBit k)→x≠y→∃ k,x.testBit k≠y.testBit k∧∀ m,k<m→x.testBit m=y.testBit m
 | 0,h,hne=>absurd (Nat.eq_of_testBit_eq fun k=>h k (Nat.zero_le _)) hne
 | n+1,h,hne=>by
  by_cases hn:x.testBit n=y.testBit n
  ·exact top_diffD n (fun k hk=>by
    rcases Nat.eq_or_lt_of_le hk with e|e
    ·rw [← e];exact hn
    ·exact h k e) hne
  ·exact⟨n,hn,fun m hm=>h m hm⟩
theorem lt_bitsD {x y:Nat} (k:Nat) (hx:x.testBit k=false) (hy:y.testBit k=true) (h:∀ m,k<m→x.testBit m=y.testBit m):x<y:=by
 rw [Nat.testBit_eq_decide_div_mod_eq,decide_eq_false_iff_not] at hx
 rw [Nat.testBit_eq_decide_div_mod_eq,decide_eq_true_iff] at hy
 have e:x / 2 ^ k / 2=y / 2 ^ k / 2:=by
  rw [Nat.div_div_eq_div_mul,Nat.div_div_eq_div_mul,← Nat.pow_succ]
  refine Nat.eq_of_testBit_eq fun m=>?_
  rw [Nat.testBit_div_two_pow,Nat.testBit_div_two_pow]
  exact h _ (by omega)
 rcases Nat.lt_or_ge x y with h1|h1
 ·exact h1
 ·have:=Nat.div_le_div_right (c:=2 ^ k) h1
  omega
theorem lt_topD {x y:Nat} (hx:x<16777216) (hy:y<16777216) (h:x<y):∃ k,x.testBit k=false∧y.testBit k=true∧∀ m,k<m→x.testBit m=y.testBit m:=by
 have e1:∀ z,z<16777216→∀ m,24≤m→z.testBit m=false:=fun z hz m hm=>Nat.testBit_lt_two_pow (Nat.lt_of_lt_of_le hz (Nat.pow_le_pow_right (n:=2) (by omega) hm))
 obtain⟨k,hk,hm⟩:=top_diffD 24 (fun m hm=>by rw [e1 x hx m hm,e1 y hy m hm]) (by omega:x≠y)
 cases ha:x.testBit k <;> cases hb:y.testBit k
 ·rw [ha,hb] at hk;exact absurd rfl hk
 ·exact⟨k,ha,hb,hm⟩
 ·have:=lt_bitsD k hb ha (fun m hm'=>(hm m hm').symm)
  omega
 ·rw [ha,hb] at hk;exact absurd rfl hk
theorem lift_bitsD {s j d:Nat} (h:liftE s (j:Int) (d:Int)=0) (hs:s<16777216) (k:Nat):(liftN s (j:Int) (d:Int)).testBit k=if k<j then s.testBit k else if k<j+d then false else s.testBit (k - d):=by
 have ha:argB (j:Int) (d:Int)=false:=by cases ha:argB (j:Int) (d:Int) with | false=>rfl | true=>rw [(lift_arg ha).2] at h;cases h
 have hb:liftBad (j:Int) (d:Int) (dimsOf s)=false:=by cases hb:liftBad (j:Int) (d:Int) (dimsOf s) with | false=>rfl | true=>rw [(lift_bad ha hb).2] at h;cases h
 have h24:∀ z,s.testBit z=true→z<24:=fun z hz=>by
  rcases Nat.lt_or_ge z 24 with h|h
  ·exact h
  ·rw [Nat.testBit_lt_two_pow (Nat.lt_of_lt_of_le hs (Nat.pow_le_pow_right (n:=2) (by omega) h))] at hz;cases hz
 rw [(lift_ok ha hb).1,testBit_orAll,Bool.eq_iff_iff,decide_eq_true_iff,List.mem_map]
 constructor
 ·rintro⟨z,hz,e⟩
  rw [mem_dimsOf] at hz
  unfold upK at e
  split at e
  ·rename_i hzj
   subst e
   rw [if_pos (by omega)];exact hz.2
  ·rename_i hzj
   have e:z+d=k:=by simpa using e
   subst e
   rw [if_neg (by omega),if_neg (by omega),Nat.add_sub_cancel]
   exact hz.2
 ·intro hk
  split at hk
  ·rename_i hkj
   exact⟨k,by rw [mem_dimsOf];exact⟨h24 k hk,hk⟩,by unfold upK;rw [if_pos (by omega)]⟩
  ·split at hk
   ·cases hk
   ·rename_i h1 h2
    exact⟨k - d,by rw [mem_dimsOf];exact⟨h24 _ hk,hk⟩,by unfold upK;rw [if_neg (by omega),Int.toNat_natCast];omega⟩
theorem lift_ltD {x y j d:Nat} (hx:x<16777216) (hy:y<16777216) (ex:liftE x (j:Int) (d:Int)=0) (ey:liftE y (j:Int) (d:Int)=0) (h:x<y):liftN x (j:Int) (d:Int) < liftN y (j:Int) (d:Int):=by
 obtain⟨k,h1,h2,h3⟩:=lt_topD hx hy h
 have bx:=lift_bitsD ex hx
 have by_:=lift_bitsD ey hy
 by_cases hk:k<j
 ·refine lt_bitsD k (by rw [bx,if_pos hk,h1]) (by rw [by_,if_pos hk,h2]) (fun m hm=>?_)
  rw [bx,by_]
  split
  ·exact h3 m hm
  ·split
   ·rfl
   ·exact h3 (m - d) (by omega)
 ·refine lt_bitsD (k+d) (by rw [bx,if_neg (by omega),if_neg (by omega),Nat.add_sub_cancel];exact h1) (by rw [by_,if_neg (by omega),if_neg (by omega),Nat.add_sub_cancel];exact h2) (fun m hm=>?_)
  rw [bx,by_]
  split
  ·exact h3 m (by omega)
  ·split
   ·rfl
   ·exact h3 (m - d) (by omega)
theorem liftC_okD {c:C} {j d:Nat} (h:liftCE c (j:Int) (d:Int)=0):rightC c=true∧liftE c.1.val (j:Int) (d:Int)=0∧liftE c.2.val (j:Int) (d:Int)=0:=by
 unfold liftCE at h
 split at h
 ·split at h
  ·exact⟨‹_›,‹_›,h⟩
  ·exact absurd h ‹_›
 ·cases h
theorem right_ltsD {c:C} (h:rightC c=true):c.1.val<16777216∧c.2.val<16777216:=by
 have:=rightC_iff.1 h
 exact⟨by first | exact this.1 | (have:=this.1;omega),by first | exact this.2 | (have:=this.2;omega)⟩
theorem liftC_eqD {c:C} {j d:Nat} (h:liftCE c (j:Int) (d:Int)=0):(liftC c (j:Int) (d:Int)).1.val=liftN c.1.val (j:Int) (d:Int)∧(liftC c (j:Int) (d:Int)).2.val=liftN c.2.val (j:Int) (d:Int):=by
 unfold liftC
 rw [if_pos (liftC_okD h)]
 exact⟨rfl,rfl⟩
theorem ltC_liftD {a b:C} {j d:Nat} (ha:liftCE a (j:Int) (d:Int)=0) (hb:liftCE b (j:Int) (d:Int)=0) (h:ltC a b=true):ltC (liftC a (j:Int) (d:Int)) (liftC b (j:Int) (d:Int))=true:=by
 obtain⟨ra,a1,a2⟩:=liftC_okD ha
 obtain⟨rb,b1,b2⟩:=liftC_okD hb
 obtain⟨la1,la2⟩:=right_ltsD ra
 obtain⟨lb1,lb2⟩:=right_ltsD rb
 unfold ltC at h ⊢
 rw [(liftC_eqD ha).1,(liftC_eqD ha).2,(liftC_eqD hb).1,(liftC_eqD hb).2]
 simp only [Bool.or_eq_true,Bool.and_eq_true,decide_eq_true_eq] at h ⊢
 rcases h with h|⟨h,h'⟩
 ·exact .inl (lift_ltD la1 lb1 a1 b1 h)
 ·exact .inr ⟨by rw [h],lift_ltD la2 lb2 a2 b2 h'⟩
theorem belC_liftD {a b:C} {j d:Nat} (ha:liftCE a (j:Int) (d:Int)=0) (hb:liftCE b (j:Int) (d:Int)=0) (h:belC (liftC a (j:Int) (d:Int)) (liftC b (j:Int) (d:Int))=true):belC a b=true:=by
 obtain⟨ra,a1,a2⟩:=liftC_okD ha
 obtain⟨rb,b1,b2⟩:=liftC_okD hb
 obtain⟨la1,la2⟩:=right_ltsD ra
 obtain⟨lb1,lb2⟩:=right_ltsD rb
 have h':=belC_iff.1 h
 rw [(liftC_eqD ha).1,(liftC_eqD ha).2,(liftC_eqD hb).1,(liftC_eqD hb).2] at h'
 have gen:∀ (x y:Nat),x<16777216→y<16777216→liftE x (j:Int) (d:Int)=0→liftE y (j:Int) (d:Int)=0→(∀ k,k<24→(liftN y (j:Int) (d:Int)).testBit k=true→(liftN x (j:Int) (d:Int)).testBit k=true)→∀ k,k<24→y.testBit k=true→x.testBit k=true:=by
  intro x y hx hy ex ey hh k hk hyk
  have bx:=lift_bitsD ex hx
  have by_:=lift_bitsD ey hy
  have h24:∀ z,(liftN y (j:Int) (d:Int)).testBit z=true→z<24:=fun z hd=>by
   rcases Nat.lt_or_ge z 24 with h|h
   ·exact h
   ·rw [Nat.testBit_lt_two_pow (Nat.lt_of_lt_of_le (liftN_lt y (j:Int) (d:Int)) (Nat.pow_le_pow_right (n:=2) (by omega) h))] at hd;cases hd
  by_cases hkj:k<j
  ·have e:(liftN y (j:Int) (d:Int)).testBit k=true:=by rw [by_,if_pos hkj];exact hyk
   have:=hh k (h24 k e) e
   rw [bx,if_pos hkj] at this
   exact this
  ·have e:(liftN y (j:Int) (d:Int)).testBit (k+d)=true:=by rw [by_,if_neg (by omega),if_neg (by omega),Nat.add_sub_cancel];exact hyk
   have:=hh (k+d) (h24 _ e) e
   rw [bx,if_neg (by omega),if_neg (by omega),Nat.add_sub_cancel] at this
   exact this
 exact belC_iff.2 ⟨gen _ _ la1 lb1 a1 b1 h'.1,gen _ _ la2 lb2 a2 b2 h'.2⟩
theorem liftS_mapD {j d:Nat} (l:List C):(liftS l (j:Int) (d:Int)).2=0→(liftS l (j:Int) (d:Int)).1=l.map (fun c=>liftC c (j:Int) (d:Int))∧∀ c∈l,liftCE c (j:Int) (d:Int)=0:=by
 induction l using snoc_ind with
 | nil=>intro _;exact⟨rfl,fun c hc=>by cases hc⟩
 | snoc l c ih =>
  intro h
  rw [liftS_snoc] at h ⊢
  unfold stepL at h ⊢
  by_cases h0:(liftS l (j:Int) (d:Int)).2=0
  ·rw [if_pos h0] at h ⊢
   by_cases h1:liftCE c (j:Int) (d:Int)=0
   ·rw [if_pos h1]
    obtain⟨e,hall⟩:=ih h0
    refine⟨by rw [List.map_append,← e];rfl,fun d hd=>?_⟩
    rcases List.mem_append.1 hd with hd|hd
    ·exact hall d hd
    ·rw [List.mem_singleton.1 hd];exact h1
   ·rw [if_neg h1] at h;exact absurd h h1
  ·rw [if_neg h0] at h;exact absurd h h0
theorem lift_rowD {f:List C} {j d:Nat} (h:(liftFF f (j:Int) (d:Int)).2=0):(liftFF f (j:Int) (d:Int)).1=f.map (fun c=>liftC c (j:Int) (d:Int))∧(∀ c∈f,liftCE c (j:Int) (d:Int)=0):=by
 unfold liftFF at h ⊢
 by_cases hr:rightF f=true
 ·rw [if_pos hr] at h ⊢
  by_cases h0:(liftS f (j:Int) (d:Int)).2=0
  ·rw [if_pos h0] at h ⊢
   obtain⟨e,hall⟩:=liftS_mapD f h0
   rw [e] at h ⊢
   obtain⟨hp,hlen⟩:=rightF_iff.1 hr
   have hP:PreOk (f.map fun c=>liftC c (j:Int) (d:Int)):=by
    refine⟨?_,?_,?_⟩
    ·rw [List.all_eq_true]
     intro x hx
     obtain⟨c,hc,rfl⟩:=List.mem_map.1 hx
     rw [rightC_iff,(liftC_eqD (hall c hc)).1,(liftC_eqD (hall c hc)).2]
     exact⟨liftN_lt _ _ _,liftN_lt _ _ _⟩
    ·exact List.pairwise_map.2 (List.Pairwise.imp_of_mem (fun ha hb h=>ltC_liftD (hall _ ha) (hall _ hb) h) hp.rises)
    ·intro x hx
     obtain⟨c,hc,rfl⟩:=List.mem_map.1 hx
     rw [needed_iff]
     intro y hy hb
     obtain⟨d,hd,rfl⟩:=List.mem_map.1 hy
     rw [needed_iff.1 (hp.need c hc) d hd (belC_liftD (hall c hc) (hall d hd) hb)]
   have hR:rightF (f.map fun c=>liftC c (j:Int) (d:Int))=true:=rightF_iff.2 ⟨hP,by simpa using hlen⟩
   rw [rightF_eq hR]
   exact⟨rfl,hall⟩
  ·rw [if_neg h0] at h;exact absurd h h0
 ·rw [if_neg hr] at h;cases h
theorem rowP_ne {v1 v2:Int} {d c:Nat} {r:List C} (h:d≠0):rowP ⟨v1,v2,0,(d:Int)⟩ c r=liftFF r (c:Int) (d:Int):=by
 have e:min (0:Int) 24+(c:Int)=(c:Int):=by omega
 unfold rowP
 rw [if_neg (by show ¬ (d:Int)=0;omega),e]
end Go.Proofs.YtblbhmnahoiecaaGreat
