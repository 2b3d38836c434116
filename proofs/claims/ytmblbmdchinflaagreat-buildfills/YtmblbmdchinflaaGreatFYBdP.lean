/- Lines within lines, and their ends: formulas and faces. -/
import Derived.Test.YtmblbmdchinflaaGreatEG25
set_option linter.unusedVariables false
set_option linter.unusedSimpArgs false
namespace Go.Proofs.YtmblbmdchinflaaGreat
open Go.RowKit
theorem dn_one {c x:C}:dn [c] x↔belC x c=true:=by simp [dn]
theorem partF_dn {c:C} {i:Int} {r:List C} {s:List C × Int} (h:(partF c i r s).2=0) (x:C):dn (partF c i r s).1 x↔belC x (outC c i)=true∧(hasB c.1.val i=true→dn r x)∧(hasB c.2.val i=true→dn s.1 x):=by
 have hA:(partA c i r).2=0→(dn (partA c i r).1 x↔belC x (outC c i)=true∧(hasB c.1.val i=true→dn r x)):=fun hA=>by
  unfold partA at hA ⊢
  cases h1:hasB c.1.val i
  ·simp [dn_one]
  ·rw [h1,if_pos rfl] at hA
   rw [if_pos rfl]
   unfold meetR at hA ⊢
   rw [leastF_dn hA,dn_pairs,dn_one]
   simp
 unfold partF at h ⊢
 by_cases h0:(partA c i r).2=0
 ·rw [if_pos h0] at h ⊢
  cases h2:hasB c.2.val i
  ·rw [if_neg (by simp)]
   rw [hA h0];simp
  ·rw [h2,if_pos rfl] at h
   rw [if_pos rfl]
   by_cases hs:s.2=0
   ·rw [if_pos hs] at h ⊢
    unfold meetR at h ⊢
    rw [leastF_dn h,dn_pairs,hA h0]
    simp [and_assoc]
   ·rw [if_neg hs] at h;exact absurd h hs
 ·rw [if_neg h0] at h;exact absurd h h0
theorem puts_dn {i:Int} {r:List C} {s:List C × Int} (f:List C):(putS f i r s).2=0→(∀ c∈f,(partF c i r s).2=0)∧∀ x,dn (putS f i r s).1 x↔∃ c∈f,dn (partF c i r s).1 x:=by
 induction f using snoc_ind with
 | nil=>intro _;exact⟨(fun c hc=>by cases hc),fun x=>⟨(fun ⟨d,hd,_⟩=>by simp [putS] at hd),(fun ⟨c,hc,_⟩=>by cases hc)⟩⟩
 | snoc f c ih =>
  intro h
  rw [putS_snoc] at h ⊢
  unfold stepP at h ⊢
  by_cases h0:(putS f i r s).2=0
  ·rw [if_pos h0] at h ⊢
   by_cases h1:(partF c i r s).2=0
   ·rw [if_pos h1] at h ⊢
    obtain⟨i1,i2⟩:=ih h0
    refine⟨fun d hd=>?_,fun x=>?_⟩
    ·rcases List.mem_append.1 hd with hd|hd
     ·exact i1 d hd
     ·rw [List.mem_singleton.1 hd];exact h1
    ·unfold joinR at h ⊢
     rw [leastF_dn h,dn_append,i2 x]
     constructor
     ·rintro (⟨d,hd,q⟩ | q)
      ·exact⟨d,List.mem_append_left _ hd,q⟩
      ·exact⟨c,by simp,q⟩
     ·rintro⟨d,hd,q⟩
      rcases List.mem_append.1 hd with hd|hd
      ·exact .inl ⟨d,hd,q⟩
      ·rw [List.mem_singleton.1 hd] at q;exact .inr q
   ·rw [if_neg h1] at h;exact absurd h h1
  ·rw [if_neg h0] at h;exact absurd h h0
theorem mtR_dn {f g:List C} (h:(mtR f g).2=0) {x:C} (hx:okC x=true):dn (mtR f g).1 x↔dn f x∧dn g x:=by
 unfold mtR at h ⊢
 rw [leastF_dn h,dn_calm hx,dn_pairs]
theorem prtA_dn {c:C} {i:Int} {r:List C} {s:List C × Int} (h:(prtA c i r s).2=0) {x:C} (hx:okC x=true) (hc:¬ (hasB c.1.val i=true∧hasB c.2.val i=true)):dn (prtA c i r s).1 x↔belC x (outC c i)=true∧(hasB c.1.val i=true→dn r x)∧(hasB c.2.val i=true→dn s.1 x):=by
 unfold prtA at h ⊢
 cases h1:hasB c.1.val i
 ·rw [h1,if_neg (by simp)] at h
  rw [if_neg (by simp)]
  cases h2:hasB c.2.val i
  ·rw [if_neg (by simp)]
   simp [dn_one]
  ·rw [h2,if_pos rfl] at h
   rw [if_pos rfl]
   by_cases hs:s.2=0
   ·rw [if_pos hs] at h ⊢
    rw [mtR_dn h hx,dn_one]
    simp
   ·rw [if_neg hs] at h;exact absurd h hs
 ·have h2:hasB c.2.val i=false:=by
   cases h2:hasB c.2.val i
   ·rfl
   ·exact absurd ⟨h1,h2⟩ hc
  rw [h1,if_pos rfl] at h
  rw [if_pos rfl]
  rw [mtR_dn h hx,dn_one,h2]
  simp
theorem pts_dn {i:Int} {r:List C} {s:List C × Int} (f:List C):(ptS f i r s).2=0→(∀ c∈f,(prtA c i r s).2=0)∧∀ x,dn (ptS f i r s).1 x↔∃ c∈f,dn (prtA c i r s).1 x:=by
 induction f using snoc_ind with
 | nil=>intro _;exact⟨(fun c hc=>by cases hc),fun x=>⟨(fun ⟨d,hd,_⟩=>by simp [ptS] at hd),(fun ⟨c,hc,_⟩=>by cases hc)⟩⟩
 | snoc f c ih =>
  intro h
  rw [ptS_snoc] at h ⊢
  unfold stpA at h ⊢
  by_cases h0:(ptS f i r s).2=0
  ·rw [if_pos h0] at h ⊢
   by_cases h1:(prtA c i r s).2=0
   ·rw [if_pos h1] at h ⊢
    obtain⟨i1,i2⟩:=ih h0
    refine⟨fun d hd=>?_,fun x=>?_⟩
    ·rcases List.mem_append.1 hd with hd|hd
     ·exact i1 d hd
     ·rw [List.mem_singleton.1 hd];exact h1
    ·rw [leastF_dn h,dn_append,i2 x]
     constructor
     ·rintro (⟨d,hd,q⟩ | q)
      ·exact⟨d,List.mem_append_left _ hd,q⟩
      ·exact⟨c,by simp,q⟩
     ·rintro⟨d,hd,q⟩
      rcases List.mem_append.1 hd with hd|hd
      ·exact .inl ⟨d,hd,q⟩
      ·rw [List.mem_singleton.1 hd] at q;exact .inr q
   ·rw [if_neg h1] at h;exact absurd h h1
  ·rw [if_neg h0] at h;exact absurd h h0
def e2 (a b:Nat):C:=meetC (posB a) (posB b)
theorem e2_tab:∀ d:Fin 22,notR [e2 (d.val+1) (d.val+2)]=([negB (d.val+1),negB (d.val+2)],0)∧(ofF [e2 (d.val+1) (d.val+2)]).1=[e2 (d.val+1) (d.val+2)]∧ofZ [e2 (d.val+1) (d.val+2)]=([negB (d.val+1),negB (d.val+2)],0)∧rightF [e2 (d.val+1) (d.val+2)]=true∧liftFF [e2 1 2] 0 ((d.val:Nat):Int)=([e2 (d.val+1) (d.val+2)],0):=by decide +kernel
theorem e2_far:∀ d:Fin 24,22≤d.val→(liftFF [e2 1 2] 0 ((d.val:Nat):Int)).2≠0:=by decide +kernel
theorem e2_bits {a b:Nat} (ha:a<24) (hb:b<24) (k:Nat):((e2 a b).1.val.testBit k=true↔k=a∨k=b)∧(e2 a b).2.val.testBit k=false:=by
 unfold e2
 rw [(meet_bits _ _ k).1,(meet_bits _ _ k).2,(posB_bits a k ha).1,(posB_bits a k ha).2,(posB_bits b k hb).1,(posB_bits b k hb).2]
 constructor
 ·simp only [Bool.and_eq_true,Bool.or_eq_true,decide_eq_true_eq];omega
 ·simp
def xC (c:C) (i a b:Nat):C:=meetC (meetC (outC c (i:Int)) (if c.1.val.testBit i=true then e2 a b else top0)) (if c.2.val.testBit i=true then negB a else top0)
theorem xC_bits {c:C} {i a b:Nat} (hi:i<24) (ha:a<24) (hb:b<24) (hr:rightC c=true) (k:Nat) :
  ((xC c i a b).1.val.testBit k=true↔(k≠i∧c.1.val.testBit k=true)∨(c.1.val.testBit i=true∧(k=a∨k=b))) ∧
  ((xC c i a b).2.val.testBit k=true↔(k≠i∧c.2.val.testBit k=true)∨(c.2.val.testBit i=true∧k=a)):=by
 have r1:=right_bit hr (k:=k)
 have top1:(top0:C).1.val.testBit k=false:=by simp [top0]
 have top2:(top0:C).2.val.testBit k=false:=by simp [top0]
 have b1:((if c.1.val.testBit i=true then e2 a b else top0):C).1.val.testBit k=true↔c.1.val.testBit i=true∧(k=a∨k=b):=by
  split
  ·rw [(e2_bits ha hb k).1];simp [*]
  ·rw [top1];simp [*]
 have b2:((if c.1.val.testBit i=true then e2 a b else top0):C).2.val.testBit k=false:=by
  split
  ·exact (e2_bits ha hb k).2
  ·exact top2
 have c1:((if c.2.val.testBit i=true then negB a else top0):C).1.val.testBit k=false:=by
  split
  ·exact (negB_bits a k ha).1
  ·exact top1
 have c2:((if c.2.val.testBit i=true then negB a else top0):C).2.val.testBit k=true↔c.2.val.testBit i=true∧k=a:=by
  split
  ·rw [(negB_bits a k ha).2];simp [*,eq_comm]
  ·rw [top2];simp [*]
 unfold xC
 rw [(meet_bits _ _ k).1,(meet_bits _ _ k).2,(meet_bits _ _ k).1,(meet_bits _ _ k).2,(out_bits c i k hi).1,(out_bits c i k hi).2,c1,b2]
 constructor
 ·simp only [Bool.and_eq_true,Bool.or_eq_true,Bool.or_false,decide_eq_true_eq,Bool.not_eq_true',decide_eq_false_iff_not,b1]
  constructor
  ·rintro⟨_,_,⟨⟨_,h⟩,h2⟩ | h⟩
   ·exact .inl ⟨fun e=>h2 e.symm,h⟩
   ·exact .inr h
  ·rintro (⟨h,h2⟩ | ⟨h,h2⟩)
   ·have:=r1.1 h2
    exact⟨this,this,.inl ⟨⟨this,h2⟩,fun e=>h e.symm⟩⟩
   ·have:k<24:=by omega
    exact⟨this,this,.inr ⟨h,h2⟩⟩
 ·simp only [Bool.and_eq_true,Bool.or_eq_true,Bool.or_false,decide_eq_true_eq,Bool.not_eq_true',decide_eq_false_iff_not,c2]
  constructor
  ·rintro⟨_,⟨_,⟨_,h⟩,h2⟩ | h⟩
   ·exact .inl ⟨fun e=>h2 e.symm,h⟩
   ·exact .inr h
  ·rintro (⟨h,h2⟩ | ⟨h,h2⟩)
   ·have:=r1.2 h2
    exact⟨this,.inl ⟨this,⟨this,h2⟩,fun e=>h e.symm⟩⟩
   ·have:k<24:=by omega
    exact⟨this,.inr ⟨h,h2⟩⟩
theorem bel_neg {x:C} {k:Nat} (hk:k<24):belC x (negB k)=true↔x.2.val.testBit k=true:=bel_negB hk
theorem bel_e2 {x:C} {a b:Nat} (ha:a<24) (hb:b<24):belC x (e2 a b)=true↔x.1.val.testBit a=true∧x.1.val.testBit b=true:=by
 rw [belC_iff]
 constructor
 ·rintro⟨h1,_⟩
  exact⟨h1 a ha ((e2_bits ha hb a).1.2 (.inl rfl)),h1 b hb ((e2_bits ha hb b).1.2 (.inr rfl))⟩
 ·rintro⟨h1,h2⟩
  refine⟨fun k hk q=>?_,fun k hk q=>?_⟩
  ·rcases (e2_bits ha hb k).1.1 q with rfl|rfl
   ·exact h1
   ·exact h2
  ·rw [(e2_bits ha hb k).2] at q;cases q
theorem bel_out {x c:C} {i:Nat} (hi:i<24) (hr:rightC c=true):belC x (outC c (i:Int))=true↔∀ k,k≠i→(c.1.val.testBit k=true→x.1.val.testBit k=true)∧(c.2.val.testBit k=true→x.2.val.testBit k=true):=by
 constructor
 ·intro h k hk
  have:=bel_bits (out_right c _) h k
  rw [(out_bits c i k hi).1,(out_bits c i k hi).2] at this
  simp only [Bool.and_eq_true,decide_eq_true_eq,Bool.not_eq_true',decide_eq_false_iff_not] at this
  exact⟨fun q=>this.1 ⟨⟨(right_bit hr).1 q,q⟩,fun e=>hk e.symm⟩,fun q=>this.2 ⟨⟨(right_bit hr).2 q,q⟩,fun e=>hk e.symm⟩⟩
 ·intro h
  refine bits_bel fun k=>?_
  rw [(out_bits c i k hi).1,(out_bits c i k hi).2]
  simp only [Bool.and_eq_true,decide_eq_true_eq,Bool.not_eq_true',decide_eq_false_iff_not]
  exact⟨fun q=>(h k (fun e=>q.2 e.symm)).1 q.1.2,fun q=>(h k (fun e=>q.2 e.symm)).2 q.1.2⟩
theorem xC_out {c:C} {i a b:Nat} (hi:i<24) (ha:a<24) (hb:b<24) (hr:rightC c=true):belC (xC c i a b) (outC c (i:Int))=true :=
 (bel_out hi hr).2 fun k hk=>⟨fun q=>(xC_bits hi ha hb hr k).1.2 (.inl ⟨hk,q⟩),fun q=>(xC_bits hi ha hb hr k).2.2 (.inl ⟨hk,q⟩)⟩
theorem row_no {d:Nat} {l:List C} (h:d<24→inF l d=false) (hl:∀ c∈l,rightC c=true):∀ c∈l,c.1.val.testBit d=false∧c.2.val.testBit d=false:=fun c hc=>by
 have:inF l d=false:=by
  by_cases h24:d<24
  ·exact h h24
  ·cases hh:inF l d
   ·rfl
   ·obtain⟨x,hx,hb⟩:=inF_iff.1 hh
    rcases hb with hb|hb
    ·exact absurd ((right_bit (hl x hx)).1 hb) h24
    ·exact absurd ((right_bit (hl x hx)).2 hb) h24
 constructor
 ·cases hb:c.1.val.testBit d
  ·rfl
  ·rw [inF_iff.2 ⟨c,hc,.inl hb⟩] at this;cases this
 ·cases hb:c.2.val.testBit d
  ·rfl
  ·rw [inF_iff.2 ⟨c,hc,.inr hb⟩] at this;cases this
theorem put_no0 {PF:List C→Int→List C→List C × Int} {d:Nat} {r l:List C} (h:d<24→inF l d=false):putRow PF 0 r l d=(l,0):=by
 have:=put_no (PF:=PF) (i:=0) (bd:=d) (r:=r) (l:=l) (by simpa using h)
 exact this
theorem pts_none {d a b:Nat} {l:List C} (h:d<24→inF l d=false) (hl:∀ c∈l,rightC c=true):Pts l l d a b:=by
 have hn:=row_no h hl
 refine⟨hl,fun p hp=>⟨p,hp,fun k _=>⟨id,id⟩,fun q=>?_,fun q=>?_⟩,fun c hc=>⟨c,hc,fun k q=>.inl ⟨fun e=>?_,q⟩,fun k q=>.inl ⟨fun e=>?_,q⟩⟩⟩
 ·rw [(hn p hp).1] at q;cases q
 ·rw [(hn p hp).2] at q;cases q
 ·rw [e,(hn c hc).1] at q;cases q
 ·rw [e,(hn c hc).2] at q;cases q
theorem put_is {PF:List C→Int→List C→List C × Int} {d:Nat} {l:List C} (h24:d<24) (hin:inF l d=true) (h:(putRow PF 0 [e2 1 2] l d).2=0):d<22∧putRow PF 0 [e2 1 2] l d=PF l ((d:Nat):Int) [e2 (d+1) (d+2)]:=by
 have hh:hasB (dimsN l) ((0:Int) + (d:Int))=true:=by rw [Int.zero_add,hasB_nat h24,dimsN_bit,hin];simp [h24]
 unfold putRow at h ⊢
 rw [if_pos hh] at h ⊢
 have h22:d<22:=by
  refine Nat.lt_of_not_le fun hge=>?_
  rw [if_neg (e2_far ⟨d,h24⟩ hge)] at h
  exact absurd h (e2_far ⟨d,h24⟩ hge)
 refine⟨h22,?_⟩
 rw [(e2_tab ⟨d,h22⟩).2.2.2.2,if_pos rfl,Int.zero_add]
theorem pts_put {l:List C} {d:Nat} (hl:rightF l=true) (h:(putRow putF 0 [e2 1 2] l d).2=0):Pts l (putRow putF 0 [e2 1 2] l d).1 d (d+1) (d+2):=by
 have hlr:∀ c∈l,rightC c=true:=fun c hc=>mem_right hl hc
 rcases row_cases (i:=0) (bd:=d) (l:=l) with ⟨h24,hin⟩|hin
 ·rw [Nat.zero_add] at h24 hin
  obtain⟨h22,e⟩:=put_is h24 hin h
  obtain⟨t1,t2,t3,t4,t5⟩:=e2_tab ⟨d,h22⟩
  dsimp only at t1 t2 t3 t4 t5
  have e3:putRow putF 0 [e2 1 2] l d=putS l (d:Int) [e2 (d+1) (d+2)] ([negB (d+1),negB (d+2)],0):=by
   rw [e,putF_ok hl t4 (isDimB_nat h24)]
   unfold putR
   rw [t1]
  have hR:rightF (putRow putF 0 [e2 1 2] l d).1=true:=by rw [e];exact putF_right _ _ _
  rw [e3] at h hR ⊢
  obtain⟨h0,hdn⟩:=puts_dn l h
  have B1:∀ c:C,hasB c.1.val (d:Int)=c.1.val.testBit d:=fun c=>hasB_nat h24
  have B2:∀ c:C,hasB c.2.val (d:Int)=c.2.val.testBit d:=fun c=>hasB_nat h24
  refine⟨fun p hp=>mem_right hR hp,fun p hp=>?_,fun c hc=>?_⟩
  ·obtain⟨c,hc,hp2⟩:=(hdn p).1 ⟨p,hp,belC_refl p⟩
   obtain⟨g1,g2,g3⟩:=(partF_dn (h0 c hc) p).1 hp2
   rw [B1] at g2
   rw [B2] at g3
   refine⟨c,hc,(bel_out h24 (hlr c hc)).1 g1,fun q=>?_,fun q=>?_⟩
   ·exact (bel_e2 (by omega) (by omega)).1 (dn_one.1 (g2 q))
   ·obtain⟨y,hy,hb⟩:=g3 q
    simp only [List.mem_cons,List.not_mem_nil,or_false] at hy
    rcases hy with rfl|rfl
    ·exact .inl ((bel_neg (by omega)).1 hb)
    ·exact .inr ((bel_neg (by omega)).1 hb)
  ·have hx:=(hdn (xC c d (d+1) (d+2))).2 ⟨c,hc,(partF_dn (h0 c hc) _).2 ⟨xC_out h24 (by omega) (by omega) (hlr c hc),fun q=>?_,fun q=>?_⟩⟩
   ·obtain⟨p,hp,hb⟩:=hx
    have hb2:=bel_bits (mem_right hR hp) hb
    exact⟨p,hp,fun k q=>(xC_bits h24 (by omega) (by omega) (hlr c hc) k).1.1 ((hb2 k).1 q),fun k q=>(xC_bits h24 (by omega) (by omega) (hlr c hc) k).2.1 ((hb2 k).2 q)⟩
   ·rw [B1] at q
    exact dn_one.2 ((bel_e2 (by omega) (by omega)).2 ⟨(xC_bits h24 (by omega) (by omega) (hlr c hc) _).1.2 (.inr ⟨q,.inl rfl⟩),(xC_bits h24 (by omega) (by omega) (hlr c hc) _).1.2 (.inr ⟨q,.inr rfl⟩)⟩)
   ·rw [B2] at q
    exact⟨negB (d+1),by simp,(bel_neg (by omega)).2 ((xC_bits h24 (by omega) (by omega) (hlr c hc) _).2.2 (.inr ⟨q,rfl⟩))⟩
 ·rw [Nat.zero_add] at hin
  rw [put_no0 hin]
  exact pts_none hin hlr
theorem pts_ptA {l:List C} {d:Nat} (hl:rightA l=true) (hfr:∀ c∈l,c.1.val.testBit (d+1)=false∧c.1.val.testBit (d+2)=false∧c.2.val.testBit (d+1)=false∧c.2.val.testBit (d+2)=false) (h:(putRow ptA 0 [e2 1 2] l d).2=0):Pts l (putRow ptA 0 [e2 1 2] l d).1 d (d+1) (d+2):=by
 have hlr:∀ c∈l,rightC c=true:=fun c hc=>mem_right (rightA_right hl) hc
 rcases row_cases (i:=0) (bd:=d) (l:=l) with ⟨h24,hin⟩|hin
 ·rw [Nat.zero_add] at h24 hin
  obtain⟨h22,e⟩:=put_is h24 hin h
  obtain⟨t1,t2,t3,t4,t5⟩:=e2_tab ⟨d,h22⟩
  dsimp only at t1 t2 t3 t4 t5
  have e3:putRow ptA 0 [e2 1 2] l d=ptS l (d:Int) [e2 (d+1) (d+2)] ([negB (d+1),negB (d+2)],0):=by
   rw [e]
   unfold ptA
   rw [hl,isDimB_nat h24,t4,t2,t3]
   rfl
  have hR:rightA (putRow ptA 0 [e2 1 2] l d).1=true:=by rw [e];exact ptA_right _ _ _
  rw [e3] at h hR ⊢
  have hok:∀ c∈l,okC c=true:=rightA_ok hl
  obtain⟨h0,hdn⟩:=pts_dn l h
  have B1:∀ c:C,hasB c.1.val (d:Int)=c.1.val.testBit d:=fun c=>hasB_nat h24
  have B2:∀ c:C,hasB c.2.val (d:Int)=c.2.val.testBit d:=fun c=>hasB_nat h24
  have hnb:∀ c∈l,¬ (hasB c.1.val (d:Int)=true∧hasB c.2.val (d:Int)=true):=fun c hc=>by
   rw [B1,B2];exact okC_iff.1 (hok c hc) d h24
  refine⟨fun p hp=>mem_right (rightA_right hR) hp,fun p hp=>?_,fun c hc=>?_⟩
  ·obtain⟨c,hc,hp2⟩:=(hdn p).1 ⟨p,hp,belC_refl p⟩
   obtain⟨g1,g2,g3⟩:=(prtA_dn (h0 c hc) (rightA_ok hR p hp) (hnb c hc)).1 hp2
   rw [B1] at g2
   rw [B2] at g3
   refine⟨c,hc,(bel_out h24 (hlr c hc)).1 g1,fun q=>?_,fun q=>?_⟩
   ·exact (bel_e2 (by omega) (by omega)).1 (dn_one.1 (g2 q))
   ·obtain⟨y,hy,hb⟩:=g3 q
    simp only [List.mem_cons,List.not_mem_nil,or_false] at hy
    rcases hy with rfl|rfl
    ·exact .inl ((bel_neg (by omega)).1 hb)
    ·exact .inr ((bel_neg (by omega)).1 hb)
  ·have hxo:okC (xC c d (d+1) (d+2))=true:=okC_iff.2 fun k hk ⟨q1,q2⟩=>by
    obtain⟨f1,f2,f3,f4⟩:=hfr c hc
    have o:=okC_iff.1 (hok c hc)
    rcases (xC_bits h24 (by omega) (by omega) (hlr c hc) k).1.1 q1 with ⟨n1,m1⟩|⟨m1,n1⟩ <;> rcases (xC_bits h24 (by omega) (by omega) (hlr c hc) k).2.1 q2 with ⟨n2,m2⟩|⟨m2,n2⟩
    ·exact o k hk ⟨m1,m2⟩
    ·rw [n2,f1] at m1;cases m1
    ·rcases n1 with n1|n1
     ·rw [n1,f3] at m2;cases m2
     ·rw [n1,f4] at m2;cases m2
    ·exact o d h24 ⟨m1,m2⟩
   have hx:=(hdn (xC c d (d+1) (d+2))).2 ⟨c,hc,(prtA_dn (h0 c hc) hxo (hnb c hc)).2 ⟨xC_out h24 (by omega) (by omega) (hlr c hc),fun q=>?_,fun q=>?_⟩⟩
   ·obtain⟨p,hp,hb⟩:=hx
    have hb2:=bel_bits (mem_right (rightA_right hR) hp) hb
    exact⟨p,hp,fun k q=>(xC_bits h24 (by omega) (by omega) (hlr c hc) k).1.1 ((hb2 k).1 q),fun k q=>(xC_bits h24 (by omega) (by omega) (hlr c hc) k).2.1 ((hb2 k).2 q)⟩
   ·rw [B1] at q
    exact dn_one.2 ((bel_e2 (by omega) (by omega)).2 ⟨(xC_bits h24 (by omega) (by omega) (hlr c hc) _).1.2 (.inr ⟨q,.inl rfl⟩),(xC_bits h24 (by omega) (by omega) (hlr c hc) _).1.2 (.inr ⟨q,.inr rfl⟩)⟩)
   ·rw [B2] at q
    exact⟨negB (d+1),by simp,(bel_neg (by omega)).2 ((xC_bits h24 (by omega) (by omega) (hlr c hc) _).2.2 (.inr ⟨q,rfl⟩))⟩
 ·rw [Nat.zero_add] at hin
  rw [put_no0 hin]
  exact pts_none hin hlr
theorem ones_none {l:List C} {d:Nat} (h:d<24→inF l d=false) (hl:∀ c∈l,rightC c=true):Ones l l d:=by
 have hn:=row_no h hl
 refine⟨fun q hq=>⟨q,hq,(hn q hq).2,fun m _=>⟨id,id⟩⟩,fun p hp _=>⟨p,hp,fun m=>⟨fun q=>⟨fun e=>?_,q⟩,fun q=>⟨fun e=>?_,q⟩⟩⟩⟩
 ·rw [e,(hn p hp).1] at q;cases q
 ·rw [e,(hn p hp).2] at q;cases q
theorem top_is {PF:List C→Int→List C→List C × Int} {d:Nat} {l:List C} (h24:d<24) (hin:inF l d=true):putRow PF 0 [top0] l d=PF l ((d:Nat):Int) [top0]:=by
 have hh:hasB (dimsN l) ((0:Int) + (d:Int))=true:=by rw [Int.zero_add,hasB_nat h24,dimsN_bit,hin];simp [h24]
 unfold putRow
 rw [if_pos hh,lift_top24 ⟨d,h24⟩,if_pos rfl,Int.zero_add]
theorem ones_put {l:List C} (d:Nat) (hl:rightF l=true):Ones l (putRow putF 0 [top0] l d).1 d∧rightF (putRow putF 0 [top0] l d).1=true:=by
 have hlr:∀ c∈l,rightC c=true:=fun c hc=>mem_right hl hc
 rcases row_cases (i:=0) (bd:=d) (l:=l) with ⟨h24,hin⟩|hin
 ·rw [Nat.zero_add] at h24 hin
  rw [top_is h24 hin]
  refine⟨?_,putF_right _ _ _⟩
  obtain⟨e,e0⟩:=fput_one h24 hl
  rw [e]
  refine⟨fun q hq=>?_,fun p hp hn=>?_⟩
  ·obtain⟨a,ha,rfl⟩:=List.mem_map.1 (leastF_sub q hq)
   obtain⟨ha,hN⟩:=List.mem_filter.1 ha
   refine⟨a,ha,by simpa using hN,fun m hm=>(bel_out h24 (hlr a ha)).1 (belC_refl _) m hm⟩
  ·have:dn (leastF (cut_oneL l d)).1 (outC p (d:Int)):=(leastF_dn e0 _).2 ⟨_,List.mem_map_of_mem (List.mem_filter.2 ⟨hp,by simp [hn]⟩),belC_refl _⟩
   obtain⟨q,hq,hb⟩:=this
   have hb2:=bel_bits (mem_right (leastF_right _) hq) hb
   refine⟨q,hq,fun m=>?_⟩
   have:=hb2 m
   rw [(out_bits p d m h24).1,(out_bits p d m h24).2] at this
   simp only [Bool.and_eq_true,decide_eq_true_eq,Bool.not_eq_true',decide_eq_false_iff_not] at this
   exact⟨fun g=>⟨fun e=>(this.1 g).2 e.symm,(this.1 g).1.2⟩,fun g=>⟨fun e=>(this.2 g).2 e.symm,(this.2 g).1.2⟩⟩
 ·rw [Nat.zero_add] at hin
  rw [put_no0 hin]
  exact⟨ones_none hin hlr,hl⟩
theorem ones_ptA {l:List C} (d:Nat) (hl:rightA l=true):Ones l (putRow ptA 0 [top0] l d).1 d∧rightA (putRow ptA 0 [top0] l d).1=true:=by
 have hlr:∀ c∈l,rightC c=true:=fun c hc=>mem_right (rightA_right hl) hc
 rcases row_cases (i:=0) (bd:=d) (l:=l) with ⟨h24,hin⟩|hin
 ·rw [Nat.zero_add] at h24 hin
  rw [top_is h24 hin]
  refine⟨?_,ptA_right _ _ _⟩
  obtain⟨e,e0⟩:=aput_one h24 hl
  rw [e]
  have cb:∀ (a:C) (m:Nat),(cutC (posB d) a).1.val.testBit m=(a.1.val.testBit m && !decide (d=m))∧(cutC (posB d) a).2.val.testBit m=a.2.val.testBit m:=fun a m=>by
   rw [(cut_bits _ a m).1,(cut_bits _ a m).2,(posB_bits d m h24).1,(posB_bits d m h24).2];simp
  refine⟨fun q hq=>?_,fun p hp hn=>?_⟩
  ·obtain⟨a,ha,hw,rfl⟩:=mem_rst.1 (leastF_sub q hq)
   refine⟨a,ha,?_,fun m hm=>?_⟩
   ·cases hN:a.2.val.testBit d
    ·rfl
    ·exact absurd ⟨.inr (by rw [(posB_bits d d h24).1];simp),.inl hN⟩ (meet_ok.1 hw d h24)
   ·rw [(cb a m).1,(cb a m).2]
    exact⟨fun g=>by simp only [Bool.and_eq_true,g,true_and,Bool.not_eq_true',decide_eq_false_iff_not];exact fun e=>hm e.symm,id⟩
  ·have hw:withC (posB d) p=true:=meet_ok.2 fun k hk ⟨q1,q2⟩=>by
    rw [(posB_bits d k h24).1,(posB_bits d k h24).2] at *
    rcases q2 with q2|q2
    ·rcases q1 with q1|q1
     ·exact okC_iff.1 (rightA_ok hl p hp) k hk ⟨q1,q2⟩
     ·have:d=k:=by simpa using q1
      subst this
      rw [hn] at q2;cases q2
    ·cases q2
   have:dn (leastF (rstL l (posB d))).1 (cutC (posB d) p):=(leastF_dn e0 _).2 ⟨_,mem_rst.2 ⟨p,hp,hw,rfl⟩,belC_refl _⟩
   obtain⟨q,hq,hb⟩:=this
   have hb2:=bel_bits (mem_right (leastF_right _) hq) hb
   refine⟨q,hq,fun m=>?_⟩
   have:=hb2 m
   rw [(cb p m).1,(cb p m).2] at this
   simp only [Bool.and_eq_true,Bool.not_eq_true',decide_eq_false_iff_not] at this
   refine⟨fun g=>⟨fun e=>(this.1 g).2 e.symm,(this.1 g).1⟩,fun g=>⟨fun e=>?_,this.2 g⟩⟩
   have:=this.2 g
   rw [e,hn] at this;cases this
 ·rw [Nat.zero_add] at hin
  rw [put_no0 hin]
  exact⟨ones_none hin hlr,hl⟩
theorem liftE_far {s j m:Nat} (hj:24≤j):liftE s (j:Int) (m:Int)=0:=by
 have ha:argB (j:Int) (m:Int)=false:=argB_no (by omega) (by omega)
 refine (lift_ok ha ?_).2
 unfold liftBad
 rw [List.any_eq_false]
 intro k hk
 have:=(mem_dimsOf.1 hk).1
 unfold badK
 simp only [Bool.and_eq_true,decide_eq_true_eq]
 omega
theorem lift_far {l:List C} {j m:Nat} (hj:24≤j) (hl:rightF l=true):liftFF l (j:Int) (m:Int)=(l,0):=by
 have h1:∀ c∈l,liftCE c (j:Int) (m:Int)=0:=fun c hc=>by
  unfold liftCE
  rw [if_pos (mem_right hl hc),if_pos (liftE_far hj)]
  exact liftE_far hj
 have h0:=liftS_all l h1
 unfold liftFF
 rw [if_pos hl,if_pos h0,(liftS_mapN l h0).1]
 have:l.map (fun c=>liftC c (j:Int) (m:Int))=l:=by
  conv=>rhs;rw [← List.map_id l]
  refine List.map_congr_left fun c hc=>?_
  have hb:=liftC_bits (h1 c hc)
  have hr:=fun k=>right_bit (mem_right hl hc) (k:=k)
  refine c_bits (fun k=>?_) (fun k=>?_)
  ·rw [(hb k).1]
   split
   ·rfl
   ·have h24:c.1.val.testBit k=false:=by
     cases h:c.1.val.testBit k
     ·rfl
     ·have:=(hr k).1 h;omega
    rw [id,h24]
    split
    ·rfl
    ·cases h:c.1.val.testBit (k - m)
     ·rfl
     ·exfalso
      have e:=(hb k).1
      rw [if_neg (by omega),if_neg (by omega),h] at e
      have:=(right_bit (rightC_lift c (j:Int) (m:Int))).1 e
      omega
  ·rw [(hb k).2]
   split
   ·rfl
   ·have h24:c.2.val.testBit k=false:=by
     cases h:c.2.val.testBit k
     ·rfl
     ·have:=(hr k).2 h;omega
    rw [id,h24]
    split
    ·rfl
    ·cases h:c.2.val.testBit (k - m)
     ·rfl
     ·exfalso
      have e:=(hb k).2
      rw [if_neg (by omega),if_neg (by omega),h] at e
      have:=(right_bit (rightC_lift c (j:Int) (m:Int))).2 e
      omega
 rw [this]
 exact rightF_eq hl
theorem drop_far {l:List C} {j:Nat} (hj:24≤j) (hl:rightF l=true):l.map (drC (j:Int))=l:=by
 have e:=lift_far (m:=1) hj hl
 have h:(liftFF l (j:Int) 1).2=0:=by rw [show (1:Int)=((1:Nat):Int) from rfl,e]
 have:=drop_row h
 rw [show (1:Int)=((1:Nat):Int) from rfl,e] at this
 exact this
def s2:Sf:=⟨0,0,1,2⟩
theorem rowP_s2 (d:Nat) (r:List C):rowP s2 d r=liftFF r ((d+1:Nat):Int) 2:=by
 unfold rowP s2
 rw [if_neg (by show ¬ (2:Int)=0;decide)]
 have e:min (1:Int) 24+(d:Int)=((d+1:Nat):Int):=by omega
 show liftFF r (min (1:Int) 24+(d:Int)) 2=_
 rw [e]
theorem lifted_free {l:List C} {d:Nat} (h:(liftFF l ((d+1:Nat):Int) 2).2=0):∀ c∈(liftFF l ((d+1:Nat):Int) 2).1,c.1.val.testBit (d+1)=false∧c.1.val.testBit (d+2)=false∧c.2.val.testBit (d+1)=false∧c.2.val.testBit (d+2)=false:=fun c hc=>by
 obtain⟨_,hall,m1,_,_⟩:=liftFF_facts h
 obtain⟨c0,hc0,rfl⟩:=m1 c hc
 have hb:=liftC_bits (m:=2) (hall c0 hc0)
 rw [show ((2:Nat):Int)=2 from rfl] at hb
 refine⟨?_,?_,?_,?_⟩
 ·rw [(hb _).1,if_neg (by omega),if_pos (by omega)]
 ·rw [(hb _).1,if_neg (by omega),if_pos (by omega)]
 ·rw [(hb _).2,if_neg (by omega),if_pos (by omega)]
 ·rw [(hb _).2,if_neg (by omega),if_pos (by omega)]
theorem chain_F {l:List C} {d:Nat} (hl:rightF l=true) (h1:(rowP s2 d l).2=0) (h2:(putRow putF 0 [e2 1 2] (rowP s2 d l).1 d).2=0) (h3:rightF ((putRow putF 0 [e2 1 2] (rowP s2 d l).1 d).1.map (drC (d:Int)))=true) :
  (putRow putF 0 [top0] ((putRow putF 0 [e2 1 2] (rowP s2 d l).1 d).1.map (drC (d:Int))) (d+1)).1.map (drC ((d+1:Nat):Int))=l:=by
 rw [rowP_s2] at h1 h2 h3 ⊢
 by_cases hd:d<24
 ·obtain⟨_,_,_,_,hR⟩:=liftFF_facts h1
  obtain⟨hQ,hQr⟩:=ones_put (d+1) h3
  obtain⟨e1,e2⟩:=row_chain hd h1 (pts_put hR h2) hQ hQr
  rw [e2]
  exact drop_row e1
 ·have e1:=lift_far (m:=2) (show 24≤d+1 by omega) hl
  rw [show ((2:Nat):Int)=2 from rfl] at e1
  rw [e1]
  dsimp only
  have e2:putRow putF 0 [e2 1 2] l d=(l,0):=put_no0 (fun h=>absurd h hd)
  rw [e2]
  dsimp only
  rw [drop_far (by omega) hl,put_no0 (fun h=>absurd h (by omega))]
  exact drop_far (by omega) hl
theorem chain_A {l:List C} {d:Nat} (hl:rightA l=true) (h1:(rowP s2 d l).2=0) (h2:(putRow ptA 0 [e2 1 2] (rowP s2 d l).1 d).2=0) (h3:rightA ((putRow ptA 0 [e2 1 2] (rowP s2 d l).1 d).1.map (drC (d:Int)))=true) :
  (putRow ptA 0 [top0] ((putRow ptA 0 [e2 1 2] (rowP s2 d l).1 d).1.map (drC (d:Int))) (d+1)).1.map (drC ((d+1:Nat):Int))=l ∧
  (l≠[]→(rowP s2 d l).1≠[]∧(putRow ptA 0 [e2 1 2] (rowP s2 d l).1 d).1≠[]∧(putRow ptA 0 [top0] ((putRow ptA 0 [e2 1 2] (rowP s2 d l).1 d).1.map (drC (d:Int))) (d+1)).1≠[]):=by
 have hA:=rowP_rightA (s:=s2) (by show (0:Int)≤2;decide) d hl
 have hne:l≠[]→(rowP s2 d l).1≠[]:=fun h e=>by
  rw [rowP_s2] at h1 e
  obtain⟨_,_,_,m2,_⟩:=liftFF_facts h1
  obtain⟨c,hc⟩:=List.exists_mem_of_ne_nil l h
  obtain⟨x,hx,_⟩:=m2 c hc
  rw [e] at hx;cases hx
 have hR:=hA
 rw [rowP_s2] at h1 h2 h3 hR
 have key:(putRow ptA 0 [top0] ((putRow ptA 0 [e2 1 2] (liftFF l ((d+1:Nat):Int) 2).1 d).1.map (drC (d:Int))) (d+1)).1.map (drC ((d+1:Nat):Int))=l∧((liftFF l ((d+1:Nat):Int) 2).1≠[]→(putRow ptA 0 [e2 1 2] (liftFF l ((d+1:Nat):Int) 2).1 d).1≠[]):=by
  by_cases hd:d<24
  ·have hP:=pts_ptA hR (lifted_free h1) h2
   obtain⟨hQ,hQr⟩:=ones_ptA (d+1) h3
   obtain⟨e1,e2⟩:=row_chain hd h1 hP hQ (rightA_right hQr)
   refine⟨by rw [e2];exact drop_row e1,fun hn e=>?_⟩
   obtain⟨c,hc⟩:=List.exists_mem_of_ne_nil _ hn
   obtain⟨p,hp,_⟩:=hP.up1 c hc
   rw [e] at hp;cases hp
  ·have e1:=lift_far (m:=2) (show 24≤d+1 by omega) (rightA_right hl)
   rw [show ((2:Nat):Int)=2 from rfl] at e1
   rw [e1]
   dsimp only
   have e2:putRow ptA 0 [e2 1 2] l d=(l,0):=put_no0 (fun h=>absurd h hd)
   rw [e2]
   dsimp only
   rw [drop_far (by omega) (rightA_right hl),put_no0 (fun h=>absurd h (by omega))]
   exact⟨drop_far (by omega) (rightA_right hl),id⟩
 rw [← rowP_s2] at key
 refine⟨key.1,fun h=>⟨hne h,key.2 (hne h),fun e=>?_⟩⟩
 have:=key.1
 rw [e] at this
 exact h this.symm
theorem face_stays {l:List C} {d:Nat} (hl:rightA l=true) (h1:(rowP s2 d l).2=0) (h2:(putRow ptA 0 [e2 1 2] (rowP s2 d l).1 d).2=0) (hn:l≠[]):(putRow ptA 0 [e2 1 2] (rowP s2 d l).1 d).1≠[]:=by
 have hA:=rowP_rightA (s:=s2) (by show (0:Int)≤2;decide) d hl
 rw [rowP_s2] at h1 h2 hA ⊢
 obtain⟨_,_,_,m2,_⟩:=liftFF_facts h1
 obtain⟨c,hc⟩:=List.exists_mem_of_ne_nil l hn
 obtain⟨x,hx,_⟩:=m2 c hc
 obtain⟨p,hp,_⟩:=(pts_ptA hA (lifted_free h1) h2).up1 x hx
 intro e
 rw [e] at hp;cases hp
end Go.Proofs.YtmblbmdchinflaaGreat
