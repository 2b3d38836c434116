/- A formula in a dimension's place, and lifts: rows. -/
import Derived.Test.YtblbhmnahoiecaaGreatGG36
import Derived.Test.YtblbhmnahoiecaaGreatGG15
set_option linter.unusedVariables false
set_option linter.unusedSimpArgs false
namespace Go.Proofs.YtblbhmnahoiecaaGreat
open Go.RowKit
def unN (s c m:Nat):Nat:=(s % 2 ^ c) ||| ((s >>> (c+m)) <<< c)
theorem unN_bit (s c m k:Nat):(unN s c m).testBit k=if k<c then s.testBit k else s.testBit (k+m):=by
 unfold unN
 rw [Nat.testBit_or,Nat.testBit_mod_two_pow,Nat.testBit_shiftLeft,Nat.testBit_shiftRight]
 by_cases h:k<c
 ·have h2:¬ c≤k:=by omega
  simp [h,h2]
 ·have h2:c≤k:=by omega
  have h3:c+m+(k - c)=k+m:=by omega
  simp [h,h2,h3]
theorem unN_lt {s c m:Nat} (h:s<4294967296):unN s c m<4294967296:=by
 have e:(4294967296:Nat)=2 ^ 32:=by decide
 rw [e] at h ⊢
 refine Nat.lt_pow_two_of_testBit _ fun k hk=>?_
 rw [unN_bit]
 split
 ·exact Nat.testBit_lt_two_pow (Nat.lt_of_lt_of_le h (Nat.pow_le_pow_right (by decide) hk))
 ·exact Nat.testBit_lt_two_pow (Nat.lt_of_lt_of_le h (Nat.pow_le_pow_right (by decide) (by omega)))
def unC (c m:Nat) (y:C):C:=(⟨unN y.1.val c m,unN_lt y.1.isLt⟩,⟨unN y.2.val c m,unN_lt y.2.isLt⟩)
theorem unC_bits (c m:Nat) (y:C) (k:Nat):(unC c m y).1.val.testBit k=(if k<c then y.1.val.testBit k else y.1.val.testBit (k+m))∧(unC c m y).2.val.testBit k=(if k<c then y.2.val.testBit k else y.2.val.testBit (k+m)):=⟨unN_bit _ _ _ _,unN_bit _ _ _ _⟩
theorem unC_ok {c m:Nat} {y:C} (hr:rightC y=true) (h:okC y=true):okC (unC c m y)=true:=by
 rw [okC_iff] at h ⊢
 intro k hk
 rw [(unC_bits c m y k).1,(unC_bits c m y k).2]
 split
 ·exact h k hk
 ·by_cases h24:k+m<24
  ·exact h _ h24
  ·rintro⟨q,_⟩
   exact h24 ((right_bit hr).1 q)
def LiC (c m:Nat) (d d':C):Prop:=∀ k,(d'.1.val.testBit k=if k<c then d.1.val.testBit k else if k<c+m then false else d.1.val.testBit (k - m))∧(d'.2.val.testBit k=if k<c then d.2.val.testBit k else if k<c+m then false else d.2.val.testBit (k - m))
theorem LiC.up {c m:Nat} {d d':C} (h:LiC c m d d') (k:Nat):d'.1.val.testBit (if k<c then k else k+m)=d.1.val.testBit k∧d'.2.val.testBit (if k<c then k else k+m)=d.2.val.testBit k:=by
 have q:=h (if k<c then k else k+m)
 rw [q.1,q.2]
 by_cases hk:k<c
 ·simp [hk]
 ·have h1:¬ k+m<c:=by omega
  have h2:¬ k+m<c+m:=by omega
  simp [hk,h1,h2]
theorem unC_up (c m:Nat) (y:C) (k:Nat):(unC c m y).1.val.testBit k=y.1.val.testBit (if k<c then k else k+m)∧(unC c m y).2.val.testBit k=y.2.val.testBit (if k<c then k else k+m):=by
 have:=unC_bits c m y k
 by_cases hk:k<c
 ·simpa [hk] using this
 ·simpa [hk] using this
theorem LiC.from {c m:Nat} {d d':C} (h:LiC c m d d') (k:Nat) (hb:d'.1.val.testBit k=true∨d'.2.val.testBit k=true):∃ j,k=if j<c then j else j+m:=by
 have q:=h k
 by_cases h1:k<c
 ·exact⟨k,by rw [if_pos h1]⟩
 ·by_cases h2:k<c+m
  ·exfalso
   rw [q.1,q.2,if_neg h1,if_pos h2,if_neg h1,if_pos h2] at hb
   rcases hb with hb|hb <;> cases hb
  ·exact⟨k - m,by rw [if_neg (by omega)];omega⟩
theorem LiC.bel {c m:Nat} {d d' y:C} (h:LiC c m d d') (hr:rightC d=true) (hr':rightC d'=true):belC y d'=true↔belC (unC c m y) d=true:=by
 constructor
 ·intro hb
  have b:=bel_bits hr' hb
  refine bits_bel fun k=>?_
  rw [(unC_up c m y k).1,(unC_up c m y k).2,← (h.up k).1,← (h.up k).2]
  exact b _
 ·intro hb
  have b:=bel_bits hr hb
  refine bits_bel fun k=>⟨fun q=>?_,fun q=>?_⟩
  ·obtain⟨j,rfl⟩:=h.from k (.inl q)
   rw [(h.up j).1] at q
   rw [← (unC_up c m y j).1]
   exact (b j).1 q
  ·obtain⟨j,rfl⟩:=h.from k (.inr q)
   rw [(h.up j).2] at q
   rw [← (unC_up c m y j).2]
   exact (b j).2 q
theorem LiC.hit {c m:Nat} {d d' y:C} (h:LiC c m d d') (hr:rightC d=true) (hr':rightC d'=true):hit y d'↔hit (unC c m y) d:=by
 constructor
 ·rintro⟨k,hk,hh⟩
  rcases hh with ⟨q1,q2⟩|⟨q1,q2⟩
  ·obtain⟨j,rfl⟩:=h.from k (.inl q1)
   rw [(h.up j).1] at q1
   exact⟨j,(right_bit hr).1 q1,.inl ⟨q1,by rw [(unC_up c m y j).2];exact q2⟩⟩
  ·obtain⟨j,rfl⟩:=h.from k (.inr q1)
   rw [(h.up j).2] at q1
   exact⟨j,(right_bit hr).2 q1,.inr ⟨q1,by rw [(unC_up c m y j).1];exact q2⟩⟩
 ·rintro⟨j,hj,hh⟩
  rw [(unC_up c m y j).1,(unC_up c m y j).2] at hh
  rw [← (h.up j).1,← (h.up j).2] at hh
  rcases hh with ⟨q1,q2⟩|⟨q1,q2⟩
  ·exact⟨_,(right_bit hr').1 q1,.inl ⟨q1,q2⟩⟩
  ·exact⟨_,(right_bit hr').2 q1,.inr ⟨q1,q2⟩⟩
theorem LiC.has {c m j:Nat} {d d':C} (h:LiC c m d d') (hc:c≤j) (hj:j+m<24):hasB d'.1.val ((j+m:Nat):Int)=hasB d.1.val (j:Int)∧hasB d'.2.val ((j+m:Nat):Int)=hasB d.2.val (j:Int):=by
 have q:=h.up j
 rw [if_neg (by omega)] at q
 rw [hasB_nat hj,hasB_nat hj,hasB_nat (by omega),hasB_nat (by omega)]
 exact q
theorem LiC.out {c m j:Nat} {d d' y:C} (h:LiC c m d d') (hr:rightC d=true) (hr':rightC d'=true) (hc:c≤j) (hj:j+m<24):belC y (outC d' ((j+m:Nat):Int))=true↔belC (unC c m y) (outC d (j:Int))=true:=by
 rw [bel_out hj hr',bel_out (by omega) hr]
 constructor
 ·intro hb k hk
  rw [(unC_up c m y k).1,(unC_up c m y k).2,← (h.up k).1,← (h.up k).2]
  refine hb _ ?_
  split <;> omega
 ·intro hb k hk
  refine⟨fun q=>?_,fun q=>?_⟩
  ·obtain⟨i,rfl⟩:=h.from k (.inl q)
   rw [(h.up i).1] at q
   rw [← (unC_up c m y i).1]
   refine (hb i (fun e=>hk ?_)).1 q
   subst e;rw [if_neg (by omega)]
  ·obtain⟨i,rfl⟩:=h.from k (.inr q)
   rw [(h.up i).2] at q
   rw [← (unC_up c m y i).2]
   refine (hb i (fun e=>hk ?_)).2 q
   subst e;rw [if_neg (by omega)]
def LiR (c m:Nat) (l l':List C):Prop:=(∀ d∈l,∃ d'∈l',LiC c m d d')∧(∀ d'∈l',∃ d∈l,LiC c m d d')
theorem LiR.dn {c m:Nat} {l l':List C} (h:LiR c m l l') (hl:∀ d∈l,rightC d=true) (hl':∀ d∈l',rightC d=true) (y:C):dn l' y↔dn l (unC c m y):=by
 constructor
 ·rintro⟨d',hd',hb⟩
  obtain⟨d,hd,q⟩:=h.2 d' hd'
  exact⟨d,hd,(q.bel (hl d hd) (hl' d' hd')).1 hb⟩
 ·rintro⟨d,hd,hb⟩
  obtain⟨d',hd',q⟩:=h.1 d hd
  exact⟨d',hd',(q.bel (hl d hd) (hl' d' hd')).2 hb⟩
theorem LiR.hits {c m:Nat} {l l':List C} (h:LiR c m l l') (hl:∀ d∈l,rightC d=true) (hl':∀ d∈l',rightC d=true) (y:C):(∀ d∈l',hit y d)↔∀ d∈l,hit (unC c m y) d:=by
 constructor
 ·intro g d hd
  obtain⟨d',hd',q⟩:=h.1 d hd
  exact (q.hit (hl d hd) (hl' d' hd')).1 (g d' hd')
 ·intro g d' hd'
  obtain⟨d,hd,q⟩:=h.2 d' hd'
  exact (q.hit (hl d hd) (hl' d' hd')).2 (g d hd)
theorem lfR_map {f:List C} {j d:Nat} (h:(liftFF f (j:Int) (d:Int)).2=0):LiR j d f (liftFF f (j:Int) (d:Int)).1:=by
 obtain⟨e,hall⟩:=lift_rowD h
 rw [e]
 refine⟨fun x hx=>⟨_,List.mem_map_of_mem hx,fun k=>liftC_bits (hall x hx) k⟩,fun x hx=>?_⟩
 obtain⟨z,hz,rfl⟩:=List.mem_map.1 hx
 exact⟨z,hz,fun k=>liftC_bits (hall z hz) k⟩
theorem lift_right {f:List C} {a b:Int} (h:(liftFF f a b).2=0):rightF (liftFF f a b).1=true:=(liftFF_facts h).2.2.2.2
theorem lfR_two {r:List C} {c m:Nat} (h1:(liftFF r 0 (c:Int)).2=0) (h2:(liftFF r 0 ((c+m:Nat):Int)).2=0):LiR c m (liftFF r 0 (c:Int)).1 (liftFF r 0 ((c+m:Nat):Int)).1:=by
 have h1':(liftFF r ((0:Nat):Int) (c:Int)).2=0:=h1
 have h2':(liftFF r ((0:Nat):Int) ((c+m:Nat):Int)).2=0:=h2
 obtain⟨e1,a1⟩:=lift_rowD h1'
 obtain⟨e2,a2⟩:=lift_rowD h2'
 have key:∀ z∈r,LiC c m (liftC z ((0:Nat):Int) (c:Int)) (liftC z ((0:Nat):Int) ((c+m:Nat):Int)):=fun z hz k=>by
  have q1:=liftC_bits (a1 z hz) k
  have q3:=liftC_bits (a1 z hz) (k - m)
  have q2:=liftC_bits (a2 z hz) k
  rw [q2.1,q2.2,q1.1,q1.2,q3.1,q3.2]
  by_cases g1:k<c
  ·have g2:k<0+(c+m):=by omega
   have g3:k<0+c:=by omega
   simp [g1,g2,g3]
   omega
  ·by_cases g2:k<c+m
   ·have g3:k<0+(c+m):=by omega
    simp [g1,g2,g3]
   ·have g3:¬ k<0+(c+m):=by omega
    have g4:¬ (k - m<0+c):=by omega
    have g5:k - (c+m)=k - m - c:=by omega
    simp [g1,g2,g3,g4,g5]
    constructor <;> intros <;> omega
 show LiR c m (liftFF r ((0:Nat):Int) (c:Int)).1 (liftFF r ((0:Nat):Int) ((c+m:Nat):Int)).1
 rw [e1,e2]
 refine⟨fun x hx=>?_,fun x hx=>?_⟩
 ·obtain⟨z,hz,rfl⟩:=List.mem_map.1 hx
  exact⟨_,List.mem_map_of_mem hz,key z hz⟩
 ·obtain⟨z,hz,rfl⟩:=List.mem_map.1 hx
  exact⟨_,List.mem_map_of_mem hz,key z hz⟩
theorem partF_s {c:C} {i:Int} {r:List C} {s:List C × Int} (h:(partF c i r s).2=0) (h2:hasB c.2.val i=true):s.2=0:=by
 unfold partF at h
 by_cases h0:(partA c i r).2=0
 ·rw [if_pos h0,if_pos h2] at h
  by_cases hs:s.2=0
  ·exact hs
  ·rw [if_neg hs] at h;exact absurd h hs
 ·rw [if_neg h0] at h;exact absurd h h0
theorem putR_dn {l r:List C} {i:Int} (h:(putR l i r).2=0) (y:C):dn (putR l i r).1 y↔∃ c∈l,belC y (outC c i)=true∧(hasB c.1.val i=true→dn r y)∧(hasB c.2.val i=true→∀ d∈r,hit y d):=by
 unfold putR at h ⊢
 obtain⟨h0,hdn⟩:=puts_dn l h
 rw [hdn y]
 constructor
 ·rintro⟨c,hc,q⟩
  obtain⟨g1,g2,g3⟩:=(partF_dn (h0 c hc) y).1 q
  exact⟨c,hc,g1,g2,fun hb=>(notR_dn (partF_s (h0 c hc) hb) y).1 (g3 hb)⟩
 ·rintro⟨c,hc,g1,g2,g3⟩
  exact⟨c,hc,(partF_dn (h0 c hc) y).2 ⟨g1,g2,fun hb=>(notR_dn (partF_s (h0 c hc) hb) y).2 (g3 hb)⟩⟩
theorem putF_ne {f r:List C} {i:Int} (h:(putF f i r).2=0):rightF f=true∧rightF r=true∧isDimB i=true∧putF f i r=putR f i r:=by
 unfold putF at h ⊢
 split at h
 ·rename_i hh
  simp only [Bool.and_eq_true] at hh
  rw [if_pos (by simp only [Bool.and_eq_true];exact hh)]
  exact⟨hh.1.1,hh.1.2,hh.2,rfl⟩
 ·cases h
theorem put_liftF {l l' r r' P':List C} {j c m:Nat} (hc:c≤j) (hj:j+m<24) (hl:LiR c m l l') (hr:LiR c m r r')
  (h1:(putF l (j:Int) r).2=0) (h2:(putF l' ((j+m:Nat):Int) r').2=0) (hP:LiR c m (putF l (j:Int) r).1 P') (hP':rightF P'=true):(putF l' ((j+m:Nat):Int) r').1=P':=by
 have hPr:rightF (putF l (j:Int) r).1=true:=putF_right _ _ _
 have hQr:rightF (putF l' ((j+m:Nat):Int) r').1=true:=putF_right _ _ _
 obtain⟨a1,a2,a3,a4⟩:=putF_ne h1
 obtain⟨b1,b2,b3,b4⟩:=putF_ne h2
 have L1:∀ d∈l,rightC d=true:=fun d hd=>mem_right a1 hd
 have L2:∀ d∈l',rightC d=true:=fun d hd=>mem_right b1 hd
 have R1:∀ d∈r,rightC d=true:=fun d hd=>mem_right a2 hd
 have R2:∀ d∈r',rightC d=true:=fun d hd=>mem_right b2 hd
 refine rightF_ext hQr hP' fun y hy=>?_
 rw [hP.dn (fun d hd=>mem_right hPr hd) (fun d hd=>mem_right hP' hd) y]
 rw [a4] at h1 ⊢
 rw [b4] at h2 ⊢
 rw [putR_dn h1,putR_dn h2]
 constructor
 ·rintro⟨d',hd',g1,g2,g3⟩
  obtain⟨d,hd,q⟩:=hl.2 d' hd'
  refine⟨d,hd,(q.out (L1 d hd) (L2 d' hd') hc hj).1 g1,fun hb=>?_,fun hb=>?_⟩
  ·exact (hr.dn R1 R2 y).1 (g2 (by rw [(q.has hc hj).1];exact hb))
  ·exact (hr.hits R1 R2 y).1 (g3 (by rw [(q.has hc hj).2];exact hb))
 ·rintro⟨d,hd,g1,g2,g3⟩
  obtain⟨d',hd',q⟩:=hl.1 d hd
  refine⟨d',hd',(q.out (L1 d hd) (L2 d' hd') hc hj).2 g1,fun hb=>?_,fun hb=>?_⟩
  ·exact (hr.dn R1 R2 y).2 (g2 (by rw [← (q.has hc hj).1];exact hb))
  ·exact (hr.hits R1 R2 y).2 (g3 (by rw [← (q.has hc hj).2];exact hb))
theorem prtA_s {c:C} {i:Int} {r:List C} {s:List C × Int} (h:(prtA c i r s).2=0) (h1:hasB c.1.val i=false) (h2:hasB c.2.val i=true):s.2=0:=by
 unfold prtA at h
 rw [h1,if_neg (by simp),if_pos h2] at h
 by_cases hs:s.2=0
 ·exact hs
 ·rw [if_neg hs] at h;exact absurd h hs
theorem ofF_dn {r:List C} (hr:rightF r=true) {y:C} (hy:okC y=true):dn (ofF r).1 y↔dn r y:=by
 have h:=ofF_told hr
 have e:ofF r=leastF (calmC r):=by unfold ofF;rw [if_pos hr]
 rw [e] at h ⊢
 rw [leastF_dn h,dn_calm hy]
theorem ofZ_dn {r:List C} (h:(ofZ r).2=0) {y:C} (hy:okC y=true):dn (ofZ r).1 y↔∀ d∈r,hit y d:=by
 by_cases hn:(notF r).2=0
 ·obtain⟨hr,e⟩:=notF_told hn
  have e2:ofZ r=leastF (calmC (notF r).1):=by unfold ofZ;rw [if_pos hn]
  rw [e2] at h ⊢
  rw [leastF_dn h,dn_calm hy]
  rw [e] at hn ⊢
  exact notR_dn hn y
 ·rw [ofZ_no hn] at h;exact absurd h hn
theorem ptA_ne {f r:List C} {i:Int} (h:(ptA f i r).2=0):rightA f=true∧rightF r=true∧isDimB i=true∧ptA f i r=ptS f i (ofF r).1 (ofZ r):=by
 unfold ptA at h ⊢
 split at h
 ·rename_i hh
  simp only [Bool.and_eq_true] at hh
  rw [if_pos (by simp only [Bool.and_eq_true];exact hh)]
  exact⟨hh.1.1,hh.2,hh.1.2,rfl⟩
 ·cases h
theorem ptA_dn {l r:List C} {i:Nat} (hi:i<24) (h:(ptA l (i:Int) r).2=0) {y:C} (hy:okC y=true):dn (ptA l (i:Int) r).1 y↔∃ c∈l,belC y (outC c (i:Int))=true∧(hasB c.1.val (i:Int)=true→dn r y)∧(hasB c.2.val (i:Int)=true→∀ d∈r,hit y d):=by
 obtain⟨a1,a2,a3,a4⟩:=ptA_ne h
 rw [a4] at h ⊢
 obtain⟨h0,hdn⟩:=pts_dn l h
 have hnb:∀ c∈l,¬ (hasB c.1.val (i:Int)=true∧hasB c.2.val (i:Int)=true):=fun c hc=>by
  rw [hasB_nat hi,hasB_nat hi];exact okC_iff.1 (rightA_ok a1 c hc) i hi
 have no1:∀ c∈l,hasB c.2.val (i:Int)=true→hasB c.1.val (i:Int)=false:=fun c hc hb=>by
  cases hh:hasB c.1.val (i:Int)
  ·rfl
  ·exact absurd ⟨hh,hb⟩ (hnb c hc)
 rw [hdn y]
 constructor
 ·rintro⟨c,hc,q⟩
  obtain⟨g1,g2,g3⟩:=(prtA_dn (h0 c hc) hy (hnb c hc)).1 q
  exact⟨c,hc,g1,fun hb=>(ofF_dn a2 hy).1 (g2 hb),fun hb=>(ofZ_dn (prtA_s (h0 c hc) (no1 c hc hb) hb) hy).1 (g3 hb)⟩
 ·rintro⟨c,hc,g1,g2,g3⟩
  exact⟨c,hc,(prtA_dn (h0 c hc) hy (hnb c hc)).2 ⟨g1,fun hb=>(ofF_dn a2 hy).2 (g2 hb),fun hb=>(ofZ_dn (prtA_s (h0 c hc) (no1 c hc hb) hb) hy).2 (g3 hb)⟩⟩
theorem rightA_ext {f g:List C} (hf:rightA f=true) (hg:rightA g=true) (h:∀ y,rightC y=true→okC y=true→(dn f y↔dn g y)):f=g:=by
 have one:∀ {f g:List C},rightA f=true→(∀ y,rightC y=true→okC y=true→(dn f y→dn g y))→∀ y,dn f y→dn g y:=fun {f g} hf h y ⟨d,hd,hb⟩=>dn_mono hb (h d (mem_right (rightA_right hf) hd) (rightA_ok hf d hd) ⟨d,hd,belC_refl d⟩)
 exact rightF_ext (rightA_right hf) (rightA_right hg) fun y _=>⟨one hf (fun y h1 h2=>(h y h1 h2).1) y,one hg (fun y h1 h2=>(h y h1 h2).2) y⟩
theorem put_liftA {l l' r r' P':List C} {j c m:Nat} (hc:c≤j) (hj:j+m<24) (hl:LiR c m l l') (hr:LiR c m r r')
  (h1:(ptA l (j:Int) r).2=0) (h2:(ptA l' ((j+m:Nat):Int) r').2=0) (hP:LiR c m (ptA l (j:Int) r).1 P') (hP':rightA P'=true):(ptA l' ((j+m:Nat):Int) r').1=P':=by
 have hPr:rightA (ptA l (j:Int) r).1=true:=ptA_right _ _ _
 have hQr:rightA (ptA l' ((j+m:Nat):Int) r').1=true:=ptA_right _ _ _
 obtain⟨a1,a2,a3,a4⟩:=ptA_ne h1
 obtain⟨b1,b2,b3,b4⟩:=ptA_ne h2
 have L1:∀ d∈l,rightC d=true:=fun d hd=>mem_right (rightA_right a1) hd
 have L2:∀ d∈l',rightC d=true:=fun d hd=>mem_right (rightA_right b1) hd
 have R1:∀ d∈r,rightC d=true:=fun d hd=>mem_right a2 hd
 have R2:∀ d∈r',rightC d=true:=fun d hd=>mem_right b2 hd
 refine rightA_ext hQr hP' fun y hy hok=>?_
 rw [hP.dn (fun d hd=>mem_right (rightA_right hPr) hd) (fun d hd=>mem_right (rightA_right hP') hd) y]
 rw [ptA_dn (by omega) h1 (unC_ok hy hok),ptA_dn hj h2 hok]
 constructor
 ·rintro⟨d',hd',g1,g2,g3⟩
  obtain⟨d,hd,q⟩:=hl.2 d' hd'
  refine⟨d,hd,(q.out (L1 d hd) (L2 d' hd') hc hj).1 g1,fun hb=>?_,fun hb=>?_⟩
  ·exact (hr.dn R1 R2 y).1 (g2 (by rw [(q.has hc hj).1];exact hb))
  ·exact (hr.hits R1 R2 y).1 (g3 (by rw [(q.has hc hj).2];exact hb))
 ·rintro⟨d,hd,g1,g2,g3⟩
  obtain⟨d',hd',q⟩:=hl.1 d hd
  refine⟨d',hd',(q.out (L1 d hd) (L2 d' hd') hc hj).2 g1,fun hb=>?_,fun hb=>?_⟩
  ·exact (hr.dn R1 R2 y).2 (g2 (by rw [← (q.has hc hj).1];exact hb))
  ·exact (hr.hits R1 R2 y).2 (g3 (by rw [← (q.has hc hj).2];exact hb))
def RK (d:Nat):Tm→Nat→Prop:=Tm.fold fun k _ _ r ks sys bd =>
 (rowP ⟨0,0,0,(d:Int)⟩ bd r).2=0∧(∀ p∈ks.zipIdx,p.1 (bd+bdK k p.2))∧∀ b∈sys,(rowP ⟨0,0,0,(d:Int)⟩ bd b.1).2=0∧∀ f∈b.2,f (bd+moreK k)
theorem rk_eq (d:Nat) (t:Tm) (bd:Nat):RK d t bd↔((rowP ⟨0,0,0,(d:Int)⟩ bd t.r).2=0∧(∀ (i:Nat) (x:Tm),t.kids[i]? = some x→RK d x (bd+bdK t.kind i))∧∀ b∈t.sys,(rowP ⟨0,0,0,(d:Int)⟩ bd b.1).2=0∧∀ x∈b.2,RK d x (bd+moreK t.kind)):=by
 unfold RK
 rw [fold_mk]
 refine and_congr Iff.rfl (and_congr ⟨fun h i x hx=>?_,fun h p hp=>?_⟩ ⟨fun h b hb=>?_,fun h b hb=>?_⟩)
 ·refine h (_,i) ?_
  rw [List.mem_zipIdx_iff_getElem?,List.getElem?_map,hx]
  rfl
 ·obtain⟨g,i⟩:=p
  rw [List.mem_zipIdx_iff_getElem?,List.getElem?_map] at hp
  cases hx:t.kids[i]? with
  | none=>rw [hx] at hp;simp at hp
  | some x =>
   rw [hx] at hp
   simp only [Option.map_some,Option.some.injEq] at hp
   subst hp
   exact h i x hx
 ·have:=h _ (List.mem_map.2 ⟨b,hb,rfl⟩)
  exact⟨this.1,fun x hx=>this.2 _ (List.mem_map.2 ⟨x,hx,rfl⟩)⟩
 ·obtain⟨c,hc,rfl⟩:=List.mem_map.1 hb
  refine⟨(h c hc).1,fun f hf=>?_⟩
  obtain⟨x,hx,rfl⟩:=List.mem_map.1 hf
  exact (h c hc).2 x hx
theorem liK_get? (s:Sf) (k:Int) (l:List Tm) (bv bd i:Nat):(liK s k l bv bd)[i]? = (l[i]?).map fun x=>liT s x (bv+bvK k i) (bd+bdK k i):=by
 unfold liK
 rw [List.getElem?_map,List.getElem?_zipIdx]
 cases l[i]? <;> simp
theorem putK_get? (n:Int) (u:Tm) (k:Int) (l:List Tm) (bv bd i:Nat):(putK n u k l bv bd)[i]? = (l[i]?).map fun x=>putT n u x (bv+bvK k i) (bd+bdK k i):=by
 unfold putK
 rw [List.getElem?_map,List.getElem?_zipIdx]
 cases l[i]? <;> simp
theorem rk_of_er {v a:Int} {d:Nat}:∀ (N:Nat) (t:Tm) (bv bd:Nat),blk t≤N→erT ⟨v,a,0,(d:Int)⟩ t bv bd=0→RK d t bd
 | 0,t,bv,bd,h,_=>by have:=blk_pos t;omega
 | N+1,t,bv,bd,h,he=>by
  rw [er_eq,firstE_zero] at he
  have h1:=he _ (by simp:(rowP ⟨v,a,0,(d:Int)⟩ bd t.r).2∈_)
  rw [rk_eq]
  refine⟨h1,fun i x hx=>?_,fun b hb=>?_⟩
  ·refine rk_of_er (v:=v) (a:=a) N x (bv+bvK t.kind i) _ (by have:=blk_kid (List.mem_of_getElem? hx);omega) ?_
   refine he _ (List.mem_cons_of_mem _ (List.mem_cons_of_mem _ (List.mem_append.2 (.inl ?_))))
   exact List.mem_of_getElem? (erK_get hx)
  ·have h2:=he _ (List.mem_cons_of_mem _ (List.mem_cons_of_mem _ (List.mem_append.2 (.inr (List.mem_map.2 ⟨b,hb,rfl⟩)))))
   unfold erB at h2
   rw [firstE_zero] at h2
   refine⟨h2 (rowP ⟨v,a,0,(d:Int)⟩ bd b.1).2 (.head _),fun x hx=>?_⟩
   exact rk_of_er (v:=v) (a:=a) N x bv _ (by have:=blk_sub hb hx;omega) (h2 _ (List.mem_cons_of_mem _ (List.mem_map.2 ⟨x,hx,rfl⟩)))
theorem rk_li {v a:Int} {d:Nat}:∀ (N:Nat) (t:Tm) (bv bd bd':Nat),blk t≤N→RK d (liT ⟨v,a,0,0⟩ t bv bd) bd'→RK d t bd'
 | 0,t,bv,bd,bd',h,_=>by have:=blk_pos t;omega
 | N+1,t,bv,bd,bd',h,hr=>by
  have e0:∀ (bd:Nat) (r:List C),rowP ⟨v,a,0,0⟩ bd r=(r,0):=fun bd r=>rowP_zero rfl bd r
  rw [li_eq,rk_eq] at hr
  dsimp only at hr
  rw [e0] at hr
  rw [rk_eq]
  refine⟨hr.1,fun i x hx=>?_,fun b hb=>?_⟩
  ·refine rk_li (v:=v) (a:=a) N x (bv+bvK t.kind i) (bd+bdK t.kind i) _ (by have:=blk_kid (List.mem_of_getElem? hx);omega) (hr.2.1 i _ ?_)
   rw [liK_get?,hx];rfl
  ·have h2:=hr.2.2 _ (List.mem_map.2 ⟨b,hb,rfl⟩)
   unfold liB at h2
   rw [e0] at h2
   exact⟨h2.1,fun x hx=>rk_li (v:=v) (a:=a) N x bv (bd+moreK t.kind) _ (by have:=blk_sub hb hx;omega) (h2.2 _ (List.mem_map.2 ⟨x,hx,rfl⟩))⟩
theorem both_li {a d:Nat} {u:Tm} (h:bothE (a:Int) (d:Int) u=0):bothT (a:Int) (d:Int) u=liT (sf (a:Int) (d:Int)) u 0 0∧RK d u 0:=by
 have h':=h
 unfold bothE at h'
 by_cases q1:wrL (d:Int) (a:Int) u=0
 ·rw [if_pos q1] at h'
  by_cases q2:erT ⟨0,(a:Int),0,0⟩ u 0 0=0
  ·rw [if_pos q2] at h'
   by_cases q3:(1000000:Int) < (d:Int)
   ·rw [if_pos q3] at h'; omega
   ·rw [if_neg q3] at h'
    have hr:=rk_li _ u 0 0 0 (Nat.le_refl _) (rk_of_er _ _ 0 0 (Nat.le_refl _) h')
    refine⟨?_,hr⟩
    unfold bothT
    rw [if_pos h]
    have:=li_li (a:=(a:Int)) (b:=0) (c:=0) (d:=(d:Int)) (by omega) (.inl rfl) _ u 0 0 (Nat.le_refl _)
    rw [Int.add_zero,Int.zero_add] at this
    exact this
  ·rw [if_neg q2] at h'; exact absurd h' q2
 ·rw [if_neg q1] at h'; exact absurd h' q1
end Go.Proofs.YtblbhmnahoiecaaGreat
