/- A part of the proof. -/
import Derived.Test.YtblbhmnahoiecaaGreatHYRAll
import Derived.Test.YtblbhmnahoiecaaGreatHYRAllF
import Derived.Test.YtblbhmnahoiecaaGreatHYRpP
set_option linter.unusedVariables false
set_option linter.unusedSimpArgs false
set_option maxRecDepth 100000
set_option maxHeartbeats 8000000
namespace Go.Proofs.YtblbhmnahoiecaaGreat
open Go.RowKit
theorem rall_any (o:Bool) (V:Int) (D:Nat) (hD:D<=24) (N:Nat):RAlC o V D N:=by
 induction N with
 | zero=>intro t v bv bd VV w hb;have:=blk_pos t;omega
 | succ N ih=>cases o with
  | true=>exact rall_stepT true rfl V D hD N ih
  | false=>exact rall_stepF false rfl V D hD N ih
def sizN (t:Tm):Nat:=if 200<depthT t then 62 else 0
theorem sized_any (t:Tm) (v:Value) (w:World) (hv:TmIn Tt w t v) (hb:blk t<=20000):Calls Tryz.prog 161 #[v] w fun e w'=>e=.returned (.int .i64 ((sizN t:Nat):Int))/\Below w.heap.size w w':=by
 obtain⟨ra,rc,ka,kc,sa,sc,rfl,ht⟩:=hv.form
 obtain⟨W,hW⟩:∃ W,W=w.alloc (.cells #[.int .i64 t.kind,.int .i64 t.n,.string t.name,.slice ra t.r.length rc,.slice ka t.kids.length kc,.slice sa t.sys.length sc] 26):=⟨_,rfl⟩
 have bW:Below w.heap.size w W:=by rw [hW];exact belowA _ _
 have HC:Hid (Cs6 W w.heap.size 0 t ra rc ka kc sa sc):=by rw [hW];exact cs6_new w t ra rc ka kc sa sc
 have HT:Hid (TmTop Tt W t ra rc ka kc sa sc):=ht.blw bW
 have H1:Hid (_=_):=hW
 clear hW hv ht
 have HR:Hid (sizN t=if 200<depthT t then 62 else 0):=rfl
 go_enter Tryz.func161,Tryz.ntmps161
 go_upto_region 1 with fail
 rw [<- H1.out]
 clear H1
 obtain⟨_,y0,y1,y2,y3,y4,y5⟩:=HC.out.blw (Below.refl _ _)
 simp only [Nat.zero_add] at y1 y2 y3 y4 y5
 have c1:=rdepth_any (blk t) t _ W (Nat.le_refl _) (by omega) HT.out.value
 have hs:=size_blk t
 have hds:=depth_size t
 obtain⟨d,hd⟩:∃ d,d=depthT t:=⟨_,rfl⟩
 rw [<- hd] at c1 HR hds
 clear hd
 go_wp2_with fail
 refine c1.mono ?_
 rintro e w2 ⟨rfl,b2⟩
 clear c1
 clear y0 y1 y2 y3 y4 y5
 by_cases h200:200<d
 ·have hI:(200:Int) < (d:Int):=by omega
  have HE:Hid (sizN t=62):=by show _=_;rw [HR.out,if_pos h200]
  go_wp2_with fail
  go_ret
  exact⟨retI (by rw [HE.out];rfl),bchain bW b2⟩
 ·have hI:¬ (200:Int) < (d:Int):=by omega
  have HE:Hid (sizN t=0):=by show _=_;rw [HR.out,if_neg h200]
  obtain⟨_,y0,y1,y2,y3,y4,y5⟩:=HC.out.blw (b2)
  simp only [Nat.zero_add] at y1 y2 y3 y4 y5
  have c2:=rsize_any (blk t) t _ w2 (Nat.le_refl _) (by omega) (HT.out.blw b2).value
  obtain⟨s,hse⟩:∃ s,s=sizeT t:=⟨_,rfl⟩
  rw [<- hse] at c2 hs
  have hI2:¬ (20000:Int) < (s:Int):=by omega
  clear hse
  go_wp2_with fail
  refine c2.mono ?_
  rintro e w3 ⟨rfl,b3⟩
  clear c2
  clear y0 y1 y2 y3 y4 y5
  go_wp2_with fail
  go_ret
  exact⟨retI (by rw [HE.out];rfl),bchain bW (bchain b2 b3)⟩
theorem rFormed_any (t:Tm) (v:Value) (w:World) (hv:TmIn Tt w t v) (hb:blk t<=20000):Calls Tryz.prog 113 #[v] w fun e w'=>e=.returned (.int .i64 ((wrongN true 0 0 t:Nat):Int))/\Below w.heap.size w w':=by
 obtain⟨ra,rc,ka,kc,sa,sc,rfl,ht⟩:=hv.form
 obtain⟨W,hW⟩:∃ W,W=w.alloc (.cells #[.int .i64 t.kind,.int .i64 t.n,.string t.name,.slice ra t.r.length rc,.slice ka t.kids.length kc,.slice sa t.sys.length sc] 26):=⟨_,rfl⟩
 have bW:Below w.heap.size w W:=by rw [hW];exact belowA _ _
 have HC:Hid (Cs6 W w.heap.size 0 t ra rc ka kc sa sc):=by rw [hW];exact cs6_new w t ra rc ka kc sa sc
 have HT:Hid (TmTop Tt W t ra rc ka kc sa sc):=ht.blw bW
 have H1:Hid (_=_):=hW
 clear hW hv ht
 go_enter Tryz.func113,Tryz.ntmps113
 go_upto_region 1 with fail
 rw [<- H1.out]
 clear H1
 obtain⟨_,y0,y1,y2,y3,y4,y5⟩:=HC.out.blw (Below.refl _ _)
 simp only [Nat.zero_add] at y1 y2 y3 y4 y5
 have c1:=sized_any t _ W HT.out.value hb
 obtain⟨z,hz⟩:∃ z,z=sizN t:=⟨_,rfl⟩
 have HZ:Hid (z=sizN t):=hz
 rw [<- hz] at c1
 clear hz
 go_wp2_with fail
 refine c1.mono ?_
 rintro e w2 ⟨rfl,b2⟩
 clear c1
 clear y0 y1 y2 y3 y4 y5
 by_cases h200:200<depthT t
 ·have ez:z=62:=by rw [HZ.out];unfold sizN;rw [if_pos h200]
  have HE:Hid (wrongN true 0 0 t=62):=by show _=_;unfold wrongN;rw [if_pos h200]
  subst ez
  go_wp2_with fail
  go_ret
  exact⟨retI (by rw [HE.out];rfl),bchain bW b2⟩
 ·have ez:z=0:=by rw [HZ.out];unfold sizN;rw [if_neg h200]
  have HE:Hid (wrongN true 0 0 t=if okT true 0 0 t 0 0=true then 0 else 100):=by show _=_;unfold wrongN;rw [if_neg h200]
  subst ez
  obtain⟨_,y0,y1,y2,y3,y4,y5⟩:=HC.out.blw (b2)
  simp only [Nat.zero_add] at y1 y2 y3 y4 y5
  have cc:=rall_any true 0 0 (by omega) (blk t) t _ 0 0 (-1) w2 (Nat.le_refl _) (by omega) (by omega) (by omega) ⟨⟨by decide,by decide⟩,.inl ⟨rfl,by decide⟩⟩ (HT.out.blw b2).value
  obtain⟨k,hk⟩:∃ k,k=okT true 0 0 t 0 0:=⟨_,rfl⟩
  rw [<- hk] at cc HE
  clear hk h200
  cases k with
  | false =>
   go_wp2_with fail
   refine cc.mono ?_
   rintro e w3 ⟨rfl,b3⟩
   clear cc
   clear y0 y1 y2 y3 y4 y5
   go_wp2_with fail
   go_ret
   exact⟨retI (by rw [HE.out];rfl),bchain bW (bchain b2 b3)⟩
  | true =>
   go_wp2_with fail
   refine cc.mono ?_
   rintro e w3 ⟨rfl,b3⟩
   clear cc
   clear y0 y1 y2 y3 y4 y5
   go_wp2_with fail
   go_ret
   exact⟨retI (by rw [HE.out];rfl),bchain bW (bchain b2 b3)⟩
attribute [local go_sem] Oper.semAt_some
def rswT (i:Int) (r:List C) (t:Tm):Tm:=if t.kind<0 then t else rpT (putOp i r) t 0
theorem rswapT_any (B:Nat->Prop) (t:Tm) (di:Nat) (r:List C) (v vr:Value) (w:World) (hB:∀ q,B q->q<w.heap.size) (hv:TmIn B w t v) (hok:t.kind<0\/OkX t) (hr:ClRow Tt w r vr) (hb:blk t<=40000) (hi24:di<=1000000) (hrl:r.length<=40000):Calls Tryz.prog 44 #[v,.int .i64 (di:Int),vr] w fun e w'=>∃ v',e=.returned v'/\TmIn (OkS B w.heap.size w') w' (rswT di r t) v'/\Below w.heap.size w w':=by
 obtain⟨va,vc,rfl,_⟩:=id hr
 obtain⟨LR,hLR⟩:∃ L,L=r.length:=⟨_,rfl⟩
 obtain⟨T,hRT⟩:∃ z,z=rswT di r t:=⟨_,rfl⟩
 have HRn:Hid (t.kind<0->T=t):=fun h=>by rw [hRT];unfold rswT;rw [if_pos h]
 have HRp:Hid (¬ t.kind<0->T=rpT (putOp di r) t 0):=fun h=>by rw [hRT];unfold rswT;rw [if_neg h]
 rw [<- hRT]
 clear hRT
 obtain⟨ra,rc,ka,kc,sa,sc,rfl,ht⟩:=hv.form
 obtain⟨w1,hw1⟩:∃ V,V=(w.alloc (.cells #[.int .i64 t.kind,.int .i64 t.n,.string t.name,.slice ra t.r.length rc,.slice ka t.kids.length kc,.slice sa t.sys.length sc] 26)).alloc (.cells #[.int .i64 0,.int .i64 0,.string ⟨#[]⟩,.slice none 0 0,.slice none 0 0,.slice none 0 0] 26):=⟨_,rfl⟩
 have b1:Below w.heap.size w w1:=by rw [hw1];exact bchain (belowA _ _) (belowA _ _)
 obtain⟨X,hX⟩:∃ X,X=w.heap.size:=⟨_,rfl⟩
 have s1:w1.heap.size=X+2:=by rw [hw1,hX];simp
 have x1:Six w1 X (.int .i64 t.kind) (.int .i64 t.n) (.string t.name) (.slice ra t.r.length rc) (.slice ka t.kids.length kc) (.slice sa t.sys.length sc):=⟨by rw [hX,hw1];exact (Below.heap_alloc _ _ _ (by simp)).trans (heapNew w _)⟩
 have x2:Six w1 (X+1) (.int .i64 0) (.int .i64 0) (.string ⟨#[]⟩) (.slice none 0 0) (.slice none 0 0) (.slice none 0 0):=⟨by
  rw [hX,hw1];have:=heapNew (w.alloc (.cells #[.int .i64 t.kind,.int .i64 t.n,.string t.name,.slice ra t.r.length rc,.slice ka t.kids.length kc,.slice sa t.sys.length sc] 26)) (.cells #[.int .i64 0,.int .i64 0,.string ⟨#[]⟩,.slice none 0 0,.slice none 0 0,.slice none 0 0] 26);rwa [World.size_alloc] at this⟩
 have HC:Hid (∀ W,Below w1.heap.size w1 W->Six W X (.int .i64 t.kind) (.int .i64 t.n) (.string t.name) (.slice ra t.r.length rc) (.slice ka t.kids.length kc) (.slice sa t.sys.length sc)):=fun W q=>x1.blw q
 have HZ:Hid (∀ W,Below w1.heap.size w1 W->Six W (X+1) (.int .i64 0) (.int .i64 0) (.string ⟨#[]⟩) (.slice none 0 0) (.slice none 0 0) (.slice none 0 0)):=fun W q=>x2.blw q
 have HT:Hid (∀ W,Below w1.heap.size w1 W->TmIn B W t (.agg #[.int .i64 t.kind,.int .i64 t.n,.string t.name,.slice ra t.r.length rc,.slice ka t.kids.length kc,.slice sa t.sys.length sc])):=fun W q=>((ht.blw b1).blw q).value
 have HB:Hid (∀ W,Below w1.heap.size w1 W->Below X w W):=fun W q=>by rw [hX];exact bchain b1 q
 have HXs:Hid (X=w.heap.size):=hX
 have Hs1:Hid (w1.heap.size=X+2):=s1
 have HW:Hid (_=_):=hw1
 have HR:Hid (∀ W,Below w1.heap.size w1 W->ClRow Tt W r (.slice va LR vc)):=fun W q=>by rw [hLR];exact hr.blw (bchain b1 q)
 have HBX:Hid (∀ q,B q->q<X):=fun q h=>by rw [hX];exact hB q h
 simp only [<- hLR]
 have HLR:Hid (LR=r.length):=hLR
 clear hr hB hLR
 rw [<- hX]
 clear hw1 hX s1 x1 x2 hv ht b1
 go_enter Tryz.func44,Tryz.ntmps44
 go_upto_region 1 with fail
 rw [<- HW.out]
 simp only [<- HXs.out]
 clear HW
 by_cases hneg:t.kind<0
 ·have hd:decide (t.kind<0)=true:=decide_eq_true hneg
  have hRT:T=t:=HRn.out hneg
  obtain⟨y0,y1,y2,y3,y4,y5,_⟩:=(HC.out w1 (Below.refl _ _)).cells
  have hs1q:=Hs1.out
  have zz:=HZ.out w1 (Below.refl _ _)
  obtain⟨w8,hw8,zz2,k8,o0,o1,o2,o3,o4,o5,f0,f1,f2,f3,f4,f5⟩:=zst zz (.int .i64 t.kind) (.int .i64 t.n) (.string t.name) (.slice ra t.r.length rc) (.slice ka t.kids.length kc) (.slice sa t.sys.length sc)
  obtain⟨h0,h1,h2,h3,h4,h5,_⟩:=zz2.cells
  have b8:Below X w w8:=(HB.out w1 (Below.refl _ _)).trans (k8.below (fun q hq=>by omega) (by have:=(HB.out w1 (Below.refl _ _)).size;have:=HXs.out;omega))
  have HT8:Hid (TmIn (OkS B X w8) w8 t (.agg #[.int .i64 t.kind,.int .i64 t.n,.string t.name,.slice ra t.r.length rc,.slice ka t.kids.length kc,.slice sa t.sys.length sc])):=by
   have hs9:=HXs.out
   have hs10:=Hs1.out
   have hsz:=(HB.out w1 (Below.refl _ _)).size
   exact (HT.out w1 (Below.refl _ _)).keep k8.size (fun q hq=>.inl ⟨hq,by have:=HBX.out q hq;have:=k8.size;omega⟩) (fun q hq hs=>k8.block q (by have:=HBX.out q hq;omega) hs)
  have H8:Hid (_=_):=hw8
  clear hw8 zz zz2 k8
  go_wp2_with fail
  rw [<- H8.out]
  exact bodyPost_ret (v:=.agg #[.int .i64 t.kind,.int .i64 t.n,.string t.name,.slice ra t.r.length rc,.slice ka t.kids.length kc,.slice sa t.sys.length sc]) (by simp only [results,Tryz.results44];simp [go_sem,h0,h1,h2,h3,h4,h5]) rfl ⟨_,rfl,by first | exact HT8.out | (rw [hRT];exact HT8.out),b8⟩
 have hd:decide (t.kind<0)=false:=decide_eq_false hneg
 replace hok:OkX t:=hok.resolve_left hneg
 have cp:=rq_any (d:=false) (di:=di) (r:=r) rfl hi24 hrl (blk t) B t 0 _ (.slice va LR vc) w1 (fun q h=>by have:=HBX.out q h;have:=Hs1.out;omega) (HT.out w1 (Below.refl _ _)) hok (HR.out w1 (Below.refl _ _)) (Nat.le_refl _) (by omega) hb
 rw [refOp_false,<- HRp.out hneg] at cp
 obtain⟨y0,y1,y2,y3,y4,y5,_⟩:=(HC.out w1 (Below.refl _ _)).cells
 go_wp2_with fail
 refine cp.mono ?_
 rintro e w3 ⟨v2,rfl,hv2,b13⟩
 clear cp y0 y1 y2 y3 y4 y5
 obtain⟨ra2,rc2,ka2,kc2,sa2,sc2,rfl,_⟩:=hv2.form
 have hs1q:=Hs1.out
 have zz:=HZ.out w3 b13
 obtain⟨w8,hw8,zz2,k8,o0,o1,o2,o3,o4,o5,f0,f1,f2,f3,f4,f5⟩:=zst zz (.int .i64 T.kind) (.int .i64 T.n) (.string T.name) (.slice ra2 T.r.length rc2) (.slice ka2 T.kids.length kc2) (.slice sa2 T.sys.length sc2)
 obtain⟨h0,h1,h2,h3,h4,h5,_⟩:=zz2.cells
 have b8:Below X w w8:=(HB.out w3 b13).trans (k8.below (fun q hq=>by omega) (by have:=(HB.out w3 b13).size;have:=HXs.out;omega))
 have HT8:Hid (TmIn (OkS B X w8) w8 T (.agg #[.int .i64 T.kind,.int .i64 T.n,.string T.name,.slice ra2 T.r.length rc2,.slice ka2 T.kids.length kc2,.slice sa2 T.sys.length sc2])):=by
  have hs9:=HXs.out
  have hs10:=Hs1.out
  have hsz:=(HB.out w3 b13).size
  have hne:∀ q,OkS B w1.heap.size w3 q->q≠X+1:=fun q hq=>Or.elim hq (fun hq=>by have:=HBX.out q hq.1;omega) (fun hq=>by have:=hq.1;omega)
  exact hv2.keep k8.size (fun q hq=>(hq.same (k8.block q (hne q hq) hq.lt)).mono (by omega)) (fun q hq hs=>k8.block q (hne q hq) hs)
 have H8:Hid (_=_):=hw8
 clear hw8 zz zz2 k8
 go_wp2_with fail
 rw [<- H8.out]
 exact bodyPost_ret (v:=.agg #[.int .i64 T.kind,.int .i64 T.n,.string T.name,.slice ra2 T.r.length rc2,.slice ka2 T.kids.length kc2,.slice sa2 T.sys.length sc2]) (by simp only [results,Tryz.results44];simp [go_sem,h0,h1,h2,h3,h4,h5]) rfl ⟨_,rfl,HT8.out,b8⟩
theorem rapplyT_any (B:Nat->Prop) (t:Tm) (di:Nat) (r:List C) (v vr:Value) (w:World) (hB:∀ q,B q->q<w.heap.size) (hv:TmIn B w t v) (hok:t.kind<0\/OkX t) (hr:ClRow Tt w r vr) (hb:blk t<=40000) (hi24:di<=1000000) (hrl:r.length<=40000):Calls Tryz.prog 47 #[v,.int .i64 (di:Int),vr] w fun e w'=>∃ v',e=.returned v'/\TmIn (OkS B w.heap.size w') w' (rapT di r t) v'/\Below w.heap.size w w':=by
 obtain⟨va,vc,rfl,_⟩:=id hr
 obtain⟨LR,hLR⟩:∃ L,L=r.length:=⟨_,rfl⟩
 obtain⟨T,hRT⟩:∃ z,z=rapT di r t:=⟨_,rfl⟩
 have HRn:Hid (t.kind<0->T=t):=fun h=>by rw [hRT];unfold rapT;rw [if_pos h]
 obtain⟨S,hS⟩:∃ z,z=liftFF r (di:Int) 1:=⟨_,rfl⟩
 have HRp:Hid (¬ t.kind<0->S.2=0->T=rpT (refOp true di S.1) t 0):=fun h h2=>by rw [hRT,hS];rw [hS] at h2;unfold rapT;rw [if_neg h,if_pos h2]
 have HRb:Hid (¬ t.kind<0->S.2≠0->T=badT S.2):=fun h h2=>by rw [hRT,hS];rw [hS] at h2;unfold rapT;rw [if_neg h,if_neg h2]
 have hSb:0<=S.2/\S.2<=1000:=by rw [hS];exact liftFF_er _ _ _
 have hSl:S.1.length<=64:=by rw [hS];exact liftFF_len _ _ _
 rw [<- hRT]
 clear hRT
 obtain⟨ra,rc,ka,kc,sa,sc,rfl,ht⟩:=hv.form
 obtain⟨w1,hw1⟩:∃ V,V=(w.alloc (.cells #[.int .i64 t.kind,.int .i64 t.n,.string t.name,.slice ra t.r.length rc,.slice ka t.kids.length kc,.slice sa t.sys.length sc] 26)).alloc (.cells #[.int .i64 0,.int .i64 0,.string ⟨#[]⟩,.slice none 0 0,.slice none 0 0,.slice none 0 0] 26):=⟨_,rfl⟩
 have b1:Below w.heap.size w w1:=by rw [hw1];exact bchain (belowA _ _) (belowA _ _)
 obtain⟨X,hX⟩:∃ X,X=w.heap.size:=⟨_,rfl⟩
 have s1:w1.heap.size=X+2:=by rw [hw1,hX];simp
 have x1:Six w1 X (.int .i64 t.kind) (.int .i64 t.n) (.string t.name) (.slice ra t.r.length rc) (.slice ka t.kids.length kc) (.slice sa t.sys.length sc):=⟨by rw [hX,hw1];exact (Below.heap_alloc _ _ _ (by simp)).trans (heapNew w _)⟩
 have x2:Six w1 (X+1) (.int .i64 0) (.int .i64 0) (.string ⟨#[]⟩) (.slice none 0 0) (.slice none 0 0) (.slice none 0 0):=⟨by
  rw [hX,hw1];have:=heapNew (w.alloc (.cells #[.int .i64 t.kind,.int .i64 t.n,.string t.name,.slice ra t.r.length rc,.slice ka t.kids.length kc,.slice sa t.sys.length sc] 26)) (.cells #[.int .i64 0,.int .i64 0,.string ⟨#[]⟩,.slice none 0 0,.slice none 0 0,.slice none 0 0] 26);rwa [World.size_alloc] at this⟩
 have HC:Hid (∀ W,Below w1.heap.size w1 W->Six W X (.int .i64 t.kind) (.int .i64 t.n) (.string t.name) (.slice ra t.r.length rc) (.slice ka t.kids.length kc) (.slice sa t.sys.length sc)):=fun W q=>x1.blw q
 have HZ:Hid (∀ W,Below w1.heap.size w1 W->Six W (X+1) (.int .i64 0) (.int .i64 0) (.string ⟨#[]⟩) (.slice none 0 0) (.slice none 0 0) (.slice none 0 0)):=fun W q=>x2.blw q
 have HT:Hid (∀ W,Below w1.heap.size w1 W->TmIn B W t (.agg #[.int .i64 t.kind,.int .i64 t.n,.string t.name,.slice ra t.r.length rc,.slice ka t.kids.length kc,.slice sa t.sys.length sc])):=fun W q=>((ht.blw b1).blw q).value
 have HB:Hid (∀ W,Below w1.heap.size w1 W->Below X w W):=fun W q=>by rw [hX];exact bchain b1 q
 have HXs:Hid (X=w.heap.size):=hX
 have Hs1:Hid (w1.heap.size=X+2):=s1
 have HW:Hid (_=_):=hw1
 have HR:Hid (∀ W,Below w1.heap.size w1 W->ClRow Tt W r (.slice va LR vc)):=fun W q=>by rw [hLR];exact hr.blw (bchain b1 q)
 have HBX:Hid (∀ q,B q->q<X):=fun q h=>by rw [hX];exact hB q h
 have cL:=rLift_any r (di:Int) 1 (.slice va LR vc) w1 (HR.out w1 (Below.refl _ _)).row hrl
 rw [<- hS] at cL
 obtain⟨S1,es⟩:=S
 dsimp only at cL HRp HRb hSb hSl
 simp only [<- hLR]
 have HLR:Hid (LR=r.length):=hLR
 clear hr hB hS hLR
 rw [<- hX]
 clear hw1 hX s1 x1 x2 hv ht b1
 go_enter Tryz.func47,Tryz.ntmps47
 go_upto_region 1 with fail
 rw [<- HW.out]
 simp only [<- HXs.out]
 clear HW
 by_cases hneg:t.kind<0
 ·have hd:decide (t.kind<0)=true:=decide_eq_true hneg
  have hRT:T=t:=HRn.out hneg
  obtain⟨y0,y1,y2,y3,y4,y5,_⟩:=(HC.out w1 (Below.refl _ _)).cells
  have hs1q:=Hs1.out
  have zz:=HZ.out w1 (Below.refl _ _)
  obtain⟨w8,hw8,zz2,k8,o0,o1,o2,o3,o4,o5,f0,f1,f2,f3,f4,f5⟩:=zst zz (.int .i64 t.kind) (.int .i64 t.n) (.string t.name) (.slice ra t.r.length rc) (.slice ka t.kids.length kc) (.slice sa t.sys.length sc)
  obtain⟨h0,h1,h2,h3,h4,h5,_⟩:=zz2.cells
  have b8:Below X w w8:=(HB.out w1 (Below.refl _ _)).trans (k8.below (fun q hq=>by omega) (by have:=(HB.out w1 (Below.refl _ _)).size;have:=HXs.out;omega))
  have HT8:Hid (TmIn (OkS B X w8) w8 t (.agg #[.int .i64 t.kind,.int .i64 t.n,.string t.name,.slice ra t.r.length rc,.slice ka t.kids.length kc,.slice sa t.sys.length sc])):=by
   have hs9:=HXs.out
   have hs10:=Hs1.out
   have hsz:=(HB.out w1 (Below.refl _ _)).size
   exact (HT.out w1 (Below.refl _ _)).keep k8.size (fun q hq=>.inl ⟨hq,by have:=HBX.out q hq;have:=k8.size;omega⟩) (fun q hq hs=>k8.block q (by have:=HBX.out q hq;omega) hs)
  have H8:Hid (_=_):=hw8
  clear hw8 zz zz2 k8
  go_wp2_with fail
  rw [<- H8.out]
  exact bodyPost_ret (v:=.agg #[.int .i64 t.kind,.int .i64 t.n,.string t.name,.slice ra t.r.length rc,.slice ka t.kids.length kc,.slice sa t.sys.length sc]) (by simp only [results,Tryz.results47];simp [go_sem,h0,h1,h2,h3,h4,h5]) rfl ⟨_,rfl,by first | exact HT8.out | (rw [hRT];exact HT8.out),b8⟩
 have hd:decide (t.kind<0)=false:=decide_eq_false hneg
 replace hok:OkX t:=hok.resolve_left hneg
 obtain⟨y0,y1,y2,y3,y4,y5,_⟩:=(HC.out w1 (Below.refl _ _)).cells
 go_wp2_with fail
 refine cL.mono ?_
 rintro e w2 ⟨vs,rfl,hOs,b2⟩
 clear cL y0 y1 y2 y3 y4 y5
 obtain⟨aS,cS,rfl⟩:=OwnsC.len hOs
 have hRs:ClRow Tt w2 S1 (.slice aS S1.length cS):=(OwnsC.okn hOs).keep (Nat.le_refl _) (fun _ _=>trivial) (fun _ _ _=>rfl)
 clear hOs
 obtain⟨LS,hLS⟩:∃ L,L=S1.length:=⟨_,rfl⟩
 rw [<- hLS] at hRs hSl ⊢
 have HLS:Hid (LS=S1.length):=hLS
 clear hLS
 by_cases hes:es=0
 rotate_left
 ·have g1:(es == 0)=false:=by simpa using hes
  have g2:(es != 0)=true:=by simpa using hes
  have hRT:T=badT es:=HRb.out hneg hes
  have cb:=rbad_any es hSb w2
  clear hRs
  go_wp2_with fail
  refine cb.mono ?_
  rintro e w3 ⟨rfl,b3⟩
  clear cb
  have b13:Below w1.heap.size w1 w3:=b2.trans (b3.mono b2.size)
  have hs1q:=Hs1.out
  have zz:=HZ.out w3 b13
  obtain⟨w8,hw8,zz2,k8,o0,o1,o2,o3,o4,o5,f0,f1,f2,f3,f4,f5⟩:=zst zz (.int .i64 (-es)) (.int .i64 0) (.string ⟨#[]⟩) (.slice none 0 0) (.slice none 0 0) (.slice none 0 0)
  obtain⟨h0,h1,h2,h3,h4,h5,_⟩:=zz2.cells
  have b8:Below X w w8:=(HB.out w3 b13).trans (k8.below (fun q hq=>by omega) (by have:=(HB.out w3 b13).size;have:=HXs.out;omega))
  have HT8:Hid (TmIn (OkS B X w8) w8 (badT es) (.agg #[.int .i64 (-es),.int .i64 0,.string ⟨#[]⟩,.slice none 0 0,.slice none 0 0,.slice none 0 0])):=badT_in _ _ hSb
  have H8:Hid (_=_):=hw8
  clear hw8 zz zz2 k8
  go_wp2_with fail
  rw [<- H8.out]
  exact bodyPost_ret (v:=.agg #[.int .i64 (-es),.int .i64 0,.string ⟨#[]⟩,.slice none 0 0,.slice none 0 0,.slice none 0 0]) (by simp only [results,Tryz.results47];simp [go_sem,h0,h1,h2,h3,h4,h5]) rfl ⟨_,rfl,by first | exact HT8.out | (rw [hRT];exact HT8.out),b8⟩
 subst hes
 have g1:((0:Int) != 0)=false:=by decide
 have cp:=rq_any (d:=true) (di:=di) (r:=S1) rfl hi24 (by have:=HLS.out;omega) (blk t) B t 0 _ (.slice aS LS cS) w2 (fun q h=>by have:=HBX.out q h;have:=Hs1.out;have:=b2.size;omega) (HT.out w2 b2) hok hRs (Nat.le_refl _) (by omega) hb
 rw [<- HRp.out hneg rfl] at cp
 obtain⟨y0,y1,y2,y3,y4,y5,_⟩:=(HC.out w2 b2).cells
 go_wp2_with fail
 refine cp.mono ?_
 rintro e w3 ⟨v2,rfl,hv2,b3⟩
 clear cp y0 y1 y2 y3 y4 y5
 have b13:Below w1.heap.size w1 w3:=b2.trans (b3.mono b2.size)
 have hs2:=b2.size
 obtain⟨ra2,rc2,ka2,kc2,sa2,sc2,rfl,_⟩:=hv2.form
 have hs1q:=Hs1.out
 have zz:=HZ.out w3 b13
 obtain⟨w8,hw8,zz2,k8,o0,o1,o2,o3,o4,o5,f0,f1,f2,f3,f4,f5⟩:=zst zz (.int .i64 T.kind) (.int .i64 T.n) (.string T.name) (.slice ra2 T.r.length rc2) (.slice ka2 T.kids.length kc2) (.slice sa2 T.sys.length sc2)
 obtain⟨h0,h1,h2,h3,h4,h5,_⟩:=zz2.cells
 have b8:Below X w w8:=(HB.out w3 b13).trans (k8.below (fun q hq=>by omega) (by have:=(HB.out w3 b13).size;have:=HXs.out;omega))
 have HT8:Hid (TmIn (OkS B X w8) w8 T (.agg #[.int .i64 T.kind,.int .i64 T.n,.string T.name,.slice ra2 T.r.length rc2,.slice ka2 T.kids.length kc2,.slice sa2 T.sys.length sc2])):=by
  have hs9:=HXs.out
  have hs10:=Hs1.out
  have hsz:=(HB.out w3 b13).size
  have hne:∀ q,OkS B w2.heap.size w3 q->q≠X+1:=fun q hq=>Or.elim hq (fun hq=>by have:=HBX.out q hq.1;omega) (fun hq=>by have:=hq.1;omega)
  exact hv2.keep k8.size (fun q hq=>(hq.same (k8.block q (hne q hq) hq.lt)).mono (by omega)) (fun q hq hs=>k8.block q (hne q hq) hs)
 have H8:Hid (_=_):=hw8
 clear hw8 zz zz2 k8
 go_wp2_with fail
 rw [<- H8.out]
 exact bodyPost_ret (v:=.agg #[.int .i64 T.kind,.int .i64 T.n,.string T.name,.slice ra2 T.r.length rc2,.slice ka2 T.kids.length kc2,.slice sa2 T.sys.length sc2]) (by simp only [results,Tryz.results47];simp [go_sem,h0,h1,h2,h3,h4,h5]) rfl ⟨_,rfl,HT8.out,b8⟩
theorem rdoneT_any (B:Nat->Prop) (t:Tm) (v:Value) (w:World) (hB:∀ q,B q->q<w.heap.size) (hv:TmIn B w t v) (hk : -1000<=t.kind):Calls Tryz.prog 43 #[v] w fun e w'=>∃ v',e=.returned (.tuple #[v',.int .i64 (doneE t)])/\TmIn (OkS B w.heap.size w') w' (doneT t) v'/\Below w.heap.size w w':=by
 have HRn:Hid (t.kind<0->doneT t=noT/\doneE t = -t.kind):=fun h=>by unfold doneT doneE;rw [if_pos h,if_pos h];exact⟨rfl,rfl⟩
 have HRp:Hid (¬ t.kind<0->doneT t=t/\doneE t=0):=fun h=>by unfold doneT doneE;rw [if_neg h,if_neg h];exact⟨rfl,rfl⟩
 obtain⟨DT,hDT⟩:∃ z,z=doneT t:=⟨_,rfl⟩
 obtain⟨DE,hDE⟩:∃ z,z=doneE t:=⟨_,rfl⟩
 rw [<- hDT,<- hDE] at HRn HRp ⊢
 clear hDT hDE
 obtain⟨ra,rc,ka,kc,sa,sc,rfl,ht⟩:=hv.form
 obtain⟨w1,hw1⟩:∃ V,V=(w.alloc (.cells #[.int .i64 t.kind,.int .i64 t.n,.string t.name,.slice ra t.r.length rc,.slice ka t.kids.length kc,.slice sa t.sys.length sc] 26)).alloc (.cells #[.int .i64 0,.int .i64 0,.string ⟨#[]⟩,.slice none 0 0,.slice none 0 0,.slice none 0 0] 26):=⟨_,rfl⟩
 have b1:Below w.heap.size w w1:=by rw [hw1];exact bchain (belowA _ _) (belowA _ _)
 obtain⟨X,hX⟩:∃ X,X=w.heap.size:=⟨_,rfl⟩
 have s1:w1.heap.size=X+2:=by rw [hw1,hX];simp
 have x1:Six w1 X (.int .i64 t.kind) (.int .i64 t.n) (.string t.name) (.slice ra t.r.length rc) (.slice ka t.kids.length kc) (.slice sa t.sys.length sc):=⟨by rw [hX,hw1];exact (Below.heap_alloc _ _ _ (by simp)).trans (heapNew w _)⟩
 have x2:Six w1 (X+1) (.int .i64 0) (.int .i64 0) (.string ⟨#[]⟩) (.slice none 0 0) (.slice none 0 0) (.slice none 0 0):=⟨by
  rw [hX,hw1];have:=heapNew (w.alloc (.cells #[.int .i64 t.kind,.int .i64 t.n,.string t.name,.slice ra t.r.length rc,.slice ka t.kids.length kc,.slice sa t.sys.length sc] 26)) (.cells #[.int .i64 0,.int .i64 0,.string ⟨#[]⟩,.slice none 0 0,.slice none 0 0,.slice none 0 0] 26);rwa [World.size_alloc] at this⟩
 have HC:Hid (∀ W,Below w1.heap.size w1 W->Six W X (.int .i64 t.kind) (.int .i64 t.n) (.string t.name) (.slice ra t.r.length rc) (.slice ka t.kids.length kc) (.slice sa t.sys.length sc)):=fun W q=>x1.blw q
 have HZ:Hid (∀ W,Below w1.heap.size w1 W->Six W (X+1) (.int .i64 0) (.int .i64 0) (.string ⟨#[]⟩) (.slice none 0 0) (.slice none 0 0) (.slice none 0 0)):=fun W q=>x2.blw q
 have HT:Hid (∀ W,Below w1.heap.size w1 W->TmIn B W t (.agg #[.int .i64 t.kind,.int .i64 t.n,.string t.name,.slice ra t.r.length rc,.slice ka t.kids.length kc,.slice sa t.sys.length sc])):=fun W q=>((ht.blw b1).blw q).value
 have HB:Hid (∀ W,Below w1.heap.size w1 W->Below X w W):=fun W q=>by rw [hX];exact bchain b1 q
 have HXs:Hid (X=w.heap.size):=hX
 have Hs1:Hid (w1.heap.size=X+2):=s1
 have HW:Hid (_=_):=hw1
 have HBX:Hid (∀ q,B q->q<X):=fun q h=>by rw [hX];exact hB q h
 clear hB
 rw [<- hX]
 clear hw1 hX s1 x1 x2 hv ht b1
 go_enter Tryz.func43,Tryz.ntmps43
 go_upto_region 1 with fail
 rw [<- HW.out]
 simp only [<- HXs.out]
 clear HW
 obtain⟨y0,y1,y2,y3,y4,y5,_⟩:=(HC.out w1 (Below.refl _ _)).cells
 by_cases hneg:t.kind<0
 ·have hd:decide (t.kind<0)=true:=decide_eq_true hneg
  obtain⟨e1,e2⟩:=HRn.out hneg
  subst e1 e2
  have wr2:IntKind.i64.wrap (-t.kind) = -t.kind:=by simp [IntKind.wrap,IntKind.bits,IntKind.signed];omega
  have hs1q:=Hs1.out
  have zz:=HZ.out w1 (Below.refl _ _)
  have zz2:=zz.set6 (.int .i64 0) (.int .i64 0) (.string ⟨#[]⟩) (.slice none 0 0) (.slice none 0 0) (.slice none 0 0)
  have x1:=HC.out w1 (Below.refl _ _)
  go_upto_region 2 with fail
  refine wp_region_held_drew (S:=fun V=>V.cell? ⟨X,0,none⟩=some (.int .i64 t.kind)) (by kernel_rfl) (by have e:=x1.cells.1;simpa using e) (fun hS=>?_)
  obtain⟨wd,hwd⟩:∃ V,V=w1.drew:=⟨_,rfl⟩
  have zd:Six wd (X+1) (.int .i64 0) (.int .i64 0) (.string ⟨#[]⟩) (.slice none 0 0) (.slice none 0 0) (.slice none 0 0):=zz.blw (by rw [hwd];exact (Below.refl _ _).drew)
  rw [<- hwd] at hS ⊢
  refine zk 0 (.agg #[.int .i64 0,.int .i64 0,.string ⟨#[]⟩,.slice none 0 0,.slice none 0 0,.slice none 0 0]) rfl (by rfl) (fun w hS=>by go_simp) hS ?_
  try simp only [Act.put,zg1,zg2,zg3,zs1,zs2,zs3]
  refine zk 1 (.pointer (some ⟨X,0,none⟩)) rfl (by rfl) (fun w hS=>by go_simp) hS ?_
  try simp only [Act.put,zg1,zg2,zg3,zs1,zs2,zs3]
  refine zk 2 (.int .i64 t.kind) rfl (by rfl) (fun w hS=>by have e:=hS;go_simp) hS ?_
  try simp only [Act.put,zg1,zg2,zg3,zs1,zs2,zs3]
  refine zk 3 (.int .i64 (-t.kind)) rfl (by rfl) (fun w hS=>by have e:=wr2;go_simp) hS ?_
  try simp only [Act.put,zg1,zg2,zg3,zs1,zs2,zs3]
  refine zr 4 rfl (fun KK hKK=>?_)
  obtain⟨w8,hw8,zz3,k8,o0,o1,o2,o3,o4,o5,f0,f1,f2,f3,f4,f5⟩:=zst zd (.int .i64 0) (.int .i64 0) (.string ⟨#[]⟩) (.slice none 0 0) (.slice none 0 0) (.slice none 0 0)
  obtain⟨h0,h1,h2,h3,h4,h5,_⟩:=zz3.cells
  have bd8:Below w1.heap.size w1 wd:=by rw [hwd];exact (Below.refl _ _).drew
  have b8:Below X w w8:=(HB.out wd bd8).trans (k8.below (fun q hq=>by omega) (by have:=(HB.out wd bd8).size;have:=HXs.out;omega))
  have xd:=x1.blw bd8
  have hS8:w8.cell? ⟨X,0,none⟩=some (.int .i64 t.kind):=(⟨(k8.block X (by omega) xd.lt).trans xd.blk⟩:Six w8 X _ _ _ _ _ _).cells.1
  have H8:Hid (_=_):=hw8
  clear hw8 zz zz2 zz3 zd k8 hwd x1 xd
  refine⟨?_⟩
  go_simp
  rw [<- H8.out]
  refine hKK.out _ _ hS8 (fun hS=>?_)
  clear hKK KK
  try simp only [Act.put,zg1,zg2,zg3,zs1,zs2,zs3]
  refine zk 5 (.int .i64 (-t.kind)) rfl (by rfl) (fun w hS=>by go_simp) hS ?_
  try simp only [Act.put,zg1,zg2,zg3,zs1,zs2,zs3]
  refine wpAnyH_done (by kernel_rfl) ?_ _
  go_wp2_with fail
  exact bodyPost_ret (v:=.tuple #[.agg #[.int .i64 0,.int .i64 0,.string ⟨#[]⟩,.slice none 0 0,.slice none 0 0,.slice none 0 0],.int .i64 (-t.kind)]) (by simp only [results,Tryz.results43];simp [go_sem,h0,h1,h2,h3,h4,h5]) rfl ⟨_,rfl,noT_in _ _,b8⟩
 have hd:decide (t.kind<0)=false:=decide_eq_false hneg
 obtain⟨e1,e2⟩:=HRp.out hneg
 subst e1 e2
 have hs1q:=Hs1.out
 have zz:=HZ.out w1 (Below.refl _ _)
 obtain⟨w8,hw8,zz2,k8,o0,o1,o2,o3,o4,o5,f0,f1,f2,f3,f4,f5⟩:=zst zz (.int .i64 DT.kind) (.int .i64 DT.n) (.string DT.name) (.slice ra DT.r.length rc) (.slice ka DT.kids.length kc) (.slice sa DT.sys.length sc)
 obtain⟨h0,h1,h2,h3,h4,h5,_⟩:=zz2.cells
 have b8:Below X w w8:=(HB.out w1 (Below.refl _ _)).trans (k8.below (fun q hq=>by omega) (by have:=(HB.out w1 (Below.refl _ _)).size;have:=HXs.out;omega))
 have HT8:Hid (TmIn (OkS B X w8) w8 DT (.agg #[.int .i64 DT.kind,.int .i64 DT.n,.string DT.name,.slice ra DT.r.length rc,.slice ka DT.kids.length kc,.slice sa DT.sys.length sc])):=by
  have hs9:=HXs.out
  have hs10:=Hs1.out
  have hsz:=(HB.out w1 (Below.refl _ _)).size
  exact (HT.out w1 (Below.refl _ _)).keep k8.size (fun q hq=>.inl ⟨hq,by have:=HBX.out q hq;have:=k8.size;omega⟩) (fun q hq hs=>k8.block q (by have:=HBX.out q hq;omega) hs)
 have H8:Hid (_=_):=hw8
 clear hw8 zz zz2 k8
 go_wp2_with fail
 rw [<- H8.out]
 exact bodyPost_ret (v:=.tuple #[.agg #[.int .i64 DT.kind,.int .i64 DT.n,.string DT.name,.slice ra DT.r.length rc,.slice ka DT.kids.length kc,.slice sa DT.sys.length sc],.int .i64 0]) (by simp only [results,Tryz.results43];simp [go_sem,h0,h1,h2,h3,h4,h5]) rfl ⟨_,rfl,HT8.out,b8⟩
end Go.Proofs.YtblbhmnahoiecaaGreat
