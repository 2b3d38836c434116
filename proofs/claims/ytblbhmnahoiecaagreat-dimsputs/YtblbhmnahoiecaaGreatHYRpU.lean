/- A part of the proof. -/
import Derived.Test.YtblbhmnahoiecaaGreatHG38
set_option linter.unusedVariables false
set_option linter.unusedSimpArgs false
set_option maxRecDepth 100000
set_option maxHeartbeats 8000000
namespace Go.Proofs.YtblbhmnahoiecaaGreat
open Go.RowKit
attribute [local go_sem] Oper.semAt_some
theorem rpT_lo {o:DOp} (ho:o.eb) {t:Tm} (hk:1<=t.kind) : -1000<=(rpT o t 0).kind:=by
 have hb:=eT_bnd ho _ t 0 (Nat.le_refl _)
 unfold rpT
 split
 ·rw [d_eq];show -1000<=t.kind;omega
 ·show -1000<=-(eT o t 0);omega
theorem rap_lo {i:Int} {r:List C} {t:Tm} (hk:1<=t.kind) : -1000<=(rapT i r t).kind:=by
 have hb:=liftFF_er r i 1
 unfold rapT
 rw [if_neg (by omega)]
 split
 ·exact rpT_lo (refOp_eb true i _) hk
 ·show -1000<=-(liftFF r i 1).2;omega
theorem putOp_eb (i:Int) (r:List C):(putOp i r).eb:=by rw [<- refOp_false];exact refOp_eb false i r
theorem put_rsw {i:Nat} {r:List C} {t:Tm} (hk:1<=t.kind) (h:wrD (i:Int) r t=0):doneE (rswT (i:Int) r t)=putE (i:Int) r t/\doneT (rswT (i:Int) r t)=putT' (i:Int) r t:=by
 unfold putE putT' rswT
 rw [if_pos h,if_pos h,if_neg (by omega)]
 exact done_rp (putOp_eb _ _) hk
theorem rwrongT_any (t:Tm) (v:Value) (w:World) (hv:TmIn Tt w t v) (hb:blk t<=20000) (i:Int) (hi:I64 i) (r:List C) (vr:Value) (hr:ClRow Tt w r vr) (hrl:r.length<=40000):Calls Tryz.prog 42 #[v,.int .i64 i,vr] w fun e w'=>e=.returned (.int .i64 (wrD i r t))/\Below w.heap.size w w':=by
 obtain⟨ra,rc,ka,kc,sa,sc,rfl,ht⟩:=hv.form
 obtain⟨w1,hw1⟩:∃ V,V=w.alloc (.cells #[.int .i64 t.kind,.int .i64 t.n,.string t.name,.slice ra t.r.length rc,.slice ka t.kids.length kc,.slice sa t.sys.length sc] 26):=⟨_,rfl⟩
 have b1:Below w.heap.size w w1:=by rw [hw1];exact belowA _ _
 obtain⟨X,hX⟩:∃ X,X=w.heap.size:=⟨_,rfl⟩
 have x1:Six w1 X (.int .i64 t.kind) (.int .i64 t.n) (.string t.name) (.slice ra t.r.length rc) (.slice ka t.kids.length kc) (.slice sa t.sys.length sc):=⟨by rw [hX,hw1];exact heapNew w _⟩
 have cf:=rFormed_any t _ w1 ((ht.blw b1).value) hb
 have cr:Hid (∀ V,Below w1.heap.size w1 V->Calls Tryz.prog 114 #[vr] V fun e w'=>e=.returned (.bool (rightF r))/\Below V.heap.size V w'):=fun V q=>rfright_any r vr V (hr.blw (bchain b1 q)).row (by omega)
 have HB:Hid (∀ W,Below w1.heap.size w1 W->Below w.heap.size w W):=fun W q=>bchain b1 q
 obtain⟨f,hf⟩:∃ f,f=wrongN true 0 0 t:=⟨_,rfl⟩
 have HE:Hid (wrD i r t=if f=0 then (if isDimB i=true/\rightF r=true then 0 else 2) else (f:Int)):=by rw [hf];unfold wrD;rfl
 rw [<- hf] at cf
 obtain⟨va,vc,rfl,_⟩:=id hr
 obtain⟨LR,hLR⟩:∃ L,L=r.length:=⟨_,rfl⟩
 rw [<- hLR] at cr ⊢
 obtain⟨y0,y1,y2,y3,y4,y5,_⟩:=x1.cells
 obtain⟨RF,hRF⟩:∃ b,b=rightF r:=⟨_,rfl⟩
 rw [<- hRF] at cr HE
 have HW:Hid (_=_):=hw1
 have HXs:Hid (X=w.heap.size):=hX
 clear hw1 hX hf hLR hRF hv ht b1 hb hr hrl x1
 go_enter Tryz.func42,Tryz.ntmps42
 go_upto_region 1 with fail
 rw [<- HW.out]
 simp only [<- HXs.out]
 clear HW
 go_wp2_with fail
 refine cf.mono ?_
 rintro e w2 ⟨rfl,b2⟩
 clear cf y0 y1 y2 y3 y4 y5
 have HB2:=HB.out w2 b2
 by_cases hz:f=0
 rotate_left
 ·have hz1:((f:Int) == 0)=false:=by simp;omega
  have hE:wrD i r t=(f:Int):=by rw [HE.out,if_neg hz]
  go_wp2_with fail
  go_ret
  exact⟨by rw [hE];rfl,HB2⟩
 subst hz
 rw [if_pos rfl] at HE
 by_cases h0:i<0
 ·have hd:decide (i<0)=true:=decide_eq_true h0
  have hE:wrD i r t=2:=by rw [HE.out,if_neg (fun q=>by have:=q.1;simp [isDimB] at this;omega)]
  go_wp2_with fail
  go_ret
  exact⟨by rw [hE];rfl,HB2⟩
 have hd0:decide (i<0)=false:=decide_eq_false h0
 by_cases h24:24<=i
 ·have hd:decide (24<=i)=true:=decide_eq_true h24
  have hE:wrD i r t=2:=by rw [HE.out,if_neg (fun q=>by have:=q.1;simp [isDimB] at this;omega)]
  go_wp2_with fail
  go_ret
  exact⟨by rw [hE];rfl,HB2⟩
 have hd24:decide (24<=i)=false:=decide_eq_false h24
 have hdm:isDimB i=true:=by simp [isDimB];omega
 have cc:=cr.out w2 b2
 go_wp2_with fail
 refine cc.mono ?_
 rintro e w3 ⟨rfl,b3⟩
 clear cc cr
 have HB3:=HB.out w3 (b2.trans (b3.mono b2.size))
 cases RF
 ·have hE:wrD i r t=2:=by rw [HE.out,if_neg (fun q=>by cases q.2)]
  go_wp2_with fail
  go_ret
  exact⟨by rw [hE];rfl,HB3⟩
 ·have hE:wrD i r t=0:=by rw [HE.out,if_pos ⟨hdm,rfl⟩]
  go_wp2_with fail
  go_ret
  exact⟨by rw [hE];rfl,HB3⟩
theorem rputD_any (t:Tm) (v:Value) (w:World) (hv:TmIn Tt w t v) (hb:blk t<=20000) (i:Int) (hi:I64 i) (r:List C) (vr:Value) (hr:ClRow Tt w r vr) (hrl:r.length<=40000):Calls Tryz.prog 11 #[v,.int .i64 i,vr] w fun e w'=>∃ v',e=.returned (.tuple #[v',.int .i64 (putE i r t)])/\TmIn Tt w' (putT' i r t) v'/\Below w.heap.size w w':=by
 obtain⟨va,vc,rfl,_⟩:=id hr
 obtain⟨LR,hLR⟩:∃ L,L=r.length:=⟨_,rfl⟩
 obtain⟨WE,hWE⟩:∃ z,z=wrD i r t:=⟨_,rfl⟩
 have HW1:Hid (WE≠0->putE i r t=WE/\putT' i r t=noT):=fun h=>by rw [hWE] at h ⊢; unfold putE putT'; rw [if_neg h,if_neg h];exact⟨rfl,rfl⟩
 have HW0:Hid (WE=0->∃ di:Nat,i=(di:Int)/\di<24/\OkX t/\1<=t.kind/\wrD (di:Int) r t=0):=fun h=>by
  rw [hWE] at h
  obtain⟨g1,_,g3⟩:=wrD_ok h
  have hok:=okx_of_wrong g3
  refine⟨i.toNat,by omega,by omega,hok,okx_kind hok,?_⟩
  have e:((i.toNat:Nat):Int)=i:=by omega
  rw [e];exact h
 obtain⟨AE,hAE⟩:∃ z,z=putE i r t:=⟨_,rfl⟩
 obtain⟨AT,hAT⟩:∃ z,z=putT' i r t:=⟨_,rfl⟩
 rw [<- hAE,<- hAT] at HW1
 have HA:Hid (AE=putE i r t/\AT=putT' i r t):=⟨hAE,hAT⟩
 rw [<- hAE,<- hAT]
 clear hAE hAT
 replace hv:=hv.lts
 obtain⟨ra,rc,ka,kc,sa,sc,rfl,ht⟩:=hv.form
 obtain⟨w1,hw1⟩:∃ V,V=(w.alloc (.cells #[.int .i64 t.kind,.int .i64 t.n,.string t.name,.slice ra t.r.length rc,.slice ka t.kids.length kc,.slice sa t.sys.length sc] 26)).alloc (.cells #[.int .i64 0,.int .i64 0,.string ⟨#[]⟩,.slice none 0 0,.slice none 0 0,.slice none 0 0] 26):=⟨_,rfl⟩
 have b1:Below w.heap.size w w1:=by rw [hw1];exact bchain (belowA _ _) (belowA _ _)
 obtain⟨X,hX⟩:∃ X,X=w.heap.size:=⟨_,rfl⟩
 have s1:w1.heap.size=X+2:=by rw [hw1,hX];simp
 have x1:Six w1 X (.int .i64 t.kind) (.int .i64 t.n) (.string t.name) (.slice ra t.r.length rc) (.slice ka t.kids.length kc) (.slice sa t.sys.length sc):=⟨by rw [hX,hw1];exact (Below.heap_alloc _ _ _ (by simp)).trans (heapNew w _)⟩
 have x2:Six w1 (X+1) (.int .i64 0) (.int .i64 0) (.string ⟨#[]⟩) (.slice none 0 0) (.slice none 0 0) (.slice none 0 0):=⟨by
  rw [hX,hw1];have:=heapNew (w.alloc (.cells #[.int .i64 t.kind,.int .i64 t.n,.string t.name,.slice ra t.r.length rc,.slice ka t.kids.length kc,.slice sa t.sys.length sc] 26)) (.cells #[.int .i64 0,.int .i64 0,.string ⟨#[]⟩,.slice none 0 0,.slice none 0 0,.slice none 0 0] 26);rwa [World.size_alloc] at this⟩
 have HC:Hid (∀ W,Below w1.heap.size w1 W->Six W X (.int .i64 t.kind) (.int .i64 t.n) (.string t.name) (.slice ra t.r.length rc) (.slice ka t.kids.length kc) (.slice sa t.sys.length sc)):=fun W q=>x1.blw q
 have HZ:Hid (∀ W,Below w1.heap.size w1 W->Six W (X+1) (.int .i64 0) (.int .i64 0) (.string ⟨#[]⟩) (.slice none 0 0) (.slice none 0 0) (.slice none 0 0)):=fun W q=>x2.blw q
 have HT:Hid (∀ W,Below w1.heap.size w1 W->TmIn (fun q=>q<w.heap.size) W t (.agg #[.int .i64 t.kind,.int .i64 t.n,.string t.name,.slice ra t.r.length rc,.slice ka t.kids.length kc,.slice sa t.sys.length sc])):=fun W q=>((ht.blw b1).blw q).value
 have HB:Hid (∀ W,Below w1.heap.size w1 W->Below X w W):=fun W q=>by rw [hX];exact bchain b1 q
 have HXs:Hid (X=w.heap.size):=hX
 have Hs1:Hid (w1.heap.size=X+2):=s1
 have HW:Hid (_=_):=hw1
 have HR:Hid (∀ W,Below w1.heap.size w1 W->ClRow Tt W r (.slice va LR vc)):=fun W q=>by rw [hLR];exact hr.blw (bchain b1 q)
 have cw:=rwrongT_any t _ w1 ((ht.blw b1).value.up fun _ _=>trivial) hb i hi r (.slice va LR vc) (HR.out w1 (Below.refl _ _)) hrl
 rw [<- hWE] at cw
 simp only [<- hLR]
 have HLR:Hid (LR=r.length):=hLR
 have Hbl:Hid (blk t<=20000/\r.length<=40000):=⟨hb,hrl⟩
 clear hr hLR hWE hb hrl
 rw [<- hX]
 clear hw1 hX s1 x1 x2 hv ht b1
 go_enter Tryz.func11,Tryz.ntmps11
 go_upto_region 1 with fail
 rw [<- HW.out]
 simp only [<- HXs.out]
 clear HW
 obtain⟨y0,y1,y2,y3,y4,y5,_⟩:=(HC.out w1 (Below.refl _ _)).cells
 go_wp2_with fail
 refine cw.mono ?_
 rintro e w2 ⟨rfl,b2⟩
 clear cw y0 y1 y2 y3 y4 y5
 by_cases hz:WE=0
 rotate_left
 ·have g1:(WE == 0)=false:=by simpa using hz
  have g2:(WE != 0)=true:=by simpa using hz
  obtain⟨e1,e2⟩:=HW1.out hz
  subst e1 e2
  have hs1q:=Hs1.out
  have zz:=HZ.out w2 b2
  obtain⟨w8,hw8,zz2,k8,o0,o1,o2,o3,o4,o5,f0,f1,f2,f3,f4,f5⟩:=zst zz (.int .i64 0) (.int .i64 0) (.string ⟨#[]⟩) (.slice none 0 0) (.slice none 0 0) (.slice none 0 0)
  obtain⟨h0,h1,h2,h3,h4,h5,_⟩:=zz2.cells
  have b8:Below X w w8:=(HB.out w2 b2).trans (k8.below (fun q hq=>by omega) (by have:=(HB.out w2 b2).size;have:=HXs.out;omega))
  have H8:Hid (_=_):=hw8
  clear hw8 zz zz2 k8
  go_wp2_with fail
  rw [<- H8.out]
  exact bodyPost_ret (v:=.tuple #[.agg #[.int .i64 0,.int .i64 0,.string ⟨#[]⟩,.slice none 0 0,.slice none 0 0,.slice none 0 0],.int .i64 AE]) (by simp only [results,Tryz.results11];simp [go_sem,h0,h1,h2,h3,h4,h5]) rfl ⟨_,rfl,noT_in _ _,b8⟩
 subst hz
 have g1:((0:Int) != 0)=false:=by decide
 obtain⟨di,rfl,hdi,hok,hk1,hwr⟩:=HW0.out rfl
 obtain⟨d1,d2⟩:=put_rsw hk1 hwr
 have Hok:Hid (OkX t/\1<=t.kind):=⟨hok,hk1⟩
 have cp:=rswapT_any (fun q=>q<w.heap.size) t di r _ (.slice va LR vc) w2 (fun q h=>by have:=HXs.out;have:=(HB.out w2 b2).size;omega) (HT.out w2 b2) (.inr hok) (HR.out w2 b2) (by have:=Hbl.out.1;omega) (by omega) Hbl.out.2
 obtain⟨S,hS⟩:∃ S,S=rswT (di:Int) r t:=⟨_,rfl⟩
 have hSk : -1000<=S.kind:=by rw [hS];exact (by unfold rswT;rw [if_neg (by omega)];exact rpT_lo (putOp_eb _ _) hk1)
 rw [<- hS] at cp d1 d2
 rw [<- HA.out.1] at d1
 rw [<- HA.out.2] at d2
 obtain⟨y0,y1,y2,y3,y4,y5,_⟩:=(HC.out w2 b2).cells
 clear hS hok hwr
 go_wp2_with fail
 refine cp.mono ?_
 rintro e w3 ⟨v3,rfl,hv3,b3⟩
 clear cp y0 y1 y2 y3 y4 y5
 have b13:Below w1.heap.size w1 w3:=b2.trans (b3.mono b2.size)
 have hq2:X+2<=w2.heap.size:=by have:=Hs1.out;have:=b2.size;omega
 have cd:=rdoneT_any (fun q=>q≠X+1/\q<w3.heap.size) S v3 w3 (fun q h=>h.2) (hv3.up fun q hq=>⟨Or.elim hq (fun hq=>by have:=HXs.out;have:=hq.1;omega) (fun hq=>by have:=hq.1;omega),hq.lt⟩) hSk
 rw [d1,d2] at cd
 clear hv3 d1 d2
 go_wp2_with fail
 refine cd.mono ?_
 rintro e w4 ⟨v4,rfl,hv4,b4⟩
 clear cd
 have b14:Below w1.heap.size w1 w4:=b13.trans (b4.mono b13.size)
 have hq3:X+2<=w3.heap.size:=by have:=Hs1.out;have:=b13.size;omega
 have hv5:TmIn (fun q=>q≠X+1) w4 AT v4:=hv4.up fun q hq=>Or.elim hq (fun hq=>hq.1.1) (fun hq=>by have:=hq.1;omega)
 obtain⟨ra2,rc2,ka2,kc2,sa2,sc2,rfl,_⟩:=hv4.form
 have hs1q:=Hs1.out
 have zz:=HZ.out w4 b14
 obtain⟨w8,hw8,zz2,k8,o0,o1,o2,o3,o4,o5,f0,f1,f2,f3,f4,f5⟩:=zst zz (.int .i64 AT.kind) (.int .i64 AT.n) (.string AT.name) (.slice ra2 AT.r.length rc2) (.slice ka2 AT.kids.length kc2) (.slice sa2 AT.sys.length sc2)
 obtain⟨h0,h1,h2,h3,h4,h5,_⟩:=zz2.cells
 have b8:Below X w w8:=(HB.out w4 b14).trans (k8.below (fun q hq=>by omega) (by have:=(HB.out w4 b14).size;have:=HXs.out;omega))
 have HT8:Hid (TmIn Tt w8 AT (.agg #[.int .i64 AT.kind,.int .i64 AT.n,.string AT.name,.slice ra2 AT.r.length rc2,.slice ka2 AT.kids.length kc2,.slice sa2 AT.sys.length sc2])):=hv5.keep k8.size (fun _ _=>trivial) (fun q hq hs=>k8.block q hq hs)
 have H8:Hid (_=_):=hw8
 clear hw8 zz zz2 k8
 go_wp2_with fail
 rw [<- H8.out]
 exact bodyPost_ret (v:=.tuple #[.agg #[.int .i64 AT.kind,.int .i64 AT.n,.string AT.name,.slice ra2 AT.r.length rc2,.slice ka2 AT.kids.length kc2,.slice sa2 AT.sys.length sc2],.int .i64 AE]) (by simp only [results,Tryz.results11];simp [go_sem,h0,h1,h2,h3,h4,h5]) rfl ⟨_,rfl,HT8.out,b8⟩
theorem rtakeD_any (t:Tm) (v:Value) (w:World) (hv:TmIn Tt w t v) (hb:blk t<=20000) (i:Int) (hi:I64 i) (r:List C) (vr:Value) (hr:ClRow Tt w r vr) (hrl:r.length<=40000):Calls Tryz.prog 13 #[v,.int .i64 i,vr] w fun e w'=>∃ v',e=.returned (.tuple #[v',.int .i64 (takE i r t)])/\TmIn Tt w' (takT i r t) v'/\Below w.heap.size w w':=by
 obtain⟨va,vc,rfl,_⟩:=id hr
 obtain⟨LR,hLR⟩:∃ L,L=r.length:=⟨_,rfl⟩
 obtain⟨WE,hWE⟩:∃ z,z=wrD i r t:=⟨_,rfl⟩
 have HW1:Hid (WE≠0->takE i r t=WE/\takT i r t=noT):=fun h=>by rw [hWE] at h ⊢; unfold takE takT;rw [if_neg h,if_neg h];exact⟨rfl,rfl⟩
 have HW0:Hid (WE=0->∃ di:Nat,i=(di:Int)/\di<24/\OkX t/\1<=t.kind/\wrD (di:Int) r t=0):=fun h=>by
  rw [hWE] at h
  obtain⟨g1,_,g3⟩:=wrD_ok h
  have hok:=okx_of_wrong g3
  refine⟨i.toNat,by omega,by omega,hok,okx_kind hok,?_⟩
  have e:((i.toNat:Nat):Int)=i:=by omega
  rw [e];exact h
 obtain⟨AE,hAE⟩:∃ z,z=takE i r t:=⟨_,rfl⟩
 obtain⟨AT,hAT⟩:∃ z,z=takT i r t:=⟨_,rfl⟩
 rw [<- hAE,<- hAT] at HW1
 have HA:Hid (AE=takE i r t/\AT=takT i r t):=⟨hAE,hAT⟩
 rw [<- hAE,<- hAT]
 clear hAE hAT
 replace hv:=hv.lts
 obtain⟨ra,rc,ka,kc,sa,sc,rfl,ht⟩:=hv.form
 obtain⟨w1,hw1⟩:∃ V,V=(w.alloc (.cells #[.int .i64 t.kind,.int .i64 t.n,.string t.name,.slice ra t.r.length rc,.slice ka t.kids.length kc,.slice sa t.sys.length sc] 26)).alloc (.cells #[.int .i64 0,.int .i64 0,.string ⟨#[]⟩,.slice none 0 0,.slice none 0 0,.slice none 0 0] 26):=⟨_,rfl⟩
 have b1:Below w.heap.size w w1:=by rw [hw1];exact bchain (belowA _ _) (belowA _ _)
 obtain⟨X,hX⟩:∃ X,X=w.heap.size:=⟨_,rfl⟩
 have s1:w1.heap.size=X+2:=by rw [hw1,hX];simp
 have x1:Six w1 X (.int .i64 t.kind) (.int .i64 t.n) (.string t.name) (.slice ra t.r.length rc) (.slice ka t.kids.length kc) (.slice sa t.sys.length sc):=⟨by rw [hX,hw1];exact (Below.heap_alloc _ _ _ (by simp)).trans (heapNew w _)⟩
 have x2:Six w1 (X+1) (.int .i64 0) (.int .i64 0) (.string ⟨#[]⟩) (.slice none 0 0) (.slice none 0 0) (.slice none 0 0):=⟨by
  rw [hX,hw1];have:=heapNew (w.alloc (.cells #[.int .i64 t.kind,.int .i64 t.n,.string t.name,.slice ra t.r.length rc,.slice ka t.kids.length kc,.slice sa t.sys.length sc] 26)) (.cells #[.int .i64 0,.int .i64 0,.string ⟨#[]⟩,.slice none 0 0,.slice none 0 0,.slice none 0 0] 26);rwa [World.size_alloc] at this⟩
 have HC:Hid (∀ W,Below w1.heap.size w1 W->Six W X (.int .i64 t.kind) (.int .i64 t.n) (.string t.name) (.slice ra t.r.length rc) (.slice ka t.kids.length kc) (.slice sa t.sys.length sc)):=fun W q=>x1.blw q
 have HZ:Hid (∀ W,Below w1.heap.size w1 W->Six W (X+1) (.int .i64 0) (.int .i64 0) (.string ⟨#[]⟩) (.slice none 0 0) (.slice none 0 0) (.slice none 0 0)):=fun W q=>x2.blw q
 have HT:Hid (∀ W,Below w1.heap.size w1 W->TmIn (fun q=>q<w.heap.size) W t (.agg #[.int .i64 t.kind,.int .i64 t.n,.string t.name,.slice ra t.r.length rc,.slice ka t.kids.length kc,.slice sa t.sys.length sc])):=fun W q=>((ht.blw b1).blw q).value
 have HB:Hid (∀ W,Below w1.heap.size w1 W->Below X w W):=fun W q=>by rw [hX];exact bchain b1 q
 have HXs:Hid (X=w.heap.size):=hX
 have Hs1:Hid (w1.heap.size=X+2):=s1
 have HW:Hid (_=_):=hw1
 have HR:Hid (∀ W,Below w1.heap.size w1 W->ClRow Tt W r (.slice va LR vc)):=fun W q=>by rw [hLR];exact hr.blw (bchain b1 q)
 have cw:=rwrongT_any t _ w1 ((ht.blw b1).value.up fun _ _=>trivial) hb i hi r (.slice va LR vc) (HR.out w1 (Below.refl _ _)) hrl
 rw [<- hWE] at cw
 simp only [<- hLR]
 have HLR:Hid (LR=r.length):=hLR
 have Hbl:Hid (blk t<=20000/\r.length<=40000):=⟨hb,hrl⟩
 clear hr hLR hWE hb hrl
 rw [<- hX]
 clear hw1 hX s1 x1 x2 hv ht b1
 go_enter Tryz.func13,Tryz.ntmps13
 go_upto_region 1 with fail
 rw [<- HW.out]
 simp only [<- HXs.out]
 clear HW
 obtain⟨y0,y1,y2,y3,y4,y5,_⟩:=(HC.out w1 (Below.refl _ _)).cells
 go_wp2_with fail
 refine cw.mono ?_
 rintro e w2 ⟨rfl,b2⟩
 clear cw y0 y1 y2 y3 y4 y5
 by_cases hz:WE=0
 rotate_left
 ·have g1:(WE == 0)=false:=by simpa using hz
  have g2:(WE != 0)=true:=by simpa using hz
  obtain⟨e1,e2⟩:=HW1.out hz
  subst e1 e2
  have hs1q:=Hs1.out
  have zz:=HZ.out w2 b2
  obtain⟨w8,hw8,zz2,k8,o0,o1,o2,o3,o4,o5,f0,f1,f2,f3,f4,f5⟩:=zst zz (.int .i64 0) (.int .i64 0) (.string ⟨#[]⟩) (.slice none 0 0) (.slice none 0 0) (.slice none 0 0)
  obtain⟨h0,h1,h2,h3,h4,h5,_⟩:=zz2.cells
  have b8:Below X w w8:=(HB.out w2 b2).trans (k8.below (fun q hq=>by omega) (by have:=(HB.out w2 b2).size;have:=HXs.out;omega))
  have H8:Hid (_=_):=hw8
  clear hw8 zz zz2 k8
  go_wp2_with fail
  rw [<- H8.out]
  exact bodyPost_ret (v:=.tuple #[.agg #[.int .i64 0,.int .i64 0,.string ⟨#[]⟩,.slice none 0 0,.slice none 0 0,.slice none 0 0],.int .i64 AE]) (by simp only [results,Tryz.results13];simp [go_sem,h0,h1,h2,h3,h4,h5]) rfl ⟨_,rfl,noT_in _ _,b8⟩
 subst hz
 have g1:((0:Int) != 0)=false:=by decide
 obtain⟨di,rfl,hdi,hok,hk1,hwr⟩:=HW0.out rfl
 obtain⟨d1,d2⟩:=tak_ap hok hk1 hwr
 have Hok:Hid (OkX t/\1<=t.kind):=⟨hok,hk1⟩
 have cp:=rapplyT_any (fun q=>q<w.heap.size) t di r _ (.slice va LR vc) w2 (fun q h=>by have:=HXs.out;have:=(HB.out w2 b2).size;omega) (HT.out w2 b2) (.inr hok) (HR.out w2 b2) (by have:=Hbl.out.1;omega) (by omega) Hbl.out.2
 obtain⟨S,hS⟩:∃ S,S=rapT (di:Int) r t:=⟨_,rfl⟩
 have hSk : -1000<=S.kind:=by rw [hS];exact rap_lo hk1
 rw [<- hS] at cp d1 d2
 rw [<- HA.out.1] at d1
 rw [<- HA.out.2] at d2
 obtain⟨y0,y1,y2,y3,y4,y5,_⟩:=(HC.out w2 b2).cells
 clear hS hok hwr
 go_wp2_with fail
 refine cp.mono ?_
 rintro e w3 ⟨v3,rfl,hv3,b3⟩
 clear cp y0 y1 y2 y3 y4 y5
 have b13:Below w1.heap.size w1 w3:=b2.trans (b3.mono b2.size)
 have hq2:X+2<=w2.heap.size:=by have:=Hs1.out;have:=b2.size;omega
 have cd:=rdoneT_any (fun q=>q≠X+1/\q<w3.heap.size) S v3 w3 (fun q h=>h.2) (hv3.up fun q hq=>⟨Or.elim hq (fun hq=>by have:=HXs.out;have:=hq.1;omega) (fun hq=>by have:=hq.1;omega),hq.lt⟩) hSk
 rw [d1,d2] at cd
 clear hv3 d1 d2
 go_wp2_with fail
 refine cd.mono ?_
 rintro e w4 ⟨v4,rfl,hv4,b4⟩
 clear cd
 have b14:Below w1.heap.size w1 w4:=b13.trans (b4.mono b13.size)
 have hq3:X+2<=w3.heap.size:=by have:=Hs1.out;have:=b13.size;omega
 have hv5:TmIn (fun q=>q≠X+1) w4 AT v4:=hv4.up fun q hq=>Or.elim hq (fun hq=>hq.1.1) (fun hq=>by have:=hq.1;omega)
 obtain⟨ra2,rc2,ka2,kc2,sa2,sc2,rfl,_⟩:=hv4.form
 have hs1q:=Hs1.out
 have zz:=HZ.out w4 b14
 obtain⟨w8,hw8,zz2,k8,o0,o1,o2,o3,o4,o5,f0,f1,f2,f3,f4,f5⟩:=zst zz (.int .i64 AT.kind) (.int .i64 AT.n) (.string AT.name) (.slice ra2 AT.r.length rc2) (.slice ka2 AT.kids.length kc2) (.slice sa2 AT.sys.length sc2)
 obtain⟨h0,h1,h2,h3,h4,h5,_⟩:=zz2.cells
 have b8:Below X w w8:=(HB.out w4 b14).trans (k8.below (fun q hq=>by omega) (by have:=(HB.out w4 b14).size;have:=HXs.out;omega))
 have HT8:Hid (TmIn Tt w8 AT (.agg #[.int .i64 AT.kind,.int .i64 AT.n,.string AT.name,.slice ra2 AT.r.length rc2,.slice ka2 AT.kids.length kc2,.slice sa2 AT.sys.length sc2])):=hv5.keep k8.size (fun _ _=>trivial) (fun q hq hs=>k8.block q hq hs)
 have H8:Hid (_=_):=hw8
 clear hw8 zz zz2 k8
 go_wp2_with fail
 rw [<- H8.out]
 exact bodyPost_ret (v:=.tuple #[.agg #[.int .i64 AT.kind,.int .i64 AT.n,.string AT.name,.slice ra2 AT.r.length rc2,.slice ka2 AT.kids.length kc2,.slice sa2 AT.sys.length sc2],.int .i64 AE]) (by simp only [results,Tryz.results13];simp [go_sem,h0,h1,h2,h3,h4,h5]) rfl ⟨_,rfl,HT8.out,b8⟩
end Go.Proofs.YtblbhmnahoiecaaGreat
