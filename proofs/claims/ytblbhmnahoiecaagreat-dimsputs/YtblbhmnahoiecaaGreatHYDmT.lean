/- A part of the proof. -/
import Derived.Test.YtblbhmnahoiecaaGreatHG26
set_option linter.unusedVariables false
set_option linter.unusedSimpArgs false
set_option maxRecDepth 100000
set_option maxHeartbeats 8000000
namespace Go.Proofs.YtblbhmnahoiecaaGreat
open Go.RowKit
def takE (i:Int) (r:List C) (t:Tm):Int:=if wrD i r t=0 then (if (liftFF r i 1).2=0 then (if eT (putOp i (liftFF r i 1).1) t 0=0 then eT (dropOp i) (ansD (putOp i (liftFF r i 1).1) t) 0 else eT (putOp i (liftFF r i 1).1) t 0) else (liftFF r i 1).2) else wrD i r t
def takT (i:Int) (r:List C) (t:Tm):Tm:=if wrD i r t=0 then (if (liftFF r i 1).2=0 then (if eT (putOp i (liftFF r i 1).1) t 0=0 then ansD (dropOp i) (ansD (putOp i (liftFF r i 1).1) t) else noT) else noT) else noT
theorem dtake_any (t:Tm) (v:Value) (w:World) (hv:TmIn Tt w t v) (hb:blk t<=20000) (i:Int) (r:List C) (vr:Value) (hr:ClRow Tt w r vr) (hrl:r.length<=40000) (hsm:blk (ansD (putOp i (liftFF r i 1).1) t)<=40000):Calls Tryz.prog 12 #[v,.int .i64 i,vr] w fun e w'=>∃ v',e=.returned (.tuple #[v',.int .i64 (takE i r t)])/\TmIn (OkN w.heap.size w') w' (takT i r t) v'/\Below w.heap.size w w':=by
 obtain⟨ra,rc,ka,kc,sa,sc,rfl,ht⟩:=hv.form
 obtain⟨w1,hw1⟩:∃ W,W=(w.alloc (.cells #[.int .i64 t.kind,.int .i64 t.n,.string t.name,.slice ra t.r.length rc,.slice ka t.kids.length kc,.slice sa t.sys.length sc] 26)).alloc (.cells #[.int .i64 0,.int .i64 0,.string ⟨#[]⟩,.slice none 0 0,.slice none 0 0,.slice none 0 0] 26):=⟨_,rfl⟩
 have b1:Below w.heap.size w w1:=by rw [hw1];exact bchain (belowA _ _) (belowA _ _)
 obtain⟨X,hX⟩:∃ X,X=w.heap.size:=⟨_,rfl⟩
 have s1:w1.heap.size=X+2:=by rw [hw1,hX];simp
 have x1:Six w1 X (.int .i64 t.kind) (.int .i64 t.n) (.string t.name) (.slice ra t.r.length rc) (.slice ka t.kids.length kc) (.slice sa t.sys.length sc):=⟨by rw [hX,hw1];exact (Below.heap_alloc _ _ _ (by simp)).trans (heapNew w _)⟩
 have x2:Six w1 (X+1) (.int .i64 0) (.int .i64 0) (.string ⟨#[]⟩) (.slice none 0 0) (.slice none 0 0) (.slice none 0 0):=⟨by
  rw [hX,hw1];have:=heapNew (w.alloc (.cells #[.int .i64 t.kind,.int .i64 t.n,.string t.name,.slice ra t.r.length rc,.slice ka t.kids.length kc,.slice sa t.sys.length sc] 26)) (.cells #[.int .i64 0,.int .i64 0,.string ⟨#[]⟩,.slice none 0 0,.slice none 0 0,.slice none 0 0] 26);rwa [World.size_alloc] at this⟩
 have HC:Hid (∀ W,Below w1.heap.size w1 W->Six W X (.int .i64 t.kind) (.int .i64 t.n) (.string t.name) (.slice ra t.r.length rc) (.slice ka t.kids.length kc) (.slice sa t.sys.length sc)):=fun W q=>x1.blw q
 have HZ:Hid (∀ W,Below w1.heap.size w1 W->Six W (X+1) (.int .i64 0) (.int .i64 0) (.string ⟨#[]⟩) (.slice none 0 0) (.slice none 0 0) (.slice none 0 0)):=fun W q=>x2.blw q
 have HT:Hid (∀ W,Below w1.heap.size w1 W->TmIn Tt W t (.agg #[.int .i64 t.kind,.int .i64 t.n,.string t.name,.slice ra t.r.length rc,.slice ka t.kids.length kc,.slice sa t.sys.length sc])):=fun W q=>((ht.blw b1).blw q).value
 have HB:Hid (∀ W,Below w1.heap.size w1 W->Below X w W):=fun W q=>by rw [hX];exact bchain b1 q
 have HXs:Hid (X=w.heap.size):=hX
 have Hs1:Hid (w1.heap.size=X+2):=s1
 have HW:Hid (_=_):=hw1
 have HR:Hid (∀ W,Below w1.heap.size w1 W->ClRow Tt W r vr):=fun W q=>(hr.blw b1).blw q
 have cw:=dwrong_any t _ w1 (HT.out w1 (Below.refl _ _)) hb i r vr (HR.out w1 (Below.refl _ _)) hrl
 have cl:Hid (∀ V,Below w1.heap.size w1 V->Calls Tryz.prog 45 #[vr,.int .i64 i,.int .i64 1] V fun e w'=>∃ v,e=.returned (.tuple #[v,.int .i64 (liftFF r i 1).2])/\OwnsC w' V.heap.size v (liftFF r i 1).1/\Below V.heap.size V w'):=fun V q=>Lift_any r i 1 vr V (HR.out V q).frow hrl
 have HE:Hid (takE i r t=(if wrD i r t=0 then (if (liftFF r i 1).2=0 then (if eT (putOp i (liftFF r i 1).1) t 0=0 then eT (dropOp i) (ansD (putOp i (liftFF r i 1).1) t) 0 else eT (putOp i (liftFF r i 1).1) t 0) else (liftFF r i 1).2) else wrD i r t)/\takT i r t=(if wrD i r t=0 then (if (liftFF r i 1).2=0 then (if eT (putOp i (liftFF r i 1).1) t 0=0 then ansD (dropOp i) (ansD (putOp i (liftFF r i 1).1) t) else noT) else noT) else noT)):=⟨rfl,rfl⟩
 have HOk:Hid (wrD i r t=0->0<=i/\i<=1000000):=fun h=>by have:=(wrD_ok h).1;omega
 have hll:=liftFF_len r i 1
 obtain⟨e0,he0⟩:∃ e,e=wrD i r t:=⟨_,rfl⟩
 rw [<- he0] at cw HE HOk
 obtain⟨Pl,hPl⟩:∃ P,P=liftFF r i 1:=⟨_,rfl⟩
 rw [<- hPl] at cl HE hsm hll
 obtain⟨rl,el⟩:=Pl
 dsimp only at cl HE hsm hll
 obtain⟨va,vc,rfl,_⟩:=id hr
 obtain⟨LR,hLR⟩:∃ L,L=r.length:=⟨_,rfl⟩
 rw [<- hLR] at cw HR cl
 simp only [<- hLR]
 rw [<- hX]
 have Hbt:Hid (blk t<=40000):=(by omega:blk t<=40000)
 clear he0 hw1 hX s1 x1 x2 hv ht b1 hr hLR hPl
 go_enter Tryz.func12,Tryz.ntmps12
 go_upto_region 1 with fail
 rw [<- HW.out]
 simp only [<- HXs.out]
 clear HW
 obtain⟨y0,y1,y2,y3,y4,y5,_⟩:=(HC.out w1 (Below.refl _ _)).cells
 go_wp2_with fail
 refine cw.mono ?_
 rintro e w2 ⟨rfl,b2⟩
 clear cw y0 y1 y2 y3 y4 y5
 have hsz:=Hs1.out
 by_cases hz:e0=0
 rotate_left
 ·have Hf:Hid (takE i r t=e0/\takT i r t=noT):=⟨by rw [HE.out.1,if_neg hz],by rw [HE.out.2,if_neg hz]⟩
  have hz1:(e0 == 0)=false:=by simpa using hz
  clear HE HOk cl
  have zz:=HZ.out w2 b2
  obtain⟨wz,hwz,zz2,kz,o0,o1,o2,o3,o4,o5,f0,f1,f2,f3,f4,f5⟩:=zst zz (.int .i64 0) (.int .i64 0) (.string ⟨#[]⟩) (.slice none 0 0) (.slice none 0 0) (.slice none 0 0)
  obtain⟨h0,h1,h2,h3,h4,h5,_⟩:=zz2.cells
  have bz:Below X w wz:=(HB.out w2 b2).trans (kz.below (fun q hq=>by omega) (by have:=(HB.out w2 b2).size;have:=HXs.out;omega))
  have Hwz:Hid (_=_):=hwz
  clear hwz zz zz2 kz
  go_wp2_with fail
  rw [<- Hwz.out]
  exact bodyPost_ret (v:=.tuple #[.agg #[.int .i64 0,.int .i64 0,.string ⟨#[]⟩,.slice none 0 0,.slice none 0 0,.slice none 0 0],.int .i64 (e0)]) (by simp only [results,Tryz.results12];simp [go_sem,h0,h1,h2,h3,h4,h5]) rfl ⟨_,by rw [Hf.out.1],by rw [Hf.out.2];exact noT_in _ _,bz⟩
 subst hz
 have hok:=HOk.out rfl
 rw [if_pos rfl,if_pos rfl] at HE
 have cc:=cl.out w2 b2
 go_wp2_with fail
 refine cc.mono ?_
 rintro e w3 ⟨v3,rfl,hO3,b3⟩
 clear cc cl
 have b13:Below w1.heap.size w1 w3:=b2.trans (b3.mono b2.size)
 obtain⟨va3,vc3,rfl⟩:=OwnsC.len hO3
 obtain⟨L3,hL3⟩:∃ L,L=rl.length:=⟨_,rfl⟩
 have HR3:Hid (∀ W,Below w3.heap.size w3 W->ClRow Tt W rl (.slice va3 L3 vc3)):=fun W q=>by
  rw [hL3];exact ((OwnsC.okn hO3).keep (Nat.le_refl _) (fun _ _=>trivial) (fun _ _ _=>rfl)).blw q
 rw [<- hL3]
 clear hO3 hL3
 by_cases hz:el=0
 rotate_left
 ·have Hf:Hid (takE i r t=el/\takT i r t=noT):=⟨by rw [HE.out.1,if_neg hz],by rw [HE.out.2,if_neg hz]⟩
  have hz1:(el == 0)=false:=by simpa using hz
  clear HE HOk
  have zz:=HZ.out w3 b13
  obtain⟨wz,hwz,zz2,kz,o0,o1,o2,o3,o4,o5,f0,f1,f2,f3,f4,f5⟩:=zst zz (.int .i64 0) (.int .i64 0) (.string ⟨#[]⟩) (.slice none 0 0) (.slice none 0 0) (.slice none 0 0)
  obtain⟨h0,h1,h2,h3,h4,h5,_⟩:=zz2.cells
  have bz:Below X w wz:=(HB.out w3 b13).trans (kz.below (fun q hq=>by omega) (by have:=(HB.out w3 b13).size;have:=HXs.out;omega))
  have Hwz:Hid (_=_):=hwz
  clear hwz zz zz2 kz
  go_wp2_with fail
  rw [<- Hwz.out]
  exact bodyPost_ret (v:=.tuple #[.agg #[.int .i64 0,.int .i64 0,.string ⟨#[]⟩,.slice none 0 0,.slice none 0 0,.slice none 0 0],.int .i64 (el)]) (by simp only [results,Tryz.results12];simp [go_sem,h0,h1,h2,h3,h4,h5]) rfl ⟨_,by rw [Hf.out.1],by rw [Hf.out.2];exact noT_in _ _,bz⟩
 subst hz
 rw [if_pos rfl,if_pos rfl] at HE
 have cP:Hid (∀ V,Below w3.heap.size w3 V->Calls Tryz.prog 40 #[.int .i64 i,.slice va3 L3 vc3] V fun e w'=>∃ fV cV,e=.returned (.agg #[fV,cV])/\RowC (putOp i rl).fn fV w'/\RowC (putOp i rl).fc cV w'/\Below V.heap.size V w'):=fun V q=>putting_any i rl _ V (HR3.out V q) (by omega) hok
 have HT3:Hid (∀ V,Below w3.heap.size w3 V->TmIn Tt V t (.agg #[.int .i64 t.kind,.int .i64 t.n,.string t.name,.slice ra t.r.length rc,.slice ka t.kids.length kc,.slice sa t.sys.length sc])):=fun V q=>HT.out V (b13.trans (q.mono b13.size))
 have cT:Hid (∀ V fV cV,Below w3.heap.size w3 V->RowC (putOp i rl).fn fV V->RowC (putOp i rl).fc cV V->Calls Tryz.prog 41 #[.agg #[fV,cV],.agg #[.int .i64 t.kind,.int .i64 t.n,.string t.name,.slice ra t.r.length rc,.slice ka t.kids.length kc,.slice sa t.sys.length sc]] V fun e w'=>∃ v',e=.returned (.tuple #[v',.int .i64 (eT (putOp i rl) t 0)])/\TmIn (OkN V.heap.size w') w' (ansD (putOp i rl) t) v'/\Below V.heap.size V w'):=fun V fV cV q h1 h2=>dterm_any t _ V (HT3.out V q) h1 h2 Hbt.out
 obtain⟨er,her⟩:∃ e,e=eT (putOp i rl) t 0:=⟨_,rfl⟩
 obtain⟨T,hT⟩:∃ T,T=ansD (putOp i rl) t:=⟨_,rfl⟩
 rw [<- her,<- hT] at cT HE
 rw [<- hT] at hsm
 have HC3:Hid (∀ V,Below w3.heap.size w3 V->Six V X (.int .i64 t.kind) (.int .i64 t.n) (.string t.name) (.slice ra t.r.length rc) (.slice ka t.kids.length kc) (.slice sa t.sys.length sc)):=fun V q=>HC.out V (b13.trans (q.mono b13.size))
 clear her hT HOk
 go_upto_region 7 with fail
 have hS1:Below w3.heap.size w3 w3:=Below.refl _ _
 go_cut [11,10] (fun s se wx=>∃ o ra2 rc2 ka2 kc2 sa2 sc2,s=.pointer (some ⟨o,0,none⟩)/\se=.int .i64 er/\Six wx o (.int .i64 T.kind) (.int .i64 T.n) (.string T.name) (.slice ra2 T.r.length rc2) (.slice ka2 T.kids.length kc2) (.slice sa2 T.sys.length sc2)/\TmIn Tt wx T (.agg #[.int .i64 T.kind,.int .i64 T.n,.string T.name,.slice ra2 T.r.length rc2,.slice ka2 T.kids.length kc2,.slice sa2 T.sys.length sc2])/\Below w3.heap.size w3 wx/\w3.heap.size<=o)
 case first=>as_aux_lemma =>
  refine wp_region_held_drew (S:=fun V=>Below w3.heap.size w3 V) (by kernel_rfl) (hS1.drew) (fun hS=>?_)
  obtain⟨wd,hwd⟩:∃ V,V=w3.drew:=⟨_,rfl⟩
  have hbd:Below w3.heap.size w3 wd:=by rw [hwd];exact (Below.refl _ _).drew
  rw [<- hwd] at hS ⊢
  clear hwd
  refine zk 0 (.int .i64 i) rfl (by rfl) (fun w hS=>by go_simp) hS ?_
  try simp only [Act.put,zg1,zg2,zg3,zs1,zs2,zs3]
  refine zk 1 (.slice va3 L3 vc3) rfl (by rfl) (fun w hS=>by go_simp) hS ?_
  try simp only [Act.put,zg1,zg2,zg3,zs1,zs2,zs3]
  refine zk 3 (.agg #[.int .i64 t.kind,.int .i64 t.n,.string t.name,.slice ra t.r.length rc,.slice ka t.kids.length kc,.slice sa t.sys.length sc]) rfl (by rfl) (fun w hS=>by obtain⟨y0,y1,y2,y3,y4,y5,_⟩:=(HC3.out w hS).cells;go_simp) hS ?_
  try simp only [Act.put,zg1,zg2,zg3,zs1,zs2,zs3]
  refine wpAnyH_ready (rs:=[2,8]) (by kernel_rfl) (by simp) ?_
  refine ready_cons rfl (fun KK hKK=>?_) (ready_cons rfl (fun KK hKK=>?_) AllReadyH.nil)
  ·skip
   refine⟨?_⟩
   have cc:=cP.out wd hS
   go_simp
   refine cc.mono ?_
   rintro e w4 ⟨fV,cV,rfl,hF,hC,hbP⟩
   have hSw4:Below w3.heap.size w3 w4:=hS.trans (hbP.mono hS.size)
   clear cc
   refine hKK.out _ _ hSw4 (fun hS=>?_)
   clear hKK KK
   try simp only [Act.put,zg1,zg2,zg3,zs1,zs2,zs3]
   refine wpAnyH_ready (rs:=[4,8]) (by kernel_rfl) (by simp) ?_
   refine ready_cons rfl (fun KK hKK=>?_) (ready_cons rfl (fun KK hKK=>?_) AllReadyH.nil)
   ·skip
    refine⟨?_⟩
    have cc:=cT.out w4 fV cV hS hF hC
    go_simp
    refine cc.mono ?_
    rintro e w5 ⟨v3,rfl,hv3,hbT⟩
    obtain⟨ra2,rc2,ka2,kc2,sa2,sc2,rfl,ht2⟩:=hv3.form
    have htv:=ht2.value
    have hSw5:Below w3.heap.size w3 w5:=hS.trans (hbT.mono hS.size)
    clear cc ht2 hv3
    refine hKK.out _ _ hSw5 (fun hS=>?_)
    clear hKK KK
    try simp only [Act.put,zg1,zg2,zg3,zs1,zs2,zs3]
    refine zk 5 (.tuple #[.agg #[.int .i64 T.kind,.int .i64 T.n,.string T.name,.slice ra2 T.r.length rc2,.slice ka2 T.kids.length kc2,.slice sa2 T.sys.length sc2],.int .i64 er]) rfl (by rfl) (fun w hS=>by go_simp) hS ?_
    try simp only [Act.put,zg1,zg2,zg3,zs1,zs2,zs3]
    refine zk 6 (.agg #[.int .i64 T.kind,.int .i64 T.n,.string T.name,.slice ra2 T.r.length rc2,.slice ka2 T.kids.length kc2,.slice sa2 T.sys.length sc2]) rfl (by rfl) (fun w hS=>by go_simp) hS ?_
    try simp only [Act.put,zg1,zg2,zg3,zs1,zs2,zs3]
    refine zk 7 (.int .i64 er) rfl (by rfl) (fun w hS=>by go_simp) hS ?_
    try simp only [Act.put,zg1,zg2,zg3,zs1,zs2,zs3]
    refine zr 8 rfl (fun KK hKK=>?_)
    obtain⟨w6,hw6⟩:∃ W,W=w5.alloc (.cells #[.int .i64 0,.int .i64 0,.string ⟨#[]⟩,.slice none 0 0,.slice none 0 0,.slice none 0 0] 26):=⟨_,rfl⟩
    have bw6:Below w5.heap.size w5 w6:=by rw [hw6];exact belowA _ _
    have sw6:w6.heap.size=w5.heap.size+1:=by rw [hw6];simp
    have hZ:Six w6 w5.heap.size (.int .i64 0) (.int .i64 0) (.string ⟨#[]⟩) (.slice none 0 0) (.slice none 0 0) (.slice none 0 0):=⟨by rw [hw6];exact heapNew _ _⟩
    have hSw6:Below w3.heap.size w3 w6:=hS.trans (bw6.mono hS.size)
    have Hw6:Hid (_=_):=hw6
    clear hw6
    refine⟨?_⟩
    go_simp
    rw [<- Hw6.out]
    refine hKK.out _ _ hSw6 (fun hS=>?_)
    clear hKK KK
    try simp only [Act.put,zg1,zg2,zg3,zs1,zs2,zs3]
    have hge:w3.heap.size<=w5.heap.size:=hSw5.size
    have zz2:=hZ.set6 (.int .i64 T.kind) (.int .i64 T.n) (.string T.name) (.slice ra2 T.r.length rc2) (.slice ka2 T.kids.length kc2) (.slice sa2 T.sys.length sc2)
    obtain⟨o0,o1,o2,o3,o4,o5,ff⟩:=hZ.cells
    have f0:=ff 0
    have f1:=ff 1
    have f2:=ff 2
    have f3:=ff 3
    have f4:=ff 4
    have f5:=ff 5
    obtain⟨w9,hwz⟩:∃ W,W=(((((w6.setCell ⟨w5.heap.size,0,none⟩ (.int .i64 T.kind)).setCell ⟨w5.heap.size,1,none⟩ (.int .i64 T.n)).setCell ⟨w5.heap.size,2,none⟩ (.string T.name)).setCell ⟨w5.heap.size,3,none⟩ (.slice ra2 T.r.length rc2)).setCell ⟨w5.heap.size,4,none⟩ (.slice ka2 T.kids.length kc2)).setCell ⟨w5.heap.size,5,none⟩ (.slice sa2 T.sys.length sc2):=⟨_,rfl⟩
    rw [<- hwz] at zz2
    have kz:Kn (fun q=>q≠w5.heap.size) w6 w9:=by rw [hwz];exact kn_set6 _ _ _ _ _ _ _ _
    have HTm:Hid (TmIn Tt w9 T (.agg #[.int .i64 T.kind,.int .i64 T.n,.string T.name,.slice ra2 T.r.length rc2,.slice ka2 T.kids.length kc2,.slice sa2 T.sys.length sc2])):=htv.keep (Nat.le_trans bw6.size kz.size) (fun _ _=>trivial) (fun q hq hs=>(kz.block q (by have:=hq.lt;omega) (by have:=bw6.size;omega)).trans (bw6.block q hs))
    have hS5:Below w3.heap.size w3 w9:=hS.trans (kz.below (fun q hq=>by omega) hS.size)
    have Hwz:Hid (_=_):=hwz
    clear hwz ff kz htv
    refine zr 9 rfl (fun KK hKK=>?_)
    refine⟨?_⟩
    go_simp
    rw [<- Hwz.out]
    refine hKK.out _ _ hS5 (fun hS=>?_)
    clear hKK KK
    try simp only [Act.put,zg1,zg2,zg3,zs1,zs2,zs3]
    refine zk 10 (.int .i64 er) rfl (by rfl) (fun w hS=>by go_simp) hS ?_
    try simp only [Act.put,zg1,zg2,zg3,zs1,zs2,zs3]
    refine wpAnyH_done (by kernel_rfl) ?_ _
    go_wp2_with fail
    go_meet
    exact⟨_,_,_,_,_,_,_,rfl,rfl,zz2,HTm.out,hS,hge⟩
   ·skip
    obtain⟨w5,hw5⟩:∃ W,W=w4.alloc (.cells #[.int .i64 0,.int .i64 0,.string ⟨#[]⟩,.slice none 0 0,.slice none 0 0,.slice none 0 0] 26):=⟨_,rfl⟩
    have bw5:Below w4.heap.size w4 w5:=by rw [hw5];exact belowA _ _
    have sw5:w5.heap.size=w4.heap.size+1:=by rw [hw5];simp
    have hZ:Six w5 w4.heap.size (.int .i64 0) (.int .i64 0) (.string ⟨#[]⟩) (.slice none 0 0) (.slice none 0 0) (.slice none 0 0):=⟨by rw [hw5];exact heapNew _ _⟩
    have hSw5:Below w3.heap.size w3 w5:=hS.trans (bw5.mono hS.size)
    have Hw5:Hid (_=_):=hw5
    clear hw5
    refine⟨?_⟩
    go_simp
    rw [<- Hw5.out]
    refine hKK.out _ _ hSw5 (fun hS=>?_)
    clear hKK KK
    try simp only [Act.put,zg1,zg2,zg3,zs1,zs2,zs3]
    have hF:=hF.blw bw5
    have hC:=hC.blw bw5
    refine zr 4 rfl (fun KK hKK=>?_)
    refine⟨?_⟩
    have cc:=cT.out w5 fV cV hS hF hC
    go_simp
    refine cc.mono ?_
    rintro e w6 ⟨v3,rfl,hv3,hbT⟩
    obtain⟨ra2,rc2,ka2,kc2,sa2,sc2,rfl,ht2⟩:=hv3.form
    have htv:=ht2.value
    have hSw6:Below w3.heap.size w3 w6:=hS.trans (hbT.mono hS.size)
    clear cc ht2 hv3
    refine hKK.out _ _ hSw6 (fun hS=>?_)
    clear hKK KK
    try simp only [Act.put,zg1,zg2,zg3,zs1,zs2,zs3]
    refine zk 5 (.tuple #[.agg #[.int .i64 T.kind,.int .i64 T.n,.string T.name,.slice ra2 T.r.length rc2,.slice ka2 T.kids.length kc2,.slice sa2 T.sys.length sc2],.int .i64 er]) rfl (by rfl) (fun w hS=>by go_simp) hS ?_
    try simp only [Act.put,zg1,zg2,zg3,zs1,zs2,zs3]
    refine zk 6 (.agg #[.int .i64 T.kind,.int .i64 T.n,.string T.name,.slice ra2 T.r.length rc2,.slice ka2 T.kids.length kc2,.slice sa2 T.sys.length sc2]) rfl (by rfl) (fun w hS=>by go_simp) hS ?_
    try simp only [Act.put,zg1,zg2,zg3,zs1,zs2,zs3]
    refine zk 7 (.int .i64 er) rfl (by rfl) (fun w hS=>by go_simp) hS ?_
    try simp only [Act.put,zg1,zg2,zg3,zs1,zs2,zs3]
    have hZ:=hZ.blw hbT
    have hge:w3.heap.size<=w4.heap.size:=hSw4.size
    have zz2:=hZ.set6 (.int .i64 T.kind) (.int .i64 T.n) (.string T.name) (.slice ra2 T.r.length rc2) (.slice ka2 T.kids.length kc2) (.slice sa2 T.sys.length sc2)
    obtain⟨o0,o1,o2,o3,o4,o5,ff⟩:=hZ.cells
    have f0:=ff 0
    have f1:=ff 1
    have f2:=ff 2
    have f3:=ff 3
    have f4:=ff 4
    have f5:=ff 5
    obtain⟨w9,hwz⟩:∃ W,W=(((((w6.setCell ⟨w4.heap.size,0,none⟩ (.int .i64 T.kind)).setCell ⟨w4.heap.size,1,none⟩ (.int .i64 T.n)).setCell ⟨w4.heap.size,2,none⟩ (.string T.name)).setCell ⟨w4.heap.size,3,none⟩ (.slice ra2 T.r.length rc2)).setCell ⟨w4.heap.size,4,none⟩ (.slice ka2 T.kids.length kc2)).setCell ⟨w4.heap.size,5,none⟩ (.slice sa2 T.sys.length sc2):=⟨_,rfl⟩
    rw [<- hwz] at zz2
    have kz:Kn (fun q=>q≠w4.heap.size) w6 w9:=by rw [hwz];exact kn_set6 _ _ _ _ _ _ _ _
    have HTm:Hid (TmIn Tt w9 T (.agg #[.int .i64 T.kind,.int .i64 T.n,.string T.name,.slice ra2 T.r.length rc2,.slice ka2 T.kids.length kc2,.slice sa2 T.sys.length sc2])):=htv.keep kz.size (fun _ _=>trivial) (fun q hq hs=>kz.block q (by have:=hq.1;omega) hs)
    have hS5:Below w3.heap.size w3 w9:=hS.trans (kz.below (fun q hq=>by omega) hS.size)
    have Hwz:Hid (_=_):=hwz
    clear hwz ff kz htv
    refine zr 9 rfl (fun KK hKK=>?_)
    refine⟨?_⟩
    go_simp
    rw [<- Hwz.out]
    refine hKK.out _ _ hS5 (fun hS=>?_)
    clear hKK KK
    try simp only [Act.put,zg1,zg2,zg3,zs1,zs2,zs3]
    refine zk 10 (.int .i64 er) rfl (by rfl) (fun w hS=>by go_simp) hS ?_
    try simp only [Act.put,zg1,zg2,zg3,zs1,zs2,zs3]
    refine wpAnyH_done (by kernel_rfl) ?_ _
    go_wp2_with fail
    go_meet
    exact⟨_,_,_,_,_,_,_,rfl,rfl,zz2,HTm.out,hS,hge⟩
  ·skip
   obtain⟨w4,hw4⟩:∃ W,W=wd.alloc (.cells #[.int .i64 0,.int .i64 0,.string ⟨#[]⟩,.slice none 0 0,.slice none 0 0,.slice none 0 0] 26):=⟨_,rfl⟩
   have bw4:Below wd.heap.size wd w4:=by rw [hw4];exact belowA _ _
   have sw4:w4.heap.size=wd.heap.size+1:=by rw [hw4];simp
   have hZ:Six w4 wd.heap.size (.int .i64 0) (.int .i64 0) (.string ⟨#[]⟩) (.slice none 0 0) (.slice none 0 0) (.slice none 0 0):=⟨by rw [hw4];exact heapNew _ _⟩
   have hSw4:Below w3.heap.size w3 w4:=hS.trans (bw4.mono hS.size)
   have Hw4:Hid (_=_):=hw4
   clear hw4
   refine⟨?_⟩
   go_simp
   rw [<- Hw4.out]
   refine hKK.out _ _ hSw4 (fun hS=>?_)
   clear hKK KK
   try simp only [Act.put,zg1,zg2,zg3,zs1,zs2,zs3]
   refine zr 2 rfl (fun KK hKK=>?_)
   refine⟨?_⟩
   have cc:=cP.out w4 hS
   go_simp
   refine cc.mono ?_
   rintro e w5 ⟨fV,cV,rfl,hF,hC,hbP⟩
   have hSw5:Below w3.heap.size w3 w5:=hS.trans (hbP.mono hS.size)
   clear cc
   refine hKK.out _ _ hSw5 (fun hS=>?_)
   clear hKK KK
   try simp only [Act.put,zg1,zg2,zg3,zs1,zs2,zs3]
   have hZ:=hZ.blw hbP
   refine zr 4 rfl (fun KK hKK=>?_)
   refine⟨?_⟩
   have cc:=cT.out w5 fV cV hS hF hC
   go_simp
   refine cc.mono ?_
   rintro e w6 ⟨v3,rfl,hv3,hbT⟩
   obtain⟨ra2,rc2,ka2,kc2,sa2,sc2,rfl,ht2⟩:=hv3.form
   have htv:=ht2.value
   have hSw6:Below w3.heap.size w3 w6:=hS.trans (hbT.mono hS.size)
   clear cc ht2 hv3
   refine hKK.out _ _ hSw6 (fun hS=>?_)
   clear hKK KK
   try simp only [Act.put,zg1,zg2,zg3,zs1,zs2,zs3]
   refine zk 5 (.tuple #[.agg #[.int .i64 T.kind,.int .i64 T.n,.string T.name,.slice ra2 T.r.length rc2,.slice ka2 T.kids.length kc2,.slice sa2 T.sys.length sc2],.int .i64 er]) rfl (by rfl) (fun w hS=>by go_simp) hS ?_
   try simp only [Act.put,zg1,zg2,zg3,zs1,zs2,zs3]
   refine zk 6 (.agg #[.int .i64 T.kind,.int .i64 T.n,.string T.name,.slice ra2 T.r.length rc2,.slice ka2 T.kids.length kc2,.slice sa2 T.sys.length sc2]) rfl (by rfl) (fun w hS=>by go_simp) hS ?_
   try simp only [Act.put,zg1,zg2,zg3,zs1,zs2,zs3]
   refine zk 7 (.int .i64 er) rfl (by rfl) (fun w hS=>by go_simp) hS ?_
   try simp only [Act.put,zg1,zg2,zg3,zs1,zs2,zs3]
   have hZ:=hZ.blw hbT
   have hge:w3.heap.size<=wd.heap.size:=hbd.size
   have zz2:=hZ.set6 (.int .i64 T.kind) (.int .i64 T.n) (.string T.name) (.slice ra2 T.r.length rc2) (.slice ka2 T.kids.length kc2) (.slice sa2 T.sys.length sc2)
   obtain⟨o0,o1,o2,o3,o4,o5,ff⟩:=hZ.cells
   have f0:=ff 0
   have f1:=ff 1
   have f2:=ff 2
   have f3:=ff 3
   have f4:=ff 4
   have f5:=ff 5
   obtain⟨w9,hwz⟩:∃ W,W=(((((w6.setCell ⟨wd.heap.size,0,none⟩ (.int .i64 T.kind)).setCell ⟨wd.heap.size,1,none⟩ (.int .i64 T.n)).setCell ⟨wd.heap.size,2,none⟩ (.string T.name)).setCell ⟨wd.heap.size,3,none⟩ (.slice ra2 T.r.length rc2)).setCell ⟨wd.heap.size,4,none⟩ (.slice ka2 T.kids.length kc2)).setCell ⟨wd.heap.size,5,none⟩ (.slice sa2 T.sys.length sc2):=⟨_,rfl⟩
   rw [<- hwz] at zz2
   have kz:Kn (fun q=>q≠wd.heap.size) w6 w9:=by rw [hwz];exact kn_set6 _ _ _ _ _ _ _ _
   have HTm:Hid (TmIn Tt w9 T (.agg #[.int .i64 T.kind,.int .i64 T.n,.string T.name,.slice ra2 T.r.length rc2,.slice ka2 T.kids.length kc2,.slice sa2 T.sys.length sc2])):=htv.keep kz.size (fun _ _=>trivial) (fun q hq hs=>kz.block q (by have:=hq.1;have:=hbP.size;omega) hs)
   have hS5:Below w3.heap.size w3 w9:=hS.trans (kz.below (fun q hq=>by omega) hS.size)
   have Hwz:Hid (_=_):=hwz
   clear hwz ff kz htv
   refine zr 9 rfl (fun KK hKK=>?_)
   refine⟨?_⟩
   go_simp
   rw [<- Hwz.out]
   refine hKK.out _ _ hS5 (fun hS=>?_)
   clear hKK KK
   try simp only [Act.put,zg1,zg2,zg3,zs1,zs2,zs3]
   refine zk 10 (.int .i64 er) rfl (by rfl) (fun w hS=>by go_simp) hS ?_
   try simp only [Act.put,zg1,zg2,zg3,zs1,zs2,zs3]
   refine wpAnyH_done (by kernel_rfl) ?_ _
   go_wp2_with fail
   go_meet
   exact⟨_,_,_,_,_,_,_,rfl,rfl,zz2,HTm.out,hS,hge⟩
 case rest =>
 obtain⟨ob,ra2,rc2,ka2,kc2,sa2,sc2,rfl,rfl,hO,hTv,hS4,hge⟩:=hcut
 obtain⟨w4,hw4⟩:∃ V,V=wc:=⟨_,rfl⟩
 subst hw4
 have b14:Below w1.heap.size w1 w4:=b13.trans (hS4.mono b13.size)
 clear cP cT HR3 HC3 HT3 hS1
 by_cases hz:er=0
 rotate_left
 ·have Hf:Hid (takE i r t=er/\takT i r t=noT):=⟨by rw [HE.out.1,if_neg hz],by rw [HE.out.2,if_neg hz]⟩
  have hz1:(er == 0)=false:=by simpa using hz
  clear HE
  have zz:=HZ.out w4 b14
  obtain⟨wz,hwz,zz2,kz,o0,o1,o2,o3,o4,o5,f0,f1,f2,f3,f4,f5⟩:=zst zz (.int .i64 0) (.int .i64 0) (.string ⟨#[]⟩) (.slice none 0 0) (.slice none 0 0) (.slice none 0 0)
  obtain⟨h0,h1,h2,h3,h4,h5,_⟩:=zz2.cells
  have bz:Below X w wz:=(HB.out w4 b14).trans (kz.below (fun q hq=>by omega) (by have:=(HB.out w4 b14).size;have:=HXs.out;omega))
  have Hwz:Hid (_=_):=hwz
  clear hwz zz zz2 kz
  go_wp2_with fail
  rw [<- Hwz.out]
  exact bodyPost_ret (v:=.tuple #[.agg #[.int .i64 0,.int .i64 0,.string ⟨#[]⟩,.slice none 0 0,.slice none 0 0,.slice none 0 0],.int .i64 (er)]) (by simp only [results,Tryz.results12];simp [go_sem,h0,h1,h2,h3,h4,h5]) rfl ⟨_,by rw [Hf.out.1],by rw [Hf.out.2];exact noT_in _ _,bz⟩
 subst hz
 rw [if_pos rfl,if_pos rfl] at HE
 have cP:Hid (∀ V,Below w4.heap.size w4 V->Calls Tryz.prog 46 #[.int .i64 i] V fun e w'=>∃ fV cV,e=.returned (.agg #[fV,cV])/\RowC (dropOp i).fn fV w'/\RowC (dropOp i).fc cV w'/\Below V.heap.size V w'):=fun V q=>dropping_any i V hok
 have cT:Hid (∀ V fV cV,Below w4.heap.size w4 V->RowC (dropOp i).fn fV V->RowC (dropOp i).fc cV V->Calls Tryz.prog 41 #[.agg #[fV,cV],.agg #[.int .i64 T.kind,.int .i64 T.n,.string T.name,.slice ra2 T.r.length rc2,.slice ka2 T.kids.length kc2,.slice sa2 T.sys.length sc2]] V fun e w'=>∃ v',e=.returned (.tuple #[v',.int .i64 (eT (dropOp i) T 0)])/\TmIn (OkN V.heap.size w') w' (ansD (dropOp i) T) v'/\Below V.heap.size V w'):=fun V fV cV q h1 h2=>dterm_any T _ V (hTv.blw q) h1 h2 hsm
 obtain⟨er2,her⟩:∃ e,e=eT (dropOp i) T 0:=⟨_,rfl⟩
 obtain⟨T2,hT⟩:∃ T2,T2=ansD (dropOp i) T:=⟨_,rfl⟩
 rw [<- her,<- hT] at cT HE
 have HO:Hid (∀ V,Below w4.heap.size w4 V->Six V ob (.int .i64 T.kind) (.int .i64 T.n) (.string T.name) (.slice ra2 T.r.length rc2) (.slice ka2 T.kids.length kc2) (.slice sa2 T.sys.length sc2)):=fun V q=>hO.blw q
 have hob:=hO.lt
 have hobX:ob≠X+1:=by have:=b13.size;omega
 clear her hT
 go_upto_region 10 with fail
 refine wp_region_held_drew (S:=fun V=>Below X w V/\Six V ob (.int .i64 T.kind) (.int .i64 T.n) (.string T.name) (.slice ra2 T.r.length rc2) (.slice ka2 T.kids.length kc2) (.slice sa2 T.sys.length sc2)) (by kernel_rfl) ⟨(HB.out w4 b14).drew,⟨hO.blk⟩⟩ (fun hS=>?_)
 obtain⟨wd,hwd⟩:∃ V,V=w4.drew:=⟨_,rfl⟩
 have hbd:Below w4.heap.size w4 wd:=by rw [hwd];exact (Below.refl _ _).drew
 rw [<- hwd] at hS ⊢
 clear hwd hO
 refine zk 0 (.int .i64 i) rfl (by rfl) (fun w hS=>by go_simp) hS ?_
 try simp only [Act.put,zg1,zg2,zg3,zs1,zs2,zs3]
 refine zk 2 (.agg #[.int .i64 T.kind,.int .i64 T.n,.string T.name,.slice ra2 T.r.length rc2,.slice ka2 T.kids.length kc2,.slice sa2 T.sys.length sc2]) rfl (by rfl) (fun w hS=>by obtain⟨y0,y1,y2,y3,y4,y5,_⟩:=hS.2.cells;go_simp) hS ?_
 try simp only [Act.put,zg1,zg2,zg3,zs1,zs2,zs3]
 refine zr 1 rfl (fun KK hKK=>?_)
 refine⟨?_⟩
 have cc:=cP.out wd hbd
 go_simp
 refine cc.mono ?_
 rintro e w5 ⟨fV,cV,rfl,hF,hC,hbq⟩
 have hbd:Below w4.heap.size w4 w5:=hbd.trans (hbq.mono hbd.size)
 clear cc hbq
 refine hKK.out _ _ ⟨HB.out w5 (b14.trans (hbd.mono b14.size)),HO.out w5 hbd⟩ (fun hS=>?_)
 clear hKK KK
 try simp only [Act.put,zg1,zg2,zg3,zs1,zs2,zs3]
 refine zr 3 rfl (fun KK hKK=>?_)
 refine⟨?_⟩
 have cc:=cT.out w5 fV cV hbd hF hC
 go_simp
 refine cc.mono ?_
 rintro e w6 ⟨v3,rfl,hv3,hb3⟩
 obtain⟨ra2b,rc2b,ka2b,kc2b,sa2b,sc2b,rfl,ht2⟩:=hv3.form
 have htv:=ht2.value
 have hn3:=hbd.size
 have hn4:=b14.size
 have hbd:Below w4.heap.size w4 w6:=hbd.trans (hb3.mono hbd.size)
 clear cc ht2 hv3
 refine hKK.out _ _ ⟨HB.out w6 (b14.trans (hbd.mono b14.size)),HO.out w6 hbd⟩ (fun hS=>?_)
 clear hKK KK
 try simp only [Act.put,zg1,zg2,zg3,zs1,zs2,zs3]
 refine zk 4 (.agg #[.int .i64 T2.kind,.int .i64 T2.n,.string T2.name,.slice ra2b T2.r.length rc2b,.slice ka2b T2.kids.length kc2b,.slice sa2b T2.sys.length sc2b]) rfl (by rfl) (fun w hS=>by go_simp) hS ?_
 try simp only [Act.put,zg1,zg2,zg3,zs1,zs2,zs3]
 refine zk 5 (.int .i64 er2) rfl (by rfl) (fun w hS=>by go_simp) hS ?_
 try simp only [Act.put,zg1,zg2,zg3,zs1,zs2,zs3]
 have zz:=HZ.out w6 (b14.trans (hbd.mono b14.size))
 have zz2:=zz.set6 (.int .i64 T2.kind) (.int .i64 T2.n) (.string T2.name) (.slice ra2b T2.r.length rc2b) (.slice ka2b T2.kids.length kc2b) (.slice sa2b T2.sys.length sc2b)
 obtain⟨o0,o1,o2,o3,o4,o5,ff⟩:=zz.cells
 have f0:=ff 0
 have f1:=ff 1
 have f2:=ff 2
 have f3:=ff 3
 have f4:=ff 4
 have f5:=ff 5
 obtain⟨w7,hwz⟩:∃ W,W=(((((w6.setCell ⟨X+1,0,none⟩ (.int .i64 T2.kind)).setCell ⟨X+1,1,none⟩ (.int .i64 T2.n)).setCell ⟨X+1,2,none⟩ (.string T2.name)).setCell ⟨X+1,3,none⟩ (.slice ra2b T2.r.length rc2b)).setCell ⟨X+1,4,none⟩ (.slice ka2b T2.kids.length kc2b)).setCell ⟨X+1,5,none⟩ (.slice sa2b T2.sys.length sc2b):=⟨_,rfl⟩
 rw [<- hwz] at zz2
 have kz:Kn (fun q=>q≠X+1) w6 w7:=by rw [hwz];exact kn_set6 _ _ _ _ _ _ _ _
 have HTm:Hid (TmIn (OkN X w7) w7 T2 (.agg #[.int .i64 T2.kind,.int .i64 T2.n,.string T2.name,.slice ra2b T2.r.length rc2b,.slice ka2b T2.kids.length kc2b,.slice sa2b T2.sys.length sc2b])):=keepD htv kz (by omega) (by omega)
 have hS5:Below X w w7/\Six w7 ob (.int .i64 T.kind) (.int .i64 T.n) (.string T.name) (.slice ra2 T.r.length rc2) (.slice ka2 T.kids.length kc2) (.slice sa2 T.sys.length sc2):=⟨(HB.out w6 (b14.trans (hbd.mono b14.size))).trans (kz.below (fun q hq=>by omega) (by have:=(HB.out w6 (b14.trans (hbd.mono b14.size))).size;have:=HXs.out;omega)),(HO.out w6 hbd).kn kz hobX⟩
 have Hwz:Hid (_=_):=hwz
 clear hwz ff zz kz htv
 refine zr 6 rfl (fun KK hKK=>?_)
 refine⟨?_⟩
 go_simp
 rw [<- Hwz.out]
 refine hKK.out _ _ hS5 (fun hS=>?_)
 clear hKK KK
 try simp only [Act.put,zg1,zg2,zg3,zs1,zs2,zs3]
 refine zk 7 (.int .i64 er2) rfl (by rfl) (fun w hS=>by go_simp) hS ?_
 try simp only [Act.put,zg1,zg2,zg3,zs1,zs2,zs3]
 obtain⟨h0,h1,h2,h3,h4,h5,_⟩:=zz2.cells
 refine wpAnyH_done (by kernel_rfl) ?_ _
 go_wp2_with fail
 exact bodyPost_ret (v:=.tuple #[.agg #[.int .i64 T2.kind,.int .i64 T2.n,.string T2.name,.slice ra2b T2.r.length rc2b,.slice ka2b T2.kids.length kc2b,.slice sa2b T2.sys.length sc2b],.int .i64 (er2)]) (by simp only [results,Tryz.results12];simp [go_sem,h0,h1,h2,h3,h4,h5]) rfl ⟨_,by rw [HE.out.1],by rw [HE.out.2];exact HTm.out,hS.1⟩
end Go.Proofs.YtblbhmnahoiecaaGreat
