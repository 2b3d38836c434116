/- A part of the proof. -/
import Derived.Test.YtblbhmnahoiecaaGreatHG23
set_option linter.unusedVariables false
set_option linter.unusedSimpArgs false
set_option maxRecDepth 100000
set_option maxHeartbeats 8000000
namespace Go.Proofs.YtblbhmnahoiecaaGreat
open Go.RowKit
def DvC (o:DOp) (N:Nat):Prop:=∀ (t:Tm) (bd g off xw xo:Nat) (fV cV:Value) (ra:Option Addr) (rc:Nat) (ka:Option Addr) (kc:Nat) (sa:Option Addr) (sc:Nat) (w:World),
 DEnv w fV cV xw xo->RowC o.fn fV w->RowC o.fc cV w->Cs6 w g off t ra rc ka kc sa sc->TmTop Tt w t ra rc ka kc sa sc->blk t<=N->bd+blk t<=60000->blk t<=40000 ->
 Calls Tryz.prog 110 #[.pointer (some ⟨g,off,none⟩),.int .i64 (bd:Int),.pointer (some ⟨xw,0,none⟩),.pointer (some ⟨xo,0,none⟩)] w fun e w'=>LOut (eT o t bd) (TmIn (OkN w.heap.size w') w' (dT o t bd)) e/\Below w.heap.size w w'
theorem dv_eg:∀ args w,(callFunc 110 args).run Tryz.prog w=.ok (.enter 110 args) w:=enters_of Tryz.func110 (by kernel_rfl) rfl
theorem e_row {o:DOp} {t:Tm} {bd:Nat} (h:(ownP o t.kind t.r bd).2≠0):eT o t bd=(ownP o t.kind t.r bd).2:=by rw [e_eq,firstE_cons,if_neg h]
theorem e_kid {o:DOp} {t:Tm} {bd k:Nat} {x:Tm} (h:(ownP o t.kind t.r bd).2=0) (hx:t.kids[k]? = some x) (h0:firstE ((eK o t.kind t.kids bd).take k)=0) (hne:eT o x (bd+bdK t.kind k)≠0):eT o t bd=eT o x (bd+bdK t.kind k):=by
 have e1:=firstE_step (eK_get (o:=o) (k:=t.kind) (bd:=bd) hx)
 rw [if_pos h0] at e1
 have e2:=firstE_stuck (l:=eK o t.kind t.kids bd) (k:=k+1) (by rw [e1];exact hne)
 rw [e_eq,firstE_cons,if_pos h,firstE_append,if_neg (by rw [e2,e1];exact hne),e2,e1]
theorem e_br {o:DOp} {t:Tm} {bd j:Nat} {b:List C × List Tm} (h:(ownP o t.kind t.r bd).2=0) (hK:firstE (eK o t.kind t.kids bd)=0) (hb:t.sys[j]? = some b) (h0:firstE ((eS o t.kind t.sys bd).take j)=0) (hne:eB o t.kind b bd≠0):eT o t bd=eB o t.kind b bd:=by
 have e1:=firstE_step (eS_get (o:=o) (k:=t.kind) (bd:=bd) hb)
 rw [if_pos h0] at e1
 have e2:=firstE_stuck (l:=eS o t.kind t.sys bd) (k:=j+1) (by rw [e1];exact hne)
 rw [e_eq,firstE_cons,if_pos h,firstE_append,if_pos hK,e2,e1]
theorem e_none {o:DOp} {t:Tm} {bd:Nat} (h:(ownP o t.kind t.r bd).2=0) (hK:firstE (eK o t.kind t.kids bd)=0) (hS:firstE (eS o t.kind t.sys bd)=0):eT o t bd=0:=by
 rw [e_eq,firstE_cons,if_pos h,firstE_append,if_pos hK,hS]
theorem b_face {o:DOp} {k:Int} {b:List C × List Tm} {bd:Nat} (h:(o.fc b.1 bd).2≠0):eB o k b bd=(o.fc b.1 bd).2:=by unfold eB;rw [firstE_cons,if_neg h]
theorem b_gone {o:DOp} {k:Int} {b:List C × List Tm} {bd:Nat} (h:(o.fc b.1 bd).2=0) (hs:stayB o bd b.1=false):eB o k b bd=0:=by unfold eB;rw [firstE_cons,if_pos h,hs];rfl
theorem b_kid {o:DOp} {k:Int} {b:List C × List Tm} {bd j:Nat} {x:Tm} (h:(o.fc b.1 bd).2=0) (hs:stayB o bd b.1=true) (hx:b.2[j]? = some x) (h0:firstE ((eBk o k b bd).take j)=0) (hne:eT o x (bd+moreK k)≠0):eB o k b bd=eT o x (bd+moreK k):=by
 have hg:(eBk o k b bd)[j]? = some (eT o x (bd+moreK k)):=by unfold eBk;rw [List.getElem?_map,hx];rfl
 have e1:=firstE_step hg
 rw [if_pos h0] at e1
 have e2:=firstE_stuck (l:=eBk o k b bd) (k:=j+1) (by rw [e1];exact hne)
 unfold eB
 rw [firstE_cons,if_pos h,hs,if_pos rfl,e2,e1]
theorem b_none {o:DOp} {k:Int} {b:List C × List Tm} {bd:Nat} (h:(o.fc b.1 bd).2=0) (hs:stayB o bd b.1=true) (h0:firstE (eBk o k b bd)=0):eB o k b bd=0:=by unfold eB;rw [firstE_cons,if_pos h,hs,if_pos rfl,h0]
theorem oc_blw2 {w w':World} {base:Nat} {v:Value} {l:List C} (h:OwnsC w base v l) (hb:Below w.heap.size w w'):OwnsC w' base v l:=owns_keep h (fun k hk=>hb.block k (World.ownsRow.lt h k hk).2)
theorem Half.mono {n m ob:Nat} {r:List C} {l:List Tm} {W:World} {va vk:Value} (h:Half n ob r l W va vk) (hm:m<=n):Half m ob r l W va vk:=by
 have up:∀ q,OkR n (fun q=>q≠ob) W vk q->OkR m (fun q=>q≠ob) W vk q:=fun q hq=>⟨hq.1.mono hm,hq.2⟩
 refine⟨h.row.keep (Nat.le_refl _) up (fun _ _ _=>rfl),?_,Nat.le_trans hm h.ge⟩
 obtain⟨us,h1,h2,h3,h4⟩:=h.kids
 exact⟨us,h1,World.ownsRow.mono h2 hm,h3,fun j x u hx hu=>(h4 j x u hx hu).up up⟩
theorem dv_step {o:DOp} (N:Nat) (IH:DvC o N):DvC o (N+1):=by
 intro t bd g off xw xo fV cV ra rc ka kc sa sc w hE hF hC h6 ht hN hbd hb4
 obtain⟨hl1,hl2,hl3,hl4⟩:=blk_lens t
 obtain⟨w1,hw1⟩:∃ W,W=w.alloc (.cells #[.int .i64 0,.int .i64 0,.string ⟨#[]⟩,.slice none 0 0,.slice none 0 0,.slice none 0 0] 26):=⟨_,rfl⟩
 have b1:Below w.heap.size w w1:=by rw [hw1];exact belowA _ _
 have s1:w1.heap.size=w.heap.size+1:=by rw [hw1];simp
 obtain⟨X,hX⟩:∃ X,X=w.heap.size:=⟨_,rfl⟩
 have m2:Six w1 X (.int .i64 0) (.int .i64 0) (.string ⟨#[]⟩) (.slice none 0 0) (.slice none 0 0) (.slice none 0 0):=⟨by rw [hw1,hX];exact heapNew _ _⟩
 obtain⟨n1,hn1⟩:∃ n,n=w1.heap.size:=⟨_,rfl⟩
 have toB:∀ W,Below n1 w1 W->Below w1.heap.size w1 W:=fun W q=>by rw [<- hn1];exact q
 have HZ:Hid (∀ W,Below n1 w1 W->Six W X (.int .i64 0) (.int .i64 0) (.string ⟨#[]⟩) (.slice none 0 0) (.slice none 0 0) (.slice none 0 0)):=fun W q=>m2.blw (toB W q)
 have HE:Hid (∀ W,Below n1 w1 W->DEnv W fV cV xw xo):=fun W q=>(hE.blw b1).blw (toB W q)
 have HRf:Hid (∀ W,Below n1 w1 W->RowC o.fn fV W):=fun W q=>(hF.blw b1).blw (toB W q)
 have HRc:Hid (∀ W,Below n1 w1 W->RowC o.fc cV W):=fun W q=>(hC.blw b1).blw (toB W q)
 have H6:Hid (∀ W,Below n1 w1 W->Cs6 W g off t ra rc ka kc sa sc):=fun W q=>(h6.blw b1).blw (toB W q)
 have HT:Hid (∀ W,Below n1 w1 W->TmTop Tt W t ra rc ka kc sa sc):=fun W q=>(ht.blw b1).blw (toB W q)
 have HB1:Hid (∀ W,Below n1 w1 W->Below w.heap.size w W):=fun W q=>bchain b1 (toB W q)
 have HI:Hid (I64 t.kind/\I64 t.n):=⟨ht.ik,ht.inn⟩
 have HOw:Hid (∀ W,Below n1 w1 W->Calls Tryz.prog 111 #[.agg #[fV,cV],.pointer (some ⟨g,off,none⟩),.int .i64 (bd:Int)] W fun e w'=>LOut (ownP o t.kind t.r bd).2 (fun v'=>OwnsC w' W.heap.size v' (ownP o t.kind t.r bd).1) e/\Below W.heap.size W w'):=fun W q =>
  down_any t bd g off ra rc W (HRf.out W q) (HRc.out W q) (H6.out W q).lt (H6.out W q).c0 (H6.out W q).c3 (HT.out W q).row (by omega) (by omega)
 obtain⟨L,hL⟩:∃ L,L=t.kids.length:=⟨_,rfl⟩
 obtain⟨M,hM⟩:∃ M,M=t.sys.length:=⟨_,rfl⟩
 have HL:Hid (L=t.kids.length/\M=t.sys.length):=⟨hL,hM⟩
 have hLb:L<=40000:=by omega
 have hMb:M<=40000:=by omega
 obtain⟨T,hT⟩:∃ T,T=dT o t bd:=⟨_,rfl⟩
 have hTe:T=_:=hT.trans (d_eq o t bd)
 have HTk:Hid (T.kind=t.kind/\T.n=t.n/\T.name=t.name):=by rw [hTe];exact⟨rfl,rfl,rfl⟩
 have HTr:Hid (T.r=(ownP o t.kind t.r bd).1):=(by rw [hTe]:_=_)
 have HTl:Hid (T.kids.length=L):=(by rw [hTe];exact (dK_len _ _ _ _).trans hL.symm:_=_)
 have HTg:Hid (∀ k x,t.kids[k]? = some x->T.kids[k]? = some (dT o x (bd+bdK t.kind k))):=fun k x h=>by rw [hTe];exact dK_get h
 have HTs:Hid (T.sys=dS o t.kind t.sys bd):=(by rw [hTe]:_=_)
 rw [<- hT]
 rw [<- HTr.out] at HOw
 obtain⟨re,hre⟩:∃ e,e=(ownP o t.kind t.r bd).2:=⟨_,rfl⟩
 have Hre:Hid (re=(ownP o t.kind t.r bd).2):=hre
 rw [<- hre] at HOw
 obtain⟨R,hR⟩:∃ R,R=T.r.length:=⟨_,rfl⟩
 have HR:Hid (R=T.r.length):=hR
 obtain⟨kd,hkd⟩:∃ k,k=t.kind:=⟨_,rfl⟩
 have Hkd:Hid (kd=t.kind):=hkd
 obtain⟨tn,htn⟩:∃ k,k=t.n:=⟨_,rfl⟩
 have Htn:Hid (tn=t.n):=htn
 obtain⟨tm,htm⟩:∃ k,k=t.name:=⟨_,rfl⟩
 have Htm:Hid (tm=t.name):=htm
 have HXs:Hid (X=w.heap.size):=hX
 have Hn1:Hid (n1=w1.heap.size/\n1=X+1):=⟨hn1,by omega⟩
 have HW:Hid (_=_):=hw1
 have HIH:Hid (DvC o N):=IH
 have HbT:Hid (blk t<=N+1/\bd+blk t<=60000/\blk t<=40000):=⟨hN,hbd,hb4⟩
 have eg:=dv_eg
 have hbd6:bd<=60000:=by omega
 rw [<- hX]
 clear hw1 m2 b1 s1 hX hn1 toB hE hF hC h6 ht hL hM hT hTe hre hR hkd htn htm IH hl1 hl2 hl3 hl4 hN hbd hb4
 go_enter Tryz.func110,Tryz.ntmps110
 go_upto_region 1 with fail
 rw [<- HW.out]
 simp only [<- HXs.out]
 clear HW
 have hS1:Below n1 w1 w1:=Below.refl _ _
 go_cut [7] (fun sl wx=>∃ o a c,sl=.pointer (some ⟨o,0,none⟩)/\Six wx o (.int .i64 kd) (.int .i64 tn) (.string tm) (.slice a R c) (.slice none 0 0) (.slice none 0 0)/\Half n1 o T.r [] wx (.slice a R c) (.slice none 0 0)/\Below n1 w1 wx/\Hid (re=0))
 case first=>as_aux_lemma =>
  refine wp_region_held_drew (S:=fun W=>Below n1 w1 W) (by kernel_rfl) (hS1.drew) (fun hS=>?_)
  obtain⟨wd,hwd⟩:∃ W,W=w1.drew:=⟨_,rfl⟩
  rw [<- hwd] at hS ⊢
  have sd:Hid (wd.heap.size=n1):=(by rw [hwd];exact Hn1.out.1.symm:wd.heap.size=n1)
  clear hwd
  refine zk 0 (.pointer (some ⟨g,off,none⟩)) rfl (by rfl) (fun w hS=>by go_simp) hS ?_
  try simp only [Act.put,zg1,zg2,zg3,zs1,zs2,zs3]
  refine zk 1 (.pointer (some ⟨g,off,none⟩)) rfl (by rfl) (fun w hS=>by go_simp) hS ?_
  try simp only [Act.put,zg1,zg2,zg3,zs1,zs2,zs3]
  refine zk 2 (.pointer (some ⟨g,off,none⟩)) rfl (by rfl) (fun w hS=>by go_simp) hS ?_
  try simp only [Act.put,zg1,zg2,zg3,zs1,zs2,zs3]
  refine zk 3 (.int .i64 kd) rfl (by rfl) (fun w hS=>by have e:=(H6.out w hS).c0;rw [<- Hkd.out] at e;go_simp) hS ?_
  try simp only [Act.put,zg1,zg2,zg3,zs1,zs2,zs3]
  refine zk 4 (.pointer (some ⟨g,off,none⟩)) rfl (by rfl) (fun w hS=>by go_simp) hS ?_
  try simp only [Act.put,zg1,zg2,zg3,zs1,zs2,zs3]
  refine zk 5 (.pointer (some ⟨g,off,none⟩)) rfl (by rfl) (fun w hS=>by go_simp) hS ?_
  try simp only [Act.put,zg1,zg2,zg3,zs1,zs2,zs3]
  refine zk 6 (.pointer (some ⟨g,off+1,none⟩)) rfl (by rfl) (fun w hS=>by go_simp) hS ?_
  try simp only [Act.put,zg1,zg2,zg3,zs1,zs2,zs3]
  refine zk 7 (.int .i64 tn) rfl (by rfl) (fun w hS=>by have e:=(H6.out w hS).c1;rw [<- Htn.out] at e;go_simp) hS ?_
  try simp only [Act.put,zg1,zg2,zg3,zs1,zs2,zs3]
  refine zk 8 (.pointer (some ⟨g,off,none⟩)) rfl (by rfl) (fun w hS=>by go_simp) hS ?_
  try simp only [Act.put,zg1,zg2,zg3,zs1,zs2,zs3]
  refine zk 9 (.pointer (some ⟨g,off,none⟩)) rfl (by rfl) (fun w hS=>by go_simp) hS ?_
  try simp only [Act.put,zg1,zg2,zg3,zs1,zs2,zs3]
  refine zk 10 (.pointer (some ⟨g,off+2,none⟩)) rfl (by rfl) (fun w hS=>by go_simp) hS ?_
  try simp only [Act.put,zg1,zg2,zg3,zs1,zs2,zs3]
  refine zk 11 (.string tm) rfl (by rfl) (fun w hS=>by have e:=(H6.out w hS).c2;rw [<- Htm.out] at e;go_simp) hS ?_
  try simp only [Act.put,zg1,zg2,zg3,zs1,zs2,zs3]
  refine zk 12 (.agg #[fV,cV]) rfl (by rfl) (fun w hS=>by obtain⟨q0,q1⟩:=(HE.out w hS).cs;go_simp) hS ?_
  try simp only [Act.put,zg1,zg2,zg3,zs1,zs2,zs3]
  refine zk 13 (.pointer (some ⟨g,off,none⟩)) rfl (by rfl) (fun w hS=>by go_simp) hS ?_
  try simp only [Act.put,zg1,zg2,zg3,zs1,zs2,zs3]
  refine zk 14 (.int .i64 (bd:Int)) rfl (by rfl) (fun w hS=>by go_simp) hS ?_
  try simp only [Act.put,zg1,zg2,zg3,zs1,zs2,zs3]
  refine wpAnyH_ready (rs:=[15,17]) (by kernel_rfl) (by simp) ?_
  refine ready_cons rfl (fun KK hKK=>?_) (ready_cons rfl (fun KK hKK=>?_) AllReadyH.nil)
  ·skip
   refine⟨?_⟩
   have cR:=HOw.out wd hS
   go_simp
   refine cR.mono ?_
   rintro e w2 ⟨⟨hR0,v9,rfl,hO⟩ | ⟨hne,rfl⟩,hb9⟩
   rotate_left
   ·have hSw2:Below n1 w1 w2:=hS.trans (hb9.mono (by have:=sd.out;omega))
    exact⟨rfl,.inr ⟨by rw [e_row (by rw [<- Hre.out];exact hne),<- Hre.out];exact hne,by rw [e_row (by rw [<- Hre.out];exact hne),<- Hre.out]⟩,by rw [HXs.out];exact HB1.out _ hSw2⟩
   have hSw2:Below n1 w1 w2:=hS.trans (hb9.mono (by have:=sd.out;omega))
   have hge:=(World.ownsRow.lt hO)
   have gw2:Hid (wd.heap.size<=w2.heap.size):=hb9.size
   have bw2:=hb9
   obtain⟨ra3,rc3,rfl⟩:=OwnsC.len hO
   rw [<- HR.out] at hO hge ⊢
   have hO1:=OwnsC.mono hO (show n1<=wd.heap.size from by have:=sd.out;have:=gw2.out;omega)
   clear cR hb9
   refine hKK.out _ _ hSw2 (fun hS=>?_)
   clear hKK KK
   try simp only [Act.put,zg1,zg2,zg3,zs1,zs2,zs3]
   refine zk 16 (.agg #[.int .i64 kd,.int .i64 tn,.string tm,.slice ra3 R rc3,.slice none 0 0,.slice none 0 0]) rfl (by rfl) (fun w hS=>by go_simp) hS ?_
   try simp only [Act.put,zg1,zg2,zg3,zs1,zs2,zs3]
   refine zr 17 rfl (fun KK hKK=>?_)
   have hne:=own_ne hO1
   obtain⟨w3,hw3⟩:∃ W,W=w2.alloc (.cells #[.int .i64 0,.int .i64 0,.string ⟨#[]⟩,.slice none 0 0,.slice none 0 0,.slice none 0 0] 26):=⟨_,rfl⟩
   have bw3:Below w2.heap.size w2 w3:=by rw [hw3];exact belowA _ _
   have sw3:Hid (w3.heap.size=w2.heap.size+1):=(by rw [hw3];simp:w3.heap.size=w2.heap.size+1)
   have hZ:Six w3 w2.heap.size (.int .i64 0) (.int .i64 0) (.string ⟨#[]⟩) (.slice none 0 0) (.slice none 0 0) (.slice none 0 0):=⟨by rw [hw3];exact heapNew _ _⟩
   have hSw3:Below n1 w1 w3:=hS.trans (bw3.mono (by have:=sd.out;have:=gw2.out;omega))
   have Hw3:Hid (_=_):=hw3
   clear hw3
   refine⟨?_⟩
   go_simp
   rw [<- Hw3.out]
   refine hKK.out _ _ hSw3 (fun hS=>?_)
   clear hKK KK
   try simp only [Act.put,zg1,zg2,zg3,zs1,zs2,zs3]
   have hO1:=oc_blw2 hO1 bw3
   refine zr 18 rfl (fun KK hKK=>?_)
   obtain⟨w4,hw4,hZ2,kst,z0,z1,z2,z3,z4,z5,f0,f1,f2,f3,f4,f5⟩:=zst hZ (.int .i64 kd) (.int .i64 tn) (.string tm) (.slice ra3 R rc3) (.slice none 0 0) (.slice none 0 0)
   have hSw4:Below n1 w1 w4:=hS.trans (kst.below (fun q hq=>by have:=sd.out;have:=gw2.out;have:=sw3.out;omega) (by have:=sd.out;have:=gw2.out;have:=sw3.out;omega))
   have Hw4:Hid (_=_):=hw4
   have HFn:Hid (Half n1 (w2.heap.size) T.r [] w4 (.slice ra3 R rc3) (.slice none 0 0)):=half_start hO1 (hne) (by have:=sd.out;have:=gw2.out;have:=sw3.out;omega) kst
   clear hw4
   refine⟨?_⟩
   go_simp
   rw [<- Hw4.out]
   refine hKK.out _ _ hSw4 (fun hS=>?_)
   clear hKK KK
   try simp only [Act.put,zg1,zg2,zg3,zs1,zs2,zs3]
   refine wpAnyH_done (by kernel_rfl) ?_ _
   go_wp2_with fail
   go_meet
   exact⟨_,_,_,rfl,hZ2,HFn.out,hS,hR0⟩
  ·skip
   obtain⟨w2,hw2⟩:∃ W,W=wd.alloc (.cells #[.int .i64 0,.int .i64 0,.string ⟨#[]⟩,.slice none 0 0,.slice none 0 0,.slice none 0 0] 26):=⟨_,rfl⟩
   have bw2:Below wd.heap.size wd w2:=by rw [hw2];exact belowA _ _
   have sw2:Hid (w2.heap.size=wd.heap.size+1):=(by rw [hw2];simp:w2.heap.size=wd.heap.size+1)
   have hZ:Six w2 wd.heap.size (.int .i64 0) (.int .i64 0) (.string ⟨#[]⟩) (.slice none 0 0) (.slice none 0 0) (.slice none 0 0):=⟨by rw [hw2];exact heapNew _ _⟩
   have hSw2:Below n1 w1 w2:=hS.trans (bw2.mono (by have:=sd.out;omega))
   have Hw2:Hid (_=_):=hw2
   clear hw2
   refine⟨?_⟩
   go_simp
   rw [<- Hw2.out]
   refine hKK.out _ _ hSw2 (fun hS=>?_)
   clear hKK KK
   try simp only [Act.put,zg1,zg2,zg3,zs1,zs2,zs3]
   refine zr 15 rfl (fun KK hKK=>?_)
   refine⟨?_⟩
   have cR:=HOw.out w2 hS
   go_simp
   refine cR.mono ?_
   rintro e w3 ⟨⟨hR0,v9,rfl,hO⟩ | ⟨hne,rfl⟩,hb9⟩
   rotate_left
   ·have hSw3:Below n1 w1 w3:=hS.trans (hb9.mono (by have:=sd.out;have:=sw2.out;omega))
    exact⟨rfl,.inr ⟨by rw [e_row (by rw [<- Hre.out];exact hne),<- Hre.out];exact hne,by rw [e_row (by rw [<- Hre.out];exact hne),<- Hre.out]⟩,by rw [HXs.out];exact HB1.out _ hSw3⟩
   have hSw3:Below n1 w1 w3:=hS.trans (hb9.mono (by have:=sd.out;have:=sw2.out;omega))
   have hge:=(World.ownsRow.lt hO)
   have gw3:Hid (w2.heap.size<=w3.heap.size):=hb9.size
   have bw3:=hb9
   obtain⟨ra3,rc3,rfl⟩:=OwnsC.len hO
   rw [<- HR.out] at hO hge ⊢
   have hO1:=OwnsC.mono hO (show n1<=w2.heap.size from by have:=sd.out;have:=sw2.out;have:=gw3.out;omega)
   clear cR hb9
   refine hKK.out _ _ hSw3 (fun hS=>?_)
   clear hKK KK
   try simp only [Act.put,zg1,zg2,zg3,zs1,zs2,zs3]
   refine zk 16 (.agg #[.int .i64 kd,.int .i64 tn,.string tm,.slice ra3 R rc3,.slice none 0 0,.slice none 0 0]) rfl (by rfl) (fun w hS=>by go_simp) hS ?_
   try simp only [Act.put,zg1,zg2,zg3,zs1,zs2,zs3]
   have hZ:=hZ.blw bw3
   refine zr 18 rfl (fun KK hKK=>?_)
   obtain⟨w4,hw4,hZ2,kst,z0,z1,z2,z3,z4,z5,f0,f1,f2,f3,f4,f5⟩:=zst hZ (.int .i64 kd) (.int .i64 tn) (.string tm) (.slice ra3 R rc3) (.slice none 0 0) (.slice none 0 0)
   have hSw4:Below n1 w1 w4:=hS.trans (kst.below (fun q hq=>by have:=sd.out;have:=sw2.out;have:=gw3.out;omega) (by have:=sd.out;have:=sw2.out;have:=gw3.out;omega))
   have Hw4:Hid (_=_):=hw4
   have HFn:Hid (Half n1 (wd.heap.size) T.r [] w4 (.slice ra3 R rc3) (.slice none 0 0)):=half_start hO1 (fun e=>by have:=(hge _ e).1;have:=sw2.out;omega) (by have:=sd.out;have:=sw2.out;have:=gw3.out;omega) kst
   clear hw4
   refine⟨?_⟩
   go_simp
   rw [<- Hw4.out]
   refine hKK.out _ _ hSw4 (fun hS=>?_)
   clear hKK KK
   try simp only [Act.put,zg1,zg2,zg3,zs1,zs2,zs3]
   refine wpAnyH_done (by kernel_rfl) ?_ _
   go_wp2_with fail
   go_meet
   exact⟨_,_,_,rfl,hZ2,HFn.out,hS,hR0⟩
 case rest =>
 obtain⟨ob,ra0,rc0,rfl,hO0,hH0,hS0,HR0⟩:=hcut
 clear hS1 HOw
 have hno:n1<=ob:=hH0.ge
 have x4:=(H6.out wc hS0).c4
 rw [<- HL.out.1] at x4
 go_wp2_with fail
 clear x4
 go_loopw [39] (fun i wr=>∃ (k:Nat) (a:Option Addr) (c:Nat),k<=L/\i=.int .i64 k/\Six wr ob (.int .i64 kd) (.int .i64 tn) (.string tm) (.slice ra0 R rc0) (.slice a k c) (.slice none 0 0)/\Half n1 ob T.r (T.kids.take k) wr (.slice ra0 R rc0) (.slice a k c)/\Below n1 w1 wr/\Hid (firstE ((eK o t.kind t.kids bd).take k)=0)) (fun i _=>L - (intOf i).toNat)
 case atStart=>exact⟨0,none,0,Nat.zero_le _,rfl,hO0,hH0,hS0,firstE_nil⟩
 case round =>
  obtain⟨wo,hwo⟩:∃ wo,wo=wr:=⟨_,rfl⟩
  subst hwo
  clear hO0 hH0 hS0
  obtain⟨k,ka0,kc0,hk,rfl,hO,hH,hSo,HZk⟩:=hrel
  have hso:n1<=wo.heap.size:=by rw [Hn1.out.1];exact hSo.size
  have holt:=hO.lt
  by_cases hlt:k<L
  ·have hkI:(k:Int) < (L:Int):=by omega
   obtain⟨y,hy⟩:=someL (l:=t.kids) (k:=k) (by rw [<- HL.out.1];exact hlt)
   have hz:=HTg.out k y hy
   have hby:blk y<blk t:=blk_kid (List.mem_of_getElem? hy)
   have hd1:=bdK_le t.kind k
   have cB:=bindsC_any kd (k:Int) wo
   have HBk:Hid (∀ e,e=eT o y (bd+bdK t.kind k)->e≠0->eT o t bd=e):=fun e he hne=>by rw [he];exact e_kid (by rw [<- Hre.out];exact HR0.out) hy HZk.out (by rw [<- he];exact hne)
   have HZs:Hid (eT o y (bd+bdK t.kind k)=0->firstE ((eK o t.kind t.kids bd).take (k+1))=0):=fun h=>by rw [firstE_step (eK_get hy),if_pos HZk.out];exact h
   rw [Hkd.out,bvI_nat,bdI_nat,<- Hkd.out] at cB
   rw [<- Hkd.out] at hd1 hz HBk HZs
   obtain⟨D,hD⟩:∃ D,D=bdK kd k:=⟨_,rfl⟩
   rw [<- hD] at hd1 cB hz HBk HZs
   obtain⟨z,hzz⟩:∃ z,z=dT o y (bd+D):=⟨_,rfl⟩
   obtain⟨ez,hez⟩:∃ z,z=eT o y (bd+D):=⟨_,rfl⟩
   obtain⟨g1,off1,ra1,rc1,ka1,kc1,sa1,sc1,hka,_,h61,hty⟩:=(HT.out w1 (Below.refl _ _)).kids.at hy
   cases hka
   have hQ:∀ W,Below n1 w1 W->Cs6 W g1 (off1+k*6) y ra1 rc1 ka1 kc1 sa1 sc1:=fun W q=>h61.keep q.size (q.block g1 (by rw [Hn1.out.1];exact h61.lt))
   obtain⟨wd,hwd⟩:∃ W,W=wo.drew:=⟨_,rfl⟩
   have hbd:Below wo.heap.size wo wd:=by rw [hwd];exact (Below.refl _ _).drew
   have ssd:wd.heap.size=wo.heap.size:=by rw [hwd];rfl
   have hSd:Below n1 w1 wd:=by rw [hwd];exact hSo.drew
   have hbt:=HbT.out
   have cc:=HIH.out y (bd+D) g1 (off1+k*6) xw xo fV cV ra1 rc1 ka1 kc1 sa1 sc1 wd (HE.out wd hSd) (HRf.out wd hSd) (HRc.out wd hSd) (hQ wd hSd) (hty.blw (by rw [<- Hn1.out.1];exact hSd)) (by omega) (by omega) (by omega)
   have l0:wd.cell? ⟨ob,4,none⟩=some (.slice ka0 k kc0):=by rw [hwd];exact hO.cells.2.2.2.2.1
   rw [ssd,<- hzz,<- hez] at cc
   rw [<- hzz] at hz
   rw [<- hez] at HBk HZs
   have Hwd:Hid (_=_):=hwd
   have wr2:IntKind.i64.wrap ((bd:Int) + (D:Int))=(bd:Int) + (D:Int):=by simp [IntKind.wrap,IntKind.bits,IntKind.signed];omega
   have x0:=(H6.out wo hSo).c0
   rw [<- Hkd.out] at x0
   clear hty h61 hQ hbt hD hzz hez
   go_wp2_with fail
   refine cB.mono ?_
   rintro e w9 ⟨rfl,hw9⟩
   replace hw9:=hw9.symm
   subst hw9
   clear cB x0
   go_upto_region 6 with fail
   refine wp_region_held_drew (S:=fun W=>Below n1 w1 W) (by kernel_rfl) (by rw [<- Hwd.out];exact hSd) (fun hS=>?_)
   rw [<- Hwd.out] at hS ⊢
   clear hwd
   refine zk 0 (.pointer (some ⟨ob,4,none⟩)) rfl (by rfl) (fun w hS=>by go_simp) hS ?_
   try simp only [Act.put,zg1,zg2,zg3,zs1,zs2,zs3]
   refine zk 2 (.func (.func 110) #[] #[.pointer (some ⟨xw,0,none⟩),.pointer (some ⟨xo,0,none⟩)]) rfl (by rfl) (fun w hS=>by have e:=(HE.out w hS).fn;go_simp) hS ?_
   try simp only [Act.put,zg1,zg2,zg3,zs1,zs2,zs3]
   refine zk 3 (.pointer (some ⟨g,off,none⟩)) rfl (by rfl) (fun w hS=>by go_simp) hS ?_
   try simp only [Act.put,zg1,zg2,zg3,zs1,zs2,zs3]
   refine zk 4 (.pointer (some ⟨g,off,none⟩)) rfl (by rfl) (fun w hS=>by go_simp) hS ?_
   try simp only [Act.put,zg1,zg2,zg3,zs1,zs2,zs3]
   refine zk 5 (.pointer (some ⟨g,off+4,none⟩)) rfl (by rfl) (fun w hS=>by go_simp) hS ?_
   try simp only [Act.put,zg1,zg2,zg3,zs1,zs2,zs3]
   refine zk 6 (.slice (some ⟨g1,off1,none⟩) L kc) rfl (by rfl) (fun w hS=>by have e:=(H6.out w hS).c4;rw [<- HL.out.1] at e;go_simp) hS ?_
   try simp only [Act.put,zg1,zg2,zg3,zs1,zs2,zs3]
   refine zk 7 (.int .i64 k) rfl (by rfl) (fun w hS=>by go_simp) hS ?_
   try simp only [Act.put,zg1,zg2,zg3,zs1,zs2,zs3]
   refine zk 8 (.pointer (some ⟨g1,off1+k*6,none⟩)) rfl (by rfl) (fun w hS=>by go_simp) hS ?_
   try simp only [Act.put,zg1,zg2,zg3,zs1,zs2,zs3]
   refine zk 9 (.int .i64 (bd:Int)) rfl (by rfl) (fun w hS=>by go_simp) hS ?_
   try simp only [Act.put,zg1,zg2,zg3,zs1,zs2,zs3]
   refine zk 10 (.int .i64 (D:Int)) rfl (by rfl) (fun w hS=>by go_simp) hS ?_
   try simp only [Act.put,zg1,zg2,zg3,zs1,zs2,zs3]
   refine zk 11 (.int .i64 ((bd+D:Nat):Int)) rfl (by rfl) (fun w hS=>by have e2:=wr2;go_simp) hS ?_
   try simp only [Act.put,zg1,zg2,zg3,zs1,zs2,zs3]
   refine wpAnyH_ready (rs:=[1,12]) (by kernel_rfl) (by simp) ?_
   refine ready_cons rfl (fun KK hKK=>?_) (ready_cons rfl (fun KK hKK=>?_) AllReadyH.nil)
   ·skip
    refine⟨?_⟩
    have ex:=l0
    go_simp
    refine hKK.out _ _ hS (fun hS=>?_)
    clear hKK KK
    try simp only [Act.put,zg1,zg2,zg3,zs1,zs2,zs3]
    clear ex
    refine zr 12 rfl (fun KK hKK=>?_)
    refine⟨?_⟩
    go_simp
    refine cc.mono ?_
    rintro e w2 ⟨⟨he0,v2,rfl,hv2⟩ | ⟨hne,rfl⟩,hb2⟩
    rotate_left
    ·exact⟨rfl,.inr ⟨by rw [HBk.out ez rfl hne];exact hne,by rw [HBk.out ez rfl hne]⟩,by rw [HXs.out];exact HB1.out _ (hSo.trans ((hbd.trans hb2).mono hso))⟩
    clear cc
    have hb2:Below wo.heap.size wo w2:=hbd.trans hb2
    obtain⟨ra2,rc2,ka2,kc2,sa2,sc2,rfl,ht2⟩:=hv2.form
    have hnx:=hH.next (u:=(.int .i64 z.kind,.int .i64 z.n,.string z.name,.slice ra2 z.r.length rc2,.slice ka2 z.kids.length kc2,.slice sa2 z.sys.length sc2)) 23 hso holt hb2 ht2.value (by rw [List.length_take];omega)
    obtain⟨w3,hw3⟩:∃ W,W=w2.alloc (.cells #[.int .i64 z.kind,.int .i64 z.n,.string z.name,.slice ra2 z.r.length rc2,.slice ka2 z.kids.length kc2,.slice sa2 z.sys.length sc2] 26):=⟨_,rfl⟩
    dsimp only at hnx
    rw [<- hw3] at hnx
    obtain⟨vk4,w4,hrun,hH4,hB4,ho4⟩:=hnx
    rw [show T.kids.take k ++ [z]=T.kids.take (k+1) by rw [List.take_add_one,hz];rfl] at hH4
    obtain⟨ka4,kc4,hvk4⟩:=hH4.kids.len
    rw [show (T.kids.take (k+1)).length=k+1 by rw [List.length_take];have:=some_lt hz;omega] at hvk4
    subst hvk4
    have b3:Below w2.heap.size w2 w3:=by rw [hw3];exact belowA _ _
    have hO4:Six w4 ob (.int .i64 kd) (.int .i64 tn) (.string tm) (.slice ra0 R rc0) (.slice ka0 k kc0) (.slice none 0 0):=⟨ho4.trans hO.blk⟩
    obtain⟨w5,hw5⟩:∃ W,W=w4.setCell ⟨ob,4,none⟩ (.slice ka4 (k+1) kc4):=⟨_,rfl⟩
    have k5:Kn (fun q=>q≠ob) w4 w5:=by rw [hw5];exact kn_set _ _ _ _
    have hO5:Six w5 ob (.int .i64 kd) (.int .i64 tn) (.string tm) (.slice ra0 R rc0) (.slice ka4 (k+1) kc4) (.slice none 0 0):=by rw [hw5];exact hO4.set4 _
    have hH5:=hH4.set k5
    have hB5:Below n1 wo w5:=hB4.trans (k5.below (fun q hq=>by omega) (by have:=hB4.size;omega))
    have hS2:Below n1 w1 w2:=hSo.trans (hb2.mono hso)
    have hS3:Below n1 w1 w3:=hS2.trans (b3.mono (by have:=hb2.size;omega))
    have hS4:Below n1 w1 w4:=hSo.trans (hB4.mono (Nat.le_refl _))
    have hS5:Below n1 w1 w5:=hSo.trans (hB5.mono (Nat.le_refl _))
    have l2:Six w2 ob (.int .i64 kd) (.int .i64 tn) (.string tm) (.slice ra0 R rc0) (.slice ka0 k kc0) (.slice none 0 0):=hO.blw hb2
    have l3:Six w3 ob (.int .i64 kd) (.int .i64 tn) (.string tm) (.slice ra0 R rc0) (.slice ka0 k kc0) (.slice none 0 0):=l2.blw b3
    have q2:=l2.cells.2.2.2.2.1
    have q3:=l3.cells.2.2.2.2.1
    have q4:=hO4.cells.2.2.2.2.1
    have f4:=hO4.cells.2.2.2.2.2.2 4
    have H3:Hid (_=_):=hw3
    have H5:Hid (_=_):=hw5
    have HZ1:Hid (firstE ((eK o t.kind t.kids bd).take (k+1))=0):=(by have:=HZs.out he0;rwa [Hkd.out] at this:_=_)
    clear hw3 hw5 hv2 ht2 l2 l3 hO4 hH4 hb2 b3 ho4 k5 he0
    refine hKK.out _ _ hS2 (fun hS=>?_)
    clear hKK KK
    try simp only [Act.put,zg1,zg2,zg3,zs1,zs2,zs3]
    refine zr 13 rfl (fun KK hKK=>?_)
    refine⟨?_⟩
    go_simp
    rw [<- H3.out]
    refine hKK.out _ _ hS3 (fun hS=>?_)
    clear hKK KK
    try simp only [Act.put,zg1,zg2,zg3,zs1,zs2,zs3]
    refine zr 14 rfl (fun KK hKK=>?_)
    refine⟨step_append rfl _ _ _ rfl _ _ _ _ rfl rfl hrun ?_⟩
    refine hKK.out _ _ hS4 (fun hS=>?_)
    clear hKK KK
    try simp only [Act.put,zg1,zg2,zg3,zs1,zs2,zs3]
    refine zk 15 (.pointer (some ⟨ob,4,none⟩)) rfl (by rfl) (fun w hS=>by go_simp) hS ?_
    try simp only [Act.put,zg1,zg2,zg3,zs1,zs2,zs3]
    refine zr 16 rfl (fun KK hKK=>?_)
    refine⟨?_⟩
    go_simp
    rw [<- H5.out]
    refine hKK.out _ _ hS5 (fun hS=>?_)
    clear hKK KK
    try simp only [Act.put,zg1,zg2,zg3,zs1,zs2,zs3]
    refine wpAnyH_done (by kernel_rfl) ?_ _
    go_wp2_with fail
    go_roundw
    case rel=>exact⟨k+1,_,_,by omega,by go_num,hO5,hH5,hS5,HZ1⟩
    case measure=>simp [intOf];omega
   ·skip
    refine⟨?_⟩
    go_simp
    refine cc.mono ?_
    rintro e w2 ⟨⟨he0,v2,rfl,hv2⟩ | ⟨hne,rfl⟩,hb2⟩
    rotate_left
    ·exact⟨rfl,.inr ⟨by rw [HBk.out ez rfl hne];exact hne,by rw [HBk.out ez rfl hne]⟩,by rw [HXs.out];exact HB1.out _ (hSo.trans ((hbd.trans hb2).mono hso))⟩
    clear cc
    have hb2:Below wo.heap.size wo w2:=hbd.trans hb2
    obtain⟨ra2,rc2,ka2,kc2,sa2,sc2,rfl,ht2⟩:=hv2.form
    have hnx:=hH.next (u:=(.int .i64 z.kind,.int .i64 z.n,.string z.name,.slice ra2 z.r.length rc2,.slice ka2 z.kids.length kc2,.slice sa2 z.sys.length sc2)) 23 hso holt hb2 ht2.value (by rw [List.length_take];omega)
    obtain⟨w3,hw3⟩:∃ W,W=w2.alloc (.cells #[.int .i64 z.kind,.int .i64 z.n,.string z.name,.slice ra2 z.r.length rc2,.slice ka2 z.kids.length kc2,.slice sa2 z.sys.length sc2] 26):=⟨_,rfl⟩
    dsimp only at hnx
    rw [<- hw3] at hnx
    obtain⟨vk4,w4,hrun,hH4,hB4,ho4⟩:=hnx
    rw [show T.kids.take k ++ [z]=T.kids.take (k+1) by rw [List.take_add_one,hz];rfl] at hH4
    obtain⟨ka4,kc4,hvk4⟩:=hH4.kids.len
    rw [show (T.kids.take (k+1)).length=k+1 by rw [List.length_take];have:=some_lt hz;omega] at hvk4
    subst hvk4
    have b3:Below w2.heap.size w2 w3:=by rw [hw3];exact belowA _ _
    have hO4:Six w4 ob (.int .i64 kd) (.int .i64 tn) (.string tm) (.slice ra0 R rc0) (.slice ka0 k kc0) (.slice none 0 0):=⟨ho4.trans hO.blk⟩
    obtain⟨w5,hw5⟩:∃ W,W=w4.setCell ⟨ob,4,none⟩ (.slice ka4 (k+1) kc4):=⟨_,rfl⟩
    have k5:Kn (fun q=>q≠ob) w4 w5:=by rw [hw5];exact kn_set _ _ _ _
    have hO5:Six w5 ob (.int .i64 kd) (.int .i64 tn) (.string tm) (.slice ra0 R rc0) (.slice ka4 (k+1) kc4) (.slice none 0 0):=by rw [hw5];exact hO4.set4 _
    have hH5:=hH4.set k5
    have hB5:Below n1 wo w5:=hB4.trans (k5.below (fun q hq=>by omega) (by have:=hB4.size;omega))
    have hS2:Below n1 w1 w2:=hSo.trans (hb2.mono hso)
    have hS3:Below n1 w1 w3:=hS2.trans (b3.mono (by have:=hb2.size;omega))
    have hS4:Below n1 w1 w4:=hSo.trans (hB4.mono (Nat.le_refl _))
    have hS5:Below n1 w1 w5:=hSo.trans (hB5.mono (Nat.le_refl _))
    have l2:Six w2 ob (.int .i64 kd) (.int .i64 tn) (.string tm) (.slice ra0 R rc0) (.slice ka0 k kc0) (.slice none 0 0):=hO.blw hb2
    have l3:Six w3 ob (.int .i64 kd) (.int .i64 tn) (.string tm) (.slice ra0 R rc0) (.slice ka0 k kc0) (.slice none 0 0):=l2.blw b3
    have q2:=l2.cells.2.2.2.2.1
    have q3:=l3.cells.2.2.2.2.1
    have q4:=hO4.cells.2.2.2.2.1
    have f4:=hO4.cells.2.2.2.2.2.2 4
    have H3:Hid (_=_):=hw3
    have H5:Hid (_=_):=hw5
    have HZ1:Hid (firstE ((eK o t.kind t.kids bd).take (k+1))=0):=(by have:=HZs.out he0;rwa [Hkd.out] at this:_=_)
    clear hw3 hw5 hv2 ht2 l2 l3 hO4 hH4 hb2 b3 ho4 k5 he0
    refine hKK.out _ _ hS2 (fun hS=>?_)
    clear hKK KK
    try simp only [Act.put,zg1,zg2,zg3,zs1,zs2,zs3]
    refine wpAnyH_ready (rs:=[1,13]) (by kernel_rfl) (by simp) ?_
    refine ready_cons rfl (fun KK hKK=>?_) (ready_cons rfl (fun KK hKK=>?_) AllReadyH.nil)
    ·skip
     refine⟨?_⟩
     have ex:=q2
     go_simp
     refine hKK.out _ _ hS (fun hS=>?_)
     clear hKK KK
     try simp only [Act.put,zg1,zg2,zg3,zs1,zs2,zs3]
     clear ex
     refine zr 13 rfl (fun KK hKK=>?_)
     refine⟨?_⟩
     go_simp
     rw [<- H3.out]
     refine hKK.out _ _ hS3 (fun hS=>?_)
     clear hKK KK
     try simp only [Act.put,zg1,zg2,zg3,zs1,zs2,zs3]
     refine zr 14 rfl (fun KK hKK=>?_)
     refine⟨step_append rfl _ _ _ rfl _ _ _ _ rfl rfl hrun ?_⟩
     refine hKK.out _ _ hS4 (fun hS=>?_)
     clear hKK KK
     try simp only [Act.put,zg1,zg2,zg3,zs1,zs2,zs3]
     refine zk 15 (.pointer (some ⟨ob,4,none⟩)) rfl (by rfl) (fun w hS=>by go_simp) hS ?_
     try simp only [Act.put,zg1,zg2,zg3,zs1,zs2,zs3]
     refine zr 16 rfl (fun KK hKK=>?_)
     refine⟨?_⟩
     go_simp
     rw [<- H5.out]
     refine hKK.out _ _ hS5 (fun hS=>?_)
     clear hKK KK
     try simp only [Act.put,zg1,zg2,zg3,zs1,zs2,zs3]
     refine wpAnyH_done (by kernel_rfl) ?_ _
     go_wp2_with fail
     go_roundw
     case rel=>exact⟨k+1,_,_,by omega,by go_num,hO5,hH5,hS5,HZ1⟩
     case measure=>simp [intOf];omega
    ·skip
     refine⟨?_⟩
     go_simp
     rw [<- H3.out]
     refine hKK.out _ _ hS3 (fun hS=>?_)
     clear hKK KK
     try simp only [Act.put,zg1,zg2,zg3,zs1,zs2,zs3]
     refine zr 1 rfl (fun KK hKK=>?_)
     refine⟨?_⟩
     have ex:=q3
     go_simp
     refine hKK.out _ _ hS (fun hS=>?_)
     clear hKK KK
     try simp only [Act.put,zg1,zg2,zg3,zs1,zs2,zs3]
     clear ex
     refine zr 14 rfl (fun KK hKK=>?_)
     refine⟨step_append rfl _ _ _ rfl _ _ _ _ rfl rfl hrun ?_⟩
     refine hKK.out _ _ hS4 (fun hS=>?_)
     clear hKK KK
     try simp only [Act.put,zg1,zg2,zg3,zs1,zs2,zs3]
     refine zk 15 (.pointer (some ⟨ob,4,none⟩)) rfl (by rfl) (fun w hS=>by go_simp) hS ?_
     try simp only [Act.put,zg1,zg2,zg3,zs1,zs2,zs3]
     refine zr 16 rfl (fun KK hKK=>?_)
     refine⟨?_⟩
     go_simp
     rw [<- H5.out]
     refine hKK.out _ _ hS5 (fun hS=>?_)
     clear hKK KK
     try simp only [Act.put,zg1,zg2,zg3,zs1,zs2,zs3]
     refine wpAnyH_done (by kernel_rfl) ?_ _
     go_wp2_with fail
     go_roundw
     case rel=>exact⟨k+1,_,_,by omega,by go_num,hO5,hH5,hS5,HZ1⟩
     case measure=>simp [intOf];omega
  ·have hkI:¬ (k:Int) < (L:Int):=by omega
   obtain rfl:k=L:=by omega
   have hW0:Whole n1 ob T 0 wo (.slice ra0 R rc0) (.slice ka0 k kc0) (.slice none 0 0):=by
    rw [List.take_of_length_le (by rw [HTl.out];exact Nat.le_refl _)] at hH
    exact hH.all
   have HK0:Hid (firstE (eK o t.kind t.kids bd)=0):=(by have:=HZk.out;rwa [List.take_of_length_le (by rw [eK_len,<- HL.out.1];exact Nat.le_refl _)] at this:firstE _=0)
   have hmo:=moreK_le t.kind
   obtain⟨mo,hmo1⟩:∃ m,m=moreK t.kind:=⟨_,rfl⟩
   have Hmo:Hid (mo=moreK t.kind):=hmo1
   have HM15:Hid (mo=if kd=15 then 1 else 0):=(by rw [hmo1,Hkd.out];rfl:_=_)
   rw [<- hmo1] at hmo
   have x0:=(H6.out wo hSo).c0
   have x5:=(H6.out wo hSo).c5
   rw [<- Hkd.out] at x0
   rw [<- HL.out.2] at x5
   clear hH hmo1 HZk
   go_upto_if 73 with fail
   go_cut [11] (fun s wx=>s=.int .i64 ((bd+mo:Nat):Int)/\wx=wo)
   case first=>as_aux_lemma =>
    by_cases h15:kd=15
    ·subst h15
     have hm:mo=1:=by rw [HM15.out];exact if_pos rfl
     subst hm
     have wr:wrap64 ((bd:Int) + 1)=((bd+1:Nat):Int):=by simp [wrap64];omega
     go_wp2_with fail
     go_meet
     exact⟨by simp,rfl⟩
    ·have h15b:(kd == 15)=false:=by simpa using h15
     have hm:mo=0:=by rw [HM15.out];exact if_neg h15
     subst hm
     go_wp2_with fail
     go_meet
     exact⟨rfl,rfl⟩
   case rest =>
   obtain⟨rfl,rfl⟩:=hcut
   go_wp2_with fail
   clear x0 x5
   go_loopw [81] (fun i wr=>∃ (j:Nat) (a:Option Addr) (c:Nat),j<=M/\i=.int .i64 j/\Six wr ob (.int .i64 kd) (.int .i64 tn) (.string tm) (.slice ra0 R rc0) (.slice ka0 k kc0) (.slice a (cN o t.sys bd j) c)/\Whole n1 ob T (cN o t.sys bd j) wr (.slice ra0 R rc0) (.slice ka0 k kc0) (.slice a (cN o t.sys bd j) c)/\Below n1 w1 wr/\Hid (firstE ((eS o t.kind t.sys bd).take j)=0)) (fun i _=>M - (intOf i).toNat)
   case atStart=>exact⟨0,none,0,Nat.zero_le _,rfl,hO,hW0,hSo,firstE_nil⟩
   case round =>
    obtain⟨wq,hwq⟩:∃ wq,wq=wr:=⟨_,rfl⟩
    subst hwq
    clear hkI hO hSo hW0 hlt hk hso holt
    obtain⟨i,sa0,sc0,hi,rfl,hOq,hWq,hSq,HZi⟩:=hrel
    have hsq:n1<=wq.heap.size:=by rw [Hn1.out.1];exact hSq.size
    have hoq:=hOq.lt
    by_cases hlt:i<M
    ·have hkI:(i:Int) < (M:Int):=by omega
     obtain⟨b,hb⟩:=someL (l:=t.sys) (k:=i) (by rw [<- HL.out.2];exact hlt)
     have hbr:=blk_br (List.mem_of_getElem? hb)
     have hbl:=blkL_len b.2
     have HBm:Hid (b∈t.sys):=List.mem_of_getElem? hb
     have HBi:Hid (t.sys[i]? = some b):=hb
     obtain⟨gs,offs,fa1,fc1,kb1,kbc1,hka,_,h21,hF1,hK1⟩:=(HT.out w1 (Below.refl _ _)).sys.at hb
     cases hka
     obtain⟨F,hF⟩:∃ F,F=b.1.length:=⟨_,rfl⟩
     obtain⟨K,hK⟩:∃ K,K=b.2.length:=⟨_,rfl⟩
     have HFK:Hid (F=b.1.length/\K=b.2.length):=⟨hF,hK⟩
     have hQ2:∀ W,Below n1 w1 W->W.cell? ⟨gs,offs+i*2,none⟩=some (.slice fa1 F fc1)/\W.cell? ⟨gs,offs+i*2+1,none⟩=some (.slice kb1 K kbc1):=fun W q=>by
      rw [hF,hK]
      have:=h21.keep q.size (q.block gs (by rw [Hn1.out.1];exact h21.lt))
      exact⟨this.c0,this.c1⟩
     have HKd:Hid (KdT Tt w1 (TmIn Tt w1) b.2 (.slice kb1 b.2.length kbc1)):=hK1
     have hbt:=HbT.out
     have hKb:K<=40000:=by omega
     obtain⟨n0,hn0⟩:∃ n,n=wq.heap.size:=⟨_,rfl⟩
     have Hn0:Hid (n0=wq.heap.size):=hn0
     obtain⟨wb,hwb⟩:∃ W,W=wq.alloc (.cells #[.slice fa1 F fc1,.slice kb1 K kbc1] 40):=⟨_,rfl⟩
     have bb:Below n0 wq wb:=by rw [hwb,hn0];exact belowA _ _
     have sb:wb.heap.size=n0+1:=by rw [hwb,hn0];simp
     have hnw:n1<=wb.heap.size:=by omega
     have tb:Two wb n0 (.slice fa1 F fc1) (.slice kb1 K kbc1):=⟨by rw [hwb,hn0];exact heapNew _ _⟩
     have hSb:Below n1 w1 wb:=hSq.trans (bb.mono (by omega))
     obtain⟨nb,hnb⟩:∃ n,n=wb.heap.size:=⟨_,rfl⟩
     have Hnb:Hid (nb=wb.heap.size):=hnb
     have hnb0:nb=n0+1:=by omega
     have HTb:Hid (∀ W,Below nb wb W->Two W n0 (.slice fa1 F fc1) (.slice kb1 K kbc1)):=fun W q=>tb.blw (by rw [<- hnb];exact q)
     have cF:∃ f2 c2,cV=.func (.func f2) #[] c2/\(∀ args w,(callFunc f2 args).run Tryz.prog w=.ok (.enter f2 args) w)/\Calls Tryz.prog f2 (#[.slice fa1 F fc1,.int .i64 (bd:Int)] ++ c2) wb fun e w'=>LOut (o.fc b.1 bd).2 (fun v'=>OwnsC w' wb.heap.size v' (o.fc b.1 bd).1) e/\Below wb.heap.size wb w':=by
      obtain⟨f2,c2,e2,eg2,hc2⟩:=HRc.out wb hSb
      exact⟨f2,c2,e2,eg2,hc2 b.1 bd _ wb (Below.refl _ _) (by rw [hF];exact hF1.blw (w':=wb) (by rw [<- Hn1.out.1];exact hSb)) (by omega) (by omega)⟩
     obtain⟨f2,c2,e2,eg2,cF⟩:=cF
     have xe:=(HE.out wb hSb).cs.2
     obtain⟨c0,c1⟩:=hQ2 wq hSq
     obtain⟨t0,t1,tf⟩:=tb.cells
     rw [e2] at xe
     have HQ2:Hid (_):=hQ2
     have Hwb:Hid (_=_):=hwb
     have HBf:Hid (∀ e,e=(o.fc b.1 bd).2->e≠0->eT o t bd=e):=fun e he hne=>by
      have h1:=b_face (o:=o) (k:=t.kind) (b:=b) (bd:=bd) (by rw [<- he];exact hne)
      rw [e_br (by rw [<- Hre.out];exact HR0.out) HK0.out hb HZi.out (by rw [h1,<- he];exact hne),h1,he]
     obtain⟨Pf,hPf⟩:∃ P,P=o.fc b.1 bd:=⟨_,rfl⟩
     have HPf:Hid (Pf=o.fc b.1 bd):=hPf
     rw [<- hPf] at cF HBf
     obtain⟨G,ge⟩:=Pf
     dsimp only at cF HBf
     clear h21 hF1 hK1 hF hK hn0 hbl hb hwb hQ2 hPf tb hnb
     go_upto_region 14 with fail
     rw [<- Hwb.out]
     simp only [<- Hn0.out]
     clear c0 c1
     go_wp2_with fail
     refine cF.mono ?_
     rintro e w4 ⟨⟨hG0,v4,rfl,hO4⟩ | ⟨hne,rfl⟩,hb4⟩
     rotate_left
     ·exact⟨rfl,.inr ⟨by rw [HBf.out ge rfl hne];exact hne,by rw [HBf.out ge rfl hne]⟩,by rw [HXs.out];exact HB1.out _ (hSb.trans (hb4.mono hnw))⟩
     clear cF xe t0 t1 tf
     obtain⟨fa4,fc4,rfl⟩:=OwnsC.len hO4
     obtain⟨F4,hF4⟩:∃ F,F=G.length:=⟨_,rfl⟩
     have HF4:Hid (F4=G.length):=hF4
     rw [<- hF4] at hO4 ⊢
     have hS4:Below n1 w1 w4:=hSb.trans (hb4.mono hnw)
     have hs4:=hb4.size
     have hStay:stayB o bd b.1 = !G.isEmpty:=by unfold stayB;rw [<- HPf.out]
     clear hF4
     by_cases hz:F4=0
     ·subst hz
      obtain rfl:G=[]:=List.length_eq_zero_iff.1 HF4.out.symm
      have hst:stayB o bd b.1=false:=by rw [hStay];rfl
      have hcn:=cN_goes HBi.out hst
      have HZ1:Hid (firstE ((eS o t.kind t.sys bd).take (i+1))=0):=(by rw [firstE_step (eS_get HBi.out),if_pos HZi.out];exact b_gone (by rw [<- HPf.out];exact hG0) hst:_=_)
      have b14:Below wq.heap.size wq w4:=by rw [<- Hn0.out];exact bb.trans (hb4.mono (by omega))
      have hO5:=hOq.blw b14
      have hW5:=hWq.blw b14
      rw [<- hcn] at hO5 hW5
      go_wp2_with fail
      go_roundw
      case rel=>exact⟨i+1,_,_,by omega,by go_num,hO5,hW5,hS4,HZ1⟩
      case measure=>simp [intOf];omega
     ·have hz1:((F4:Int) == 0)=false:=by simp;omega
      have hst:stayB o bd b.1=true:=by
       rw [hStay]
       cases hg:G with
       | nil=>rw [hg] at HF4;exact absurd HF4.out hz
       | cons _ _=>rfl
      have HCn:Hid (cN o t.sys bd (i+1)=cN o t.sys bd i+1/\T.sys[cN o t.sys bd i]? = some (dB o t.kind b bd)):=⟨cN_stays HBi.out hst,by rw [HTs.out];exact dS_at HBi.out hst⟩
      have hcb:=cN_le o t.sys bd i
      obtain⟨cn,hcn⟩:∃ c,c=cN o t.sys bd i:=⟨_,rfl⟩
      rw [<- hcn] at hOq hWq HCn hcb
      have Hcn:Hid (cn=cN o t.sys bd i):=hcn
      have hDB:dB o t.kind b bd=(G,b.2.map fun x=>dT o x (bd+mo)):=by unfold dB;rw [<- HPf.out,<- Hmo.out]
      obtain⟨B,hB⟩:∃ B,B=dB o t.kind b bd:=⟨_,rfl⟩
      have HBk0:Hid (B.1=G/\B.2.length=K/\∀ (j:Nat) (x:Tm),b.2[j]? = some x->B.2[j]? = some (dT o x (bd+mo))):=by
       rw [hB,hDB];exact⟨rfl,by simp [HFK.out.2],fun j x h=>by rw [List.getElem?_map,h];rfl⟩
      rw [<- hB] at HCn
      have HEb:Hid (∀ (j:Nat) (x:Tm) (e:Int),b.2[j]? = some x->firstE ((eBk o t.kind b bd).take j)=0->e=eT o x (bd+mo)->e≠0->eT o t bd=e):=fun j x e hx h0 he hne=>by
       rw [Hmo.out] at he
       have h1:=b_kid (o:=o) (k:=t.kind) (by rw [<- HPf.out];exact hG0) hst hx h0 (by rw [<- he];exact hne)
       rw [e_br (by rw [<- Hre.out];exact HR0.out) HK0.out HBi.out HZi.out (by rw [h1,<- he];exact hne),h1,he]
      have HEs:Hid (∀ (j:Nat) (x:Tm),b.2[j]? = some x->firstE ((eBk o t.kind b bd).take j)=0->eT o x (bd+mo)=0->firstE ((eBk o t.kind b bd).take (j+1))=0):=fun j x hx h0 he=>by
       rw [firstE_step (l:=eBk o t.kind b bd) (a:=eT o x (bd+mo)) (by unfold eBk;rw [List.getElem?_map,hx,Hmo.out];rfl),if_pos h0];exact he
      have HEe:Hid (firstE ((eBk o t.kind b bd).take K)=0->firstE ((eS o t.kind t.sys bd).take (i+1))=0):=fun h=>by
       rw [List.take_of_length_le (by unfold eBk;rw [List.length_map,HFK.out.2];exact Nat.le_refl _)] at h
       rw [firstE_step (eS_get HBi.out),if_pos HZi.out];exact b_none (by rw [<- HPf.out];exact hG0) hst h
      obtain⟨p,hp⟩:∃ p,p=w4.heap.size:=⟨_,rfl⟩
      obtain⟨w6,hw6⟩:∃ W,W=w4.alloc (.cells #[.slice fa4 F4 fc4,.slice none 0 0] 40):=⟨_,rfl⟩
      have b6:Below w4.heap.size w4 w6:=by rw [hw6];exact belowA _ _
      have t6:Two w6 p (.slice fa4 F4 fc4) (.slice none 0 0):=⟨by rw [hw6,hp];exact heapNew _ _⟩
      have hne4:=own_ne hO4
      have hO4':OwnsC w4 nb (.slice fa4 F4 fc4) B.1:=by rw [HBk0.out.1,Hnb.out];exact hO4
      have hH6:Half nb p B.1 [] w6 (.slice fa4 F4 fc4) (.slice none 0 0):=half_start (oc_blw2 hO4' b6) (by rw [hp];exact hne4) (by omega) (Kn.refl _ _)
      have hBw6:Below nb wb w6:=by rw [Hnb.out];exact hb4.trans (b6.mono hs4)
      have hpn:nb<=p:=by rw [Hnb.out,hp];exact hs4
      have hn10:n1<=n0:=by rw [Hn0.out];exact hsq
      obtain⟨v0,v1,vf⟩:=(HTb.out w6 hBw6).cells
      obtain⟨y0,y1,yf⟩:=(HTb.out w4 (by rw [Hnb.out];exact hb4)).cells
      have H6':Hid (_=_):=hw6
      have Hp:Hid (p=w4.heap.size):=hp
      clear hw6 hp b6 hne4 hO4 hO4' hcn hB hDB hStay hS4
      go_upto_region 17 with fail
      rw [<- H6'.out]
      simp only [<- Hp.out]
      clear H6' Hp y0 y1 yf
      go_wp2_with fail
      clear v0 v1 vf
      go_loopw [99] (fun u wr=>∃ (j:Nat) (a:Option Addr) (c:Nat),j<=K/\u=.int .i64 j/\Two wr p (.slice fa4 F4 fc4) (.slice a j c)/\Half nb p B.1 (B.2.take j) wr (.slice fa4 F4 fc4) (.slice a j c)/\Below nb wb wr/\Hid (firstE ((eBk o t.kind b bd).take j)=0)) (fun u _=>K - (intOf u).toNat)
      case atStart=>exact⟨0,none,0,Nat.zero_le _,rfl,t6,hH6,hBw6,firstE_nil⟩
      case round =>
       obtain⟨wo,hwo⟩:∃ wo,wo=wr:=⟨_,rfl⟩
       subst hwo
       clear t6 hH6 hBw6
       obtain⟨j,ka9,kc9,hj,rfl,hO,hH,hSo,HZj⟩:=hrel
       have hso:nb<=wo.heap.size:=by rw [Hnb.out];exact hSo.size
       have hnb1:n1<=nb:=by omega
       have holt:=hO.lt
       by_cases hlt2:j<K
       ·have hjI:(j:Int) < (K:Int):=by omega
        obtain⟨y,hy⟩:=someL (l:=b.2) (k:=j) (by rw [<- HFK.out.2];exact hlt2)
        have hz:=HBk0.out.2.2 j y hy
        have hby:blk y<blk t:=blk_sub HBm.out (List.mem_of_getElem? hy)
        have HBk:Hid (∀ e,e=eT o y (bd+mo)->e≠0->eT o t bd=e):=fun e he hne=>HEb.out j y e hy HZj.out he hne
        have HZs:Hid (eT o y (bd+mo)=0->firstE ((eBk o t.kind b bd).take (j+1))=0):=fun h=>HEs.out j y hy HZj.out h
        obtain⟨z,hzz⟩:∃ z,z=dT o y (bd+mo):=⟨_,rfl⟩
        obtain⟨ez,hez⟩:∃ z,z=eT o y (bd+mo):=⟨_,rfl⟩
        obtain⟨g1,off1,ra1,rc1,ka1,kc1,sa1,sc1,hka,_,h61,hty⟩:=HKd.out.at hy
        cases hka
        have hQ:∀ W,Below n1 w1 W->Cs6 W g1 (off1+j*6) y ra1 rc1 ka1 kc1 sa1 sc1:=fun W q=>h61.keep q.size (q.block g1 (by rw [Hn1.out.1];exact h61.lt))
        obtain⟨wd,hwd⟩:∃ W,W=wo.drew:=⟨_,rfl⟩
        have hbd:Below wo.heap.size wo wd:=by rw [hwd];exact (Below.refl _ _).drew
        have ssd:wd.heap.size=wo.heap.size:=by rw [hwd];rfl
        have hSd:Below nb wb wd:=by rw [hwd];exact hSo.drew
        have hSe:Below n1 w1 wd:=hSb.trans (hSd.mono hnb1)
        have hbt:=HbT.out
        have cc:=HIH.out y (bd+mo) g1 (off1+j*6) xw xo fV cV ra1 rc1 ka1 kc1 sa1 sc1 wd (HE.out wd hSe) (HRf.out wd hSe) (HRc.out wd hSe) (hQ wd hSe) (hty.blw (by rw [<- Hn1.out.1];exact hSe)) (by omega) (by omega) (by omega)
        have l0:wd.cell? ⟨p,1,none⟩=some (.slice ka9 j kc9):=by rw [hwd];exact hO.cells.2.1
        rw [ssd,<- hzz,<- hez] at cc
        rw [<- hzz] at hz
        rw [<- hez] at HBk HZs
        have Hwd:Hid (_=_):=hwd
        have ct:=(HTb.out wo hSo).cells.2.1
        clear hty h61 hQ hbt hzz hez
        go_upto_region 20 with fail
        refine wp_region_held_drew (S:=fun W=>Below nb wb W) (by kernel_rfl) (by rw [<- Hwd.out];exact hSd) (fun hS=>?_)
        rw [<- Hwd.out] at hS ⊢
        clear hwd
        refine zk 0 (.pointer (some ⟨p,1,none⟩)) rfl (by rfl) (fun w hS=>by go_simp) hS ?_
        try simp only [Act.put,zg1,zg2,zg3,zs1,zs2,zs3]
        refine zk 2 (.func (.func 110) #[] #[.pointer (some ⟨xw,0,none⟩),.pointer (some ⟨xo,0,none⟩)]) rfl (by rfl) (fun w hS=>by have e:=(HE.out w (hSb.trans (hS.mono hnb1))).fn;go_simp) hS ?_
        try simp only [Act.put,zg1,zg2,zg3,zs1,zs2,zs3]
        refine zk 3 (.pointer (some ⟨n0,1,none⟩)) rfl (by rfl) (fun w hS=>by go_simp) hS ?_
        try simp only [Act.put,zg1,zg2,zg3,zs1,zs2,zs3]
        refine zk 4 (.slice (some ⟨g1,off1,none⟩) K kbc1) rfl (by rfl) (fun w hS=>by have e:=(HTb.out w hS).cells.2.1;go_simp) hS ?_
        try simp only [Act.put,zg1,zg2,zg3,zs1,zs2,zs3]
        refine zk 5 (.int .i64 j) rfl (by rfl) (fun w hS=>by go_simp) hS ?_
        try simp only [Act.put,zg1,zg2,zg3,zs1,zs2,zs3]
        refine zk 6 (.pointer (some ⟨g1,off1+j*6,none⟩)) rfl (by rfl) (fun w hS=>by go_simp) hS ?_
        try simp only [Act.put,zg1,zg2,zg3,zs1,zs2,zs3]
        refine zk 7 (.int .i64 ((bd+mo:Nat):Int)) rfl (by rfl) (fun w hS=>by go_simp) hS ?_
        try simp only [Act.put,zg1,zg2,zg3,zs1,zs2,zs3]
        refine wpAnyH_ready (rs:=[1,8]) (by kernel_rfl) (by simp) ?_
        refine ready_cons rfl (fun KK hKK=>?_) (ready_cons rfl (fun KK hKK=>?_) AllReadyH.nil)
        ·skip
         refine⟨?_⟩
         have ex:=l0
         go_simp
         refine hKK.out _ _ hS (fun hS=>?_)
         clear hKK KK
         try simp only [Act.put,zg1,zg2,zg3,zs1,zs2,zs3]
         clear ex
         refine zr 8 rfl (fun KK hKK=>?_)
         refine⟨?_⟩
         go_simp
         refine cc.mono ?_
         rintro e w2 ⟨⟨he0,v2,rfl,hv2⟩ | ⟨hne,rfl⟩,hb2⟩
         rotate_left
         ·exact⟨rfl,.inr ⟨by rw [HBk.out ez rfl hne];exact hne,by rw [HBk.out ez rfl hne]⟩,by rw [HXs.out];exact HB1.out _ (hSb.trans ((hSo.trans ((hbd.trans hb2).mono hso)).mono (by omega)))⟩
         clear cc
         have hb2:Below wo.heap.size wo w2:=hbd.trans hb2
         obtain⟨ra2,rc2,ka2,kc2,sa2,sc2,rfl,ht2⟩:=hv2.form
         have hnx:=hH.next (u:=(.int .i64 z.kind,.int .i64 z.n,.string z.name,.slice ra2 z.r.length rc2,.slice ka2 z.kids.length kc2,.slice sa2 z.sys.length sc2)) 23 hso holt hb2 ht2.value (by rw [List.length_take];omega)
         obtain⟨w3,hw3⟩:∃ W,W=w2.alloc (.cells #[.int .i64 z.kind,.int .i64 z.n,.string z.name,.slice ra2 z.r.length rc2,.slice ka2 z.kids.length kc2,.slice sa2 z.sys.length sc2] 26):=⟨_,rfl⟩
         dsimp only at hnx
         rw [<- hw3] at hnx
         obtain⟨vk4,w4,hrun,hH4,hB4,ho4⟩:=hnx
         rw [show B.2.take j ++ [z]=B.2.take (j+1) by rw [List.take_add_one,hz];rfl] at hH4
         obtain⟨ka4,kc4,hvk4⟩:=hH4.kids.len
         rw [show (B.2.take (j+1)).length=j+1 by rw [List.length_take];have:=some_lt hz;omega] at hvk4
         subst hvk4
         have b3:Below w2.heap.size w2 w3:=by rw [hw3];exact belowA _ _
         have hO4:Two w4 p (.slice fa4 F4 fc4) (.slice ka9 j kc9):=⟨ho4.trans hO.blk⟩
         obtain⟨w5,hw5⟩:∃ W,W=w4.setCell ⟨p,1,none⟩ (.slice ka4 (j+1) kc4):=⟨_,rfl⟩
         have k5:Kn (fun q=>q≠p) w4 w5:=by rw [hw5];exact kn_set _ _ _ _
         have hO5:Two w5 p (.slice fa4 F4 fc4) (.slice ka4 (j+1) kc4):=by rw [hw5];exact hO4.set1 _
         have hH5:=hH4.set k5
         have hB5:Below nb wo w5:=hB4.trans (k5.below (fun q hq=>by omega) (by have:=hB4.size;omega))
         have hS2:Below nb wb w2:=hSo.trans (hb2.mono hso)
         have hS3:Below nb wb w3:=hS2.trans (b3.mono (by have:=hb2.size;omega))
         have hS4:Below nb wb w4:=hSo.trans (hB4.mono (Nat.le_refl _))
         have hS5:Below nb wb w5:=hSo.trans (hB5.mono (Nat.le_refl _))
         have l2:Two w2 p (.slice fa4 F4 fc4) (.slice ka9 j kc9):=hO.blw hb2
         have l3:Two w3 p (.slice fa4 F4 fc4) (.slice ka9 j kc9):=l2.blw b3
         have q2:=l2.cells.2.1
         have q3:=l3.cells.2.1
         have q4:=hO4.cells.2.1
         have f4:=hO4.cells.2.2 1
         have H3:Hid (_=_):=hw3
         have H5:Hid (_=_):=hw5
         have HZ1:Hid (firstE ((eBk o t.kind b bd).take (j+1))=0):=HZs.out he0
         clear hw3 hw5 hv2 ht2 l2 l3 hO4 hH4 hb2 b3 ho4 k5 he0
         refine hKK.out _ _ hS2 (fun hS=>?_)
         clear hKK KK
         try simp only [Act.put,zg1,zg2,zg3,zs1,zs2,zs3]
         refine zr 9 rfl (fun KK hKK=>?_)
         refine⟨?_⟩
         go_simp
         rw [<- H3.out]
         refine hKK.out _ _ hS3 (fun hS=>?_)
         clear hKK KK
         try simp only [Act.put,zg1,zg2,zg3,zs1,zs2,zs3]
         refine zr 10 rfl (fun KK hKK=>?_)
         refine⟨step_append rfl _ _ _ rfl _ _ _ _ rfl rfl hrun ?_⟩
         refine hKK.out _ _ hS4 (fun hS=>?_)
         clear hKK KK
         try simp only [Act.put,zg1,zg2,zg3,zs1,zs2,zs3]
         refine zk 11 (.pointer (some ⟨p,1,none⟩)) rfl (by rfl) (fun w hS=>by go_simp) hS ?_
         try simp only [Act.put,zg1,zg2,zg3,zs1,zs2,zs3]
         refine zr 12 rfl (fun KK hKK=>?_)
         refine⟨?_⟩
         go_simp
         rw [<- H5.out]
         refine hKK.out _ _ hS5 (fun hS=>?_)
         clear hKK KK
         try simp only [Act.put,zg1,zg2,zg3,zs1,zs2,zs3]
         refine wpAnyH_done (by kernel_rfl) ?_ _
         go_wp2_with fail
         go_roundw
         case rel=>exact⟨j+1,_,_,by omega,by go_num,hO5,hH5,hS5,HZ1⟩
         case measure=>simp [intOf];omega
        ·skip
         refine⟨?_⟩
         go_simp
         refine cc.mono ?_
         rintro e w2 ⟨⟨he0,v2,rfl,hv2⟩ | ⟨hne,rfl⟩,hb2⟩
         rotate_left
         ·exact⟨rfl,.inr ⟨by rw [HBk.out ez rfl hne];exact hne,by rw [HBk.out ez rfl hne]⟩,by rw [HXs.out];exact HB1.out _ (hSb.trans ((hSo.trans ((hbd.trans hb2).mono hso)).mono (by omega)))⟩
         clear cc
         have hb2:Below wo.heap.size wo w2:=hbd.trans hb2
         obtain⟨ra2,rc2,ka2,kc2,sa2,sc2,rfl,ht2⟩:=hv2.form
         have hnx:=hH.next (u:=(.int .i64 z.kind,.int .i64 z.n,.string z.name,.slice ra2 z.r.length rc2,.slice ka2 z.kids.length kc2,.slice sa2 z.sys.length sc2)) 23 hso holt hb2 ht2.value (by rw [List.length_take];omega)
         obtain⟨w3,hw3⟩:∃ W,W=w2.alloc (.cells #[.int .i64 z.kind,.int .i64 z.n,.string z.name,.slice ra2 z.r.length rc2,.slice ka2 z.kids.length kc2,.slice sa2 z.sys.length sc2] 26):=⟨_,rfl⟩
         dsimp only at hnx
         rw [<- hw3] at hnx
         obtain⟨vk4,w4,hrun,hH4,hB4,ho4⟩:=hnx
         rw [show B.2.take j ++ [z]=B.2.take (j+1) by rw [List.take_add_one,hz];rfl] at hH4
         obtain⟨ka4,kc4,hvk4⟩:=hH4.kids.len
         rw [show (B.2.take (j+1)).length=j+1 by rw [List.length_take];have:=some_lt hz;omega] at hvk4
         subst hvk4
         have b3:Below w2.heap.size w2 w3:=by rw [hw3];exact belowA _ _
         have hO4:Two w4 p (.slice fa4 F4 fc4) (.slice ka9 j kc9):=⟨ho4.trans hO.blk⟩
         obtain⟨w5,hw5⟩:∃ W,W=w4.setCell ⟨p,1,none⟩ (.slice ka4 (j+1) kc4):=⟨_,rfl⟩
         have k5:Kn (fun q=>q≠p) w4 w5:=by rw [hw5];exact kn_set _ _ _ _
         have hO5:Two w5 p (.slice fa4 F4 fc4) (.slice ka4 (j+1) kc4):=by rw [hw5];exact hO4.set1 _
         have hH5:=hH4.set k5
         have hB5:Below nb wo w5:=hB4.trans (k5.below (fun q hq=>by omega) (by have:=hB4.size;omega))
         have hS2:Below nb wb w2:=hSo.trans (hb2.mono hso)
         have hS3:Below nb wb w3:=hS2.trans (b3.mono (by have:=hb2.size;omega))
         have hS4:Below nb wb w4:=hSo.trans (hB4.mono (Nat.le_refl _))
         have hS5:Below nb wb w5:=hSo.trans (hB5.mono (Nat.le_refl _))
         have l2:Two w2 p (.slice fa4 F4 fc4) (.slice ka9 j kc9):=hO.blw hb2
         have l3:Two w3 p (.slice fa4 F4 fc4) (.slice ka9 j kc9):=l2.blw b3
         have q2:=l2.cells.2.1
         have q3:=l3.cells.2.1
         have q4:=hO4.cells.2.1
         have f4:=hO4.cells.2.2 1
         have H3:Hid (_=_):=hw3
         have H5:Hid (_=_):=hw5
         have HZ1:Hid (firstE ((eBk o t.kind b bd).take (j+1))=0):=HZs.out he0
         clear hw3 hw5 hv2 ht2 l2 l3 hO4 hH4 hb2 b3 ho4 k5 he0
         refine hKK.out _ _ hS2 (fun hS=>?_)
         clear hKK KK
         try simp only [Act.put,zg1,zg2,zg3,zs1,zs2,zs3]
         refine wpAnyH_ready (rs:=[1,9]) (by kernel_rfl) (by simp) ?_
         refine ready_cons rfl (fun KK hKK=>?_) (ready_cons rfl (fun KK hKK=>?_) AllReadyH.nil)
         ·skip
          refine⟨?_⟩
          have ex:=q2
          go_simp
          refine hKK.out _ _ hS (fun hS=>?_)
          clear hKK KK
          try simp only [Act.put,zg1,zg2,zg3,zs1,zs2,zs3]
          clear ex
          refine zr 9 rfl (fun KK hKK=>?_)
          refine⟨?_⟩
          go_simp
          rw [<- H3.out]
          refine hKK.out _ _ hS3 (fun hS=>?_)
          clear hKK KK
          try simp only [Act.put,zg1,zg2,zg3,zs1,zs2,zs3]
          refine zr 10 rfl (fun KK hKK=>?_)
          refine⟨step_append rfl _ _ _ rfl _ _ _ _ rfl rfl hrun ?_⟩
          refine hKK.out _ _ hS4 (fun hS=>?_)
          clear hKK KK
          try simp only [Act.put,zg1,zg2,zg3,zs1,zs2,zs3]
          refine zk 11 (.pointer (some ⟨p,1,none⟩)) rfl (by rfl) (fun w hS=>by go_simp) hS ?_
          try simp only [Act.put,zg1,zg2,zg3,zs1,zs2,zs3]
          refine zr 12 rfl (fun KK hKK=>?_)
          refine⟨?_⟩
          go_simp
          rw [<- H5.out]
          refine hKK.out _ _ hS5 (fun hS=>?_)
          clear hKK KK
          try simp only [Act.put,zg1,zg2,zg3,zs1,zs2,zs3]
          refine wpAnyH_done (by kernel_rfl) ?_ _
          go_wp2_with fail
          go_roundw
          case rel=>exact⟨j+1,_,_,by omega,by go_num,hO5,hH5,hS5,HZ1⟩
          case measure=>simp [intOf];omega
         ·skip
          refine⟨?_⟩
          go_simp
          rw [<- H3.out]
          refine hKK.out _ _ hS3 (fun hS=>?_)
          clear hKK KK
          try simp only [Act.put,zg1,zg2,zg3,zs1,zs2,zs3]
          refine zr 1 rfl (fun KK hKK=>?_)
          refine⟨?_⟩
          have ex:=q3
          go_simp
          refine hKK.out _ _ hS (fun hS=>?_)
          clear hKK KK
          try simp only [Act.put,zg1,zg2,zg3,zs1,zs2,zs3]
          clear ex
          refine zr 10 rfl (fun KK hKK=>?_)
          refine⟨step_append rfl _ _ _ rfl _ _ _ _ rfl rfl hrun ?_⟩
          refine hKK.out _ _ hS4 (fun hS=>?_)
          clear hKK KK
          try simp only [Act.put,zg1,zg2,zg3,zs1,zs2,zs3]
          refine zk 11 (.pointer (some ⟨p,1,none⟩)) rfl (by rfl) (fun w hS=>by go_simp) hS ?_
          try simp only [Act.put,zg1,zg2,zg3,zs1,zs2,zs3]
          refine zr 12 rfl (fun KK hKK=>?_)
          refine⟨?_⟩
          go_simp
          rw [<- H5.out]
          refine hKK.out _ _ hS5 (fun hS=>?_)
          clear hKK KK
          try simp only [Act.put,zg1,zg2,zg3,zs1,zs2,zs3]
          refine wpAnyH_done (by kernel_rfl) ?_ _
          go_wp2_with fail
          go_roundw
          case rel=>exact⟨j+1,_,_,by omega,by go_num,hO5,hH5,hS5,HZ1⟩
          case measure=>simp [intOf];omega
       ·have hjI:¬ (j:Int) < (K:Int):=by omega
        obtain rfl:j=K:=by omega
        rw [List.take_of_length_le (by rw [HBk0.out.2.1];exact Nat.le_refl _)] at hH
        have hBo:Below n0 wq wo:=bb.trans (hSo.mono (by omega))
        have hnx:=hWq.next 24 HCn.out.2 hsq hoq (by rw [<- Hn0.out];exact hBo) (by rw [<- Hn0.out];exact hH.mono (by omega)) (by omega)
        obtain⟨w7,hw7⟩:∃ W,W=wo.alloc (.cells #[.slice fa4 F4 fc4,.slice ka9 j kc9] 40):=⟨_,rfl⟩
        rw [<- hw7] at hnx
        obtain⟨vs8,w8,hrun,hW8,hB8,ho8⟩:=hnx
        obtain⟨sa8,sc8,hvs⟩:=hW8.sys.len
        rw [show (T.sys.take (cn+1)).length=cn+1 by rw [List.length_take];have:=some_lt HCn.out.2;omega] at hvs
        subst hvs
        have hO8:Six w8 ob (.int .i64 kd) (.int .i64 tn) (.string tm) (.slice ra0 R rc0) (.slice ka0 k kc0) (.slice sa0 cn sc0):=⟨ho8.trans hOq.blk⟩
        obtain⟨w9,hw9⟩:∃ W,W=w8.setCell ⟨ob,5,none⟩ (.slice sa8 (cn+1) sc8):=⟨_,rfl⟩
        have k9:Kn (fun q=>q≠ob) w8 w9:=by rw [hw9];exact kn_set _ _ _ _
        have hO9:Six w9 ob (.int .i64 kd) (.int .i64 tn) (.string tm) (.slice ra0 R rc0) (.slice ka0 k kc0) (.slice sa8 (cn+1) sc8):=by rw [hw9];exact hO8.set5 _
        have hW9:=hW8.set k9
        have hS9:Below n1 w1 w9:=(hSq.trans hB8).trans (k9.below (fun q hq=>by omega) (by have:=hB8.size;omega))
        have lo:Six wo ob (.int .i64 kd) (.int .i64 tn) (.string tm) (.slice ra0 R rc0) (.slice ka0 k kc0) (.slice sa0 cn sc0):=⟨(hBo.block ob (by rw [Hn0.out];exact hoq)).trans hOq.blk⟩
        have q0:=lo.cells.2.2.2.2.2.1
        have q1:=hO.cells.1
        have q2:=hO.cells.2.1
        have q8:=hO8.cells.2.2.2.2.2.1
        have f8:=hO8.cells.2.2.2.2.2.2 5
        have H7:Hid (_=_):=hw7
        have H9:Hid (_=_):=hw9
        have HZ1:Hid (firstE ((eS o t.kind t.sys bd).take (i+1))=0):=HEe.out HZj.out
        rw [<- HCn.out.1] at hO9 hW9
        have HG9:Hid (cN o t.sys bd (i+1)=cn+1):=HCn.out.1
        clear hw7 hw9 lo hO8 hW8 hH k9 hB8 ho8 HTb
        go_wp2_with (at_builtin;rw [<- H7.out];refine wpList_append_run rfl _ _ _ rfl _ _ _ _ rfl rfl hrun ?_)
        rw [<- H9.out]
        go_roundw
        case rel=>exact⟨i+1,_,_,by omega,by go_num,hO9,hW9,hS9,HZ1⟩
        case measure=>simp [intOf];omega
    ·have hkI:¬ (i:Int) < (M:Int):=by omega
     obtain rfl:i=M:=by omega
     have hcE:cN o t.sys bd i=T.sys.length:=by rw [HL.out.2,HTs.out];exact cN_end o t.kind t.sys bd
     rw [hcE] at hOq hWq
     have HEz:Hid (eT o t bd=0):=(e_none (by rw [<- Hre.out];exact HR0.out) HK0.out (by have:=HZi.out;rwa [List.take_of_length_le (by rw [eS_len,<- HL.out.2];exact Nat.le_refl _)] at this):eT o t bd=0)
     obtain⟨Q,hQ⟩:∃ Q,Q=T.sys.length:=⟨_,rfl⟩
     rw [<- hQ] at hOq
     have y2:=HZ.out wq hSq
     obtain⟨a0,a1,a2,a3,a4,a5,_⟩:=hOq.cells
     obtain⟨w8,hw8,y8,k8,e0,e1,e2,e3,e4,e5,g0,g1,g2,g3,g4,g5⟩:=zst y2 (.int .i64 kd) (.int .i64 tn) (.string tm) (.slice ra0 R rc0) (.slice ka0 k kc0) (.slice sa0 Q sc0)
     obtain⟨h0,h1,h2,h3,h4,h5,_⟩:=y8.cells
     have hXl:=HXs.out
     have hXn2:=Hn1.out.2
     have HT8:Hid (TmIn (OkN X w8) w8 T (.agg #[.int .i64 kd,.int .i64 tn,.string tm,.slice ra0 R rc0,.slice ka0 k kc0,.slice sa0 Q sc0])):=by
      have hT:=hWq.term (by rw [HTk.out.1];exact HI.out.1) (by rw [HTk.out.2.1];exact HI.out.2)
      rw [HTk.out.1,HTk.out.2.1,HTk.out.2.2,<- Hkd.out,<- Htn.out,<- Htm.out,<- hQ] at hT
      exact hT.keep k8.size (fun q hq=>(hq.same (k8.block q (by have:=hq.1;omega) hq.lt)).mono (by omega)) (fun q hq hs=>k8.block q (by have:=hq.1;omega) hs)
     have b8:Below X w w8:=by
      rw [HXs.out]
      exact (HB1.out wq hSq).trans (k8.below (fun q hq=>by omega) (HB1.out wq hSq).size)
     have H8:Hid (_=_):=hw8
     clear hw8 y2 y8 k8 hXl hXn2 hWq hOq hcE hQ
     go_wp2_with fail
     rw [<- H8.out]
     exact bodyPost_ret (v:=.agg #[.int .i64 kd,.int .i64 tn,.string tm,.slice ra0 R rc0,.slice ka0 k kc0,.slice sa0 Q sc0]) (by simp only [results,Tryz.results110];simp [go_sem,h0,h1,h2,h3,h4,h5]) rfl ⟨.ok HEz.out HT8.out,b8⟩
theorem dv_any {o:DOp}:∀ N:Nat,DvC o N
 | 0=>fun t bd g off xw xo fV cV ra rc ka kc sa sc w _ _ _ _ _ hN=>by have:=blk_pos t;omega
 | N+1=>dv_step N (dv_any N)
end Go.Proofs.YtblbhmnahoiecaaGreat
