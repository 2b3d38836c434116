/- A part of the proof. -/
import Derived.Test.YtblbhmnahoiecaaGreatHG32
set_option linter.unusedVariables false
set_option linter.unusedSimpArgs false
set_option maxRecDepth 100000
set_option maxHeartbeats 8000000
namespace Go.Proofs.YtblbhmnahoiecaaGreat
open Go.RowKit
attribute [local go_sem] Oper.semAt_some
theorem kidsK_lowR {k:Int} (h:k<=0):kidsK k = -1:=by
 unfold kidsK
 rw [if_neg (by omega),if_neg (by omega),if_neg (by omega),if_neg (by omega),if_neg (by omega),if_neg (by omega)]
theorem okx_kind {t:Tm} (h:OkX t):1<=t.kind:=by
 obtain⟨bv,bd,h⟩:=h
 rw [ok_eq,Bool.and_eq_true] at h
 have h1:=h.1
 unfold Tm.node nodeB at h1
 simp only [Bool.and_eq_true,decide_eq_true_eq] at h1
 have h2:=h1.1.1.1.1.2
 by_cases hk:1<=t.kind
 ·exact hk
 ·exfalso
  have e:kidsK t.kind = -1:=kidsK_lowR (by omega)
  rw [e] at h2
  omega
def RqC (d:Bool) (di:Nat) (r:List C) (op:DOp) (N:Nat):Prop:=∀ (B:Nat->Prop) (t:Tm) (bd:Nat) (v vr:Value) (w:World),(∀ q,B q->q<w.heap.size)->TmIn B w t v->OkX t->ClRow Tt w r vr->blk t<=N->bd+blk t<=60000->blk t<=40000 ->
 Calls Tryz.prog 115 #[v,.int .i64 (di:Int),vr,.int .i64 (bd:Int),.bool d] w fun e w'=>∃ v',e=.returned v'/\TmIn (OkS B w.heap.size w') w' (rpT op t bd) v'/\Below w.heap.size w w'
theorem rq_eg:∀ args w,(callFunc 115 args).run Tryz.prog w=.ok (.enter 115 args) w:=enters_of Tryz.func115 (by kernel_rfl) rfl
theorem putRow_len (fb:Bool) (i:Int) (r l:List C) (bd:Nat) (h:l.length<=64):(putRow (pfB fb) i r l bd).1.length<=64:=by
 unfold putRow
 split
 ·split
  ·cases fb
   ·exact rightF_len (putF_right _ _ _)
   ·exact rightA_len (ptA_right _ _ _)
  ·simp
 ·exact h
theorem cut_row {d:Bool} {j:Int} {p:List C × Int} (h:p.2=0):(cutP d j p).1=if d then cutL j p.1 else p.1:=by
 unfold cutP
 cases d
 ·simp
 ·simp [h]
theorem rq_step {d:Bool} {di:Nat} {r:List C} {op:DOp} (hop:op=refOp d (di:Int) r) (hi24:di<=1000000) (hrl:r.length<=40000) (N:Nat) (IH:RqC d di r op N):RqC d di r op (N+1):=by
 intro B t bd v vr w hB hv hok hr hN hbd hb4
 obtain⟨hl1,hl2,hl3,hl4⟩:=blk_lens t
 obtain⟨ra,rc,ka,kc,sa,sc,rfl,ht⟩:=hv.form
 obtain⟨ow1,ow2⟩:=okx_own hok
 obtain⟨sb1,sb2⟩:=okx_sub hok
 have hk1:=okx_kind hok
 have HKd:Hid (∀ (k:Nat) (x:Tm),t.kids[k]? = some x->OkX x):=sb1
 have HSd:Hid (∀ b∈t.sys,∀ x∈b.2,OkX x):=fun b hb=>(sb2 b hb).2
 have HFl:Hid (∀ b∈t.sys,b.1.length<=64):=fun b hb=>rightA_len (sb2 b hb).1
 have heb:op.eb:=by rw [hop];exact refOp_eb d _ r
 have Heb:Hid (op.eb):=heb
 have HFc:Hid (∀ l,op.fc l bd=cutP d ((di:Int) + (bd:Int)) (putRow (pfB true) (di:Int) r l bd)):=fun l=>by rw [hop];rfl
 obtain⟨X,hX⟩:∃ X,X=w.heap.size:=⟨_,rfl⟩
 obtain⟨kd,hkd⟩:∃ k,k=t.kind:=⟨_,rfl⟩
 have Hkd:Hid (kd=t.kind):=hkd
 obtain⟨tn,htn⟩:∃ k,k=t.n:=⟨_,rfl⟩
 have Htn:Hid (tn=t.n):=htn
 obtain⟨tm,htm⟩:∃ k,k=t.name:=⟨_,rfl⟩
 have Htm:Hid (tm=t.name):=htm
 obtain⟨L,hL⟩:∃ L,L=t.kids.length:=⟨_,rfl⟩
 obtain⟨M,hM⟩:∃ M,M=t.sys.length:=⟨_,rfl⟩
 obtain⟨R0,hR0⟩:∃ M,M=t.r.length:=⟨_,rfl⟩
 have HL:Hid (L=t.kids.length/\M=t.sys.length/\R0=t.r.length):=⟨hL,hM,hR0⟩
 have hLb:L<=40000:=by omega
 have hMb:M<=40000:=by omega
 obtain⟨w1,hw1⟩:∃ W,W=((w.alloc (.cells #[.int .i64 kd,.int .i64 tn,.string tm,.slice ra R0 rc,.slice ka L kc,.slice sa M sc] 26)).alloc (.cells #[.int .i64 0,.int .i64 0,.string ⟨#[]⟩,.slice none 0 0,.slice none 0 0,.slice none 0 0] 26)).alloc (.cells #[.int .i64 kd,.int .i64 tn,.string tm,.slice none 0 0,.slice none 0 0,.slice none 0 0] 26):=⟨_,rfl⟩
 have b1:Below w.heap.size w w1:=by rw [hw1];exact bchain (bchain (belowA _ _) (belowA _ _)) (belowA _ _)
 have s1:w1.heap.size=X+3:=by rw [hw1,hX];simp
 have m0:Six w1 X (.int .i64 kd) (.int .i64 tn) (.string tm) (.slice ra R0 rc) (.slice ka L kc) (.slice sa M sc):=⟨by
  rw [hw1,hX];exact (Below.heap_alloc _ _ _ (by simp;omega)).trans ((Below.heap_alloc _ _ _ (by simp)).trans (heapNew w _))⟩
 have m1:Six w1 (X+1) (.int .i64 0) (.int .i64 0) (.string ⟨#[]⟩) (.slice none 0 0) (.slice none 0 0) (.slice none 0 0):=⟨by
  rw [hw1,hX];refine (Below.heap_alloc _ _ _ (by simp)).trans ?_
  have:=heapNew (w.alloc (.cells #[.int .i64 kd,.int .i64 tn,.string tm,.slice ra R0 rc,.slice ka L kc,.slice sa M sc] 26)) (.cells #[.int .i64 0,.int .i64 0,.string ⟨#[]⟩,.slice none 0 0,.slice none 0 0,.slice none 0 0] 26);rwa [World.size_alloc] at this⟩
 have m2:Six w1 (X+2) (.int .i64 kd) (.int .i64 tn) (.string tm) (.slice none 0 0) (.slice none 0 0) (.slice none 0 0):=⟨by
  rw [hw1,hX]
  have:=heapNew ((w.alloc (.cells #[.int .i64 kd,.int .i64 tn,.string tm,.slice ra R0 rc,.slice ka L kc,.slice sa M sc] 26)).alloc (.cells #[.int .i64 0,.int .i64 0,.string ⟨#[]⟩,.slice none 0 0,.slice none 0 0,.slice none 0 0] 26)) (.cells #[.int .i64 kd,.int .i64 tn,.string tm,.slice none 0 0,.slice none 0 0,.slice none 0 0] 26);rwa [World.size_alloc,World.size_alloc] at this⟩
 have HC:Hid (∀ W,Below (X+2) w1 W->Six W X (.int .i64 kd) (.int .i64 tn) (.string tm) (.slice ra R0 rc) (.slice ka L kc) (.slice sa M sc)/\Six W (X+1) (.int .i64 0) (.int .i64 0) (.string ⟨#[]⟩) (.slice none 0 0) (.slice none 0 0) (.slice none 0 0)):=fun W q=>⟨⟨(q.block X (by omega)).trans m0.blk⟩,⟨(q.block (X+1) (by omega)).trans m1.blk⟩⟩
 have HB:Hid (∀ W,Below (X+2) w1 W->Below X w W):=fun W q=>by rw [hX];exact b1.trans (q.mono (by omega))
 have HT:Hid (∀ W,Below X w W->TmTop B W t ra rc ka kc sa sc):=fun W q=>ht.blw (by rw [<- hX];exact q)
 have HR:Hid (∀ W,Below X w W->ClRow Tt W r vr):=fun W q=>hr.blw (by rw [<- hX];exact q)
 obtain⟨T,hT⟩:∃ T,T=dT (op) t bd:=⟨_,rfl⟩
 have hTe:T=_:=hT.trans (d_eq (op) t bd)
 have HTk:Hid (T.kind=t.kind/\T.n=t.n/\T.name=t.name):=by rw [hTe];exact⟨rfl,rfl,rfl⟩
 have HTr:Hid (T.r=(ownP (op) t.kind t.r bd).1):=(by rw [hTe]:_=_)
 have HTl:Hid (T.kids.length=L):=(by rw [hTe];exact (dK_len _ _ _ _).trans hL.symm:_=_)
 have HTg:Hid (∀ k x,t.kids[k]? = some x->T.kids[k]? = some (dT (op) x (bd+bdK t.kind k))):=fun k x h=>by rw [hTe];exact dK_get h
 have HTs:Hid (T.sys=dS (op) t.kind t.sys bd):=(by rw [hTe]:_=_)
 have HI:Hid (I64 t.kind/\I64 t.n):=⟨ht.ik,ht.inn⟩
 obtain⟨P0,hP0⟩:∃ P,P=putRow (pfB (kd == 14)) (di:Int) r t.r bd:=⟨_,rfl⟩
 have epf:ownP op t.kind t.r bd=cutP d ((di:Int) + (bd:Int)) P0:=by
  rw [hP0,hop]
  unfold ownP pfB
  rw [hkd]
  by_cases h:t.kind=14
  ·simp [h];rfl
  ·have:(t.kind == 14)=false:=by simpa using h
   rw [if_neg h,this];rfl
 have hG64:P0.1.length<=64:=by rw [hP0];exact putRow_len _ _ _ _ _ (rightF_len ow1)
 have herb:0<=P0.2/\P0.2<=1000:=by
  have:=heb t.r bd
  have h2:(ownP op t.kind t.r bd).2=P0.2:=by rw [epf,cutP_er]
  rw [<- h2]
  unfold ownP;split
  ·exact this.2
  ·exact this.1
 have cR:Calls Tryz.prog 164 #[.slice ra R0 rc,.bool (kd == 14),.int .i64 (di:Int),vr,.int .i64 (bd:Int)] w1 fun e w'=>∃ v',e=.returned (.tuple #[v',.int .i64 P0.2])/\ClRow (OkS B w1.heap.size w') w' P0.1 v'/\Below w1.heap.size w1 w':=by
  have hx:=HT.out w1 (by rw [hX];exact b1)
  have:=rrow_any (B:=B) (kd == 14) (di:Int) r t.r bd (.slice ra R0 rc) vr w1 (by rw [hR0];exact hx.row) (HR.out w1 (by rw [hX];exact b1)) (by omega) hrl (by omega) (by omega) (fun q h=>by have:=hB q h;omega)
  rw [<- hP0] at this
  exact this
 have HOw:Hid ((ownP op t.kind t.r bd).2=P0.2):=(by rw [epf,cutP_er]:_=_)
 have HTr0:Hid (P0.2=0->T.r=if d then cutL ((di:Int) + (bd:Int)) P0.1 else P0.1):=fun h=>by rw [HTr.out,epf];exact cut_row h
 have hTl64:P0.2=0->T.r.length<=64:=fun h=>by
  rw [HTr0.out h]
  cases d
  ·exact hG64
  ·exact cutL_len _ _
 obtain⟨RT,hRT⟩:∃ z,z=rpT op t bd:=⟨_,rfl⟩
 have HRz:Hid (eT op t bd=0->RT=T):=fun h=>by rw [hRT,hT];unfold rpT;rw [if_pos h]
 have HRe:Hid (∀ e:Int,e≠0->eT op t bd=e->RT=badT e):=fun e h0 h=>by rw [hRT];unfold rpT;rw [if_neg (by rw [h];exact h0),h]
 have hbT0:=hT
 rw [<- hRT]
 obtain⟨G0,er⟩:=P0
 dsimp only at cR HOw HTr0 hG64 herb hTl64
 clear hRT epf hP0
 have HXs:Hid (X=w.heap.size):=hX
 have Hs1:Hid (w1.heap.size=X+3):=s1
 have HW:Hid (_=_):=hw1
 have HIH:Hid (RqC d di r op N):=IH
 have HbT:Hid (blk t<=N+1/\bd+blk t<=60000/\blk t<=40000):=⟨hN,hbd,hb4⟩
 have HBX:Hid (∀ q,B q->q<X):=fun q h=>by have:=hB q h;omega
 have eg:=rq_eg
 have hbd6:bd<=60000:=by omega
 obtain⟨y0,y1,y2,y3,y4,y5,_⟩:=m0.cells
 obtain⟨va,vc,rfl,_⟩:=id hr
 obtain⟨LR,hLR⟩:∃ L,L=r.length:=⟨_,rfl⟩
 rw [<- hLR] at cR HR
 simp only [<- hLR,<- hkd,<- htn,<- htm,<- hL,<- hM,<- hR0]
 rw [<- hX]
 clear hw1 b1 s1 hX hv ht hL hM hR0 hT hTe hkd htn htm IH hl1 hl2 hl3 hl4 hN hbd hb4 hr hok ow1 ow2 sb1 sb2 heb hop hLR hB hbT0
 go_enter Tryz.func115,Tryz.ntmps115
 go_upto_region 2 with fail
 rw [<- HW.out]
 simp only [<- HXs.out]
 clear HW
 go_wp2_with fail
 refine cR.mono ?_
 rintro e w2 ⟨v2,rfl,hv2,b2⟩
 clear cR y0 y1 y2 y3 y4 y5
 have hs1:=Hs1.out
 obtain⟨ra8,rc8,rfl,_⟩:=id hv2
 obtain⟨R8,hR8⟩:∃ R,R=G0.length:=⟨_,rfl⟩
 rw [<- hR8] at hv2 hG64 ⊢
 have HR8:Hid (R8=G0.length):=hR8
 have o2:=m2.blw b2
 have hs2:=b2.size
 by_cases her:er=0
 rotate_left
 ·have g1:(er == 0)=false:=by simpa using her
  have g2:(er != 0)=true:=by simpa using her
  have hRT:RT=badT er:=HRe.out er her (by rw [e_row (by rw [HOw.out];exact her),HOw.out])
  have cb:=rbad_any er herb w2
  have hSv:Below (X+2) w1 w2:=b2.mono (by omega)
  clear m0 m1 m2 o2 hv2
  go_wp2_with fail
  refine cb.mono ?_
  rintro e wv ⟨rfl,b3⟩
  clear cb
  replace hSv:=hSv.trans (b3.mono (by omega))
  have y2:=(HC.out wv hSv).2
  obtain⟨w8,hw8,y8,k8,e0,e1,e2,e3,e4,e5,g10,g11,g12,g13,g14,g15⟩:=zst y2 (.int .i64 (-er)) (.int .i64 0) (.string ⟨#[]⟩) (.slice none 0 0) (.slice none 0 0) (.slice none 0 0)
  obtain⟨h0,h1,h2,h3,h4,h5,_⟩:=y8.cells
  have HT8:Hid (TmIn (OkS B X w8) w8 (badT er) (.agg #[.int .i64 (-er),.int .i64 0,.string ⟨#[]⟩,.slice none 0 0,.slice none 0 0,.slice none 0 0])):=badT_in _ _ herb
  have hX8:=HB.out wv hSv
  have b8:Below X w w8:=hX8.trans (k8.below (fun q hq=>by omega) (by have:=hX8.size;have:=HXs.out;omega))
  have H8:Hid (_=_):=hw8
  clear hw8 y2 y8 k8 hX8
  go_wp2_with fail
  rw [<- H8.out]
  exact bodyPost_ret (v:=.agg #[.int .i64 (-er),.int .i64 0,.string ⟨#[]⟩,.slice none 0 0,.slice none 0 0,.slice none 0 0]) (by simp only [results,Tryz.results115];simp [go_sem,h0,h1,h2,h3,h4,h5]) rfl ⟨_,rfl,by rw [hRT];exact HT8.out,b8⟩
 subst her
 have g1:((0:Int) != 0)=false:=by decide
 replace HOw:Hid ((ownP op t.kind t.r bd).2=0):=HOw.out
 replace HTr0:Hid (T.r=if d then cutL ((di:Int) + (bd:Int)) G0 else G0):=HTr0.out rfl
 obtain⟨R,hR⟩:∃ R,R=T.r.length:=⟨_,rfl⟩
 have HRR:Hid (R=T.r.length):=hR
 obtain⟨w3,hw3⟩:∃ W,W=w2.setCell ⟨X+2,3,none⟩ (.slice ra8 R8 rc8):=⟨_,rfl⟩
 have k3:Kn (fun q=>q≠X+2) w2 w3:=by rw [hw3];exact kn_set _ _ _ _
 have hO8:Six w3 (X+2) (.int .i64 kd) (.int .i64 tn) (.string tm) (.slice ra8 R8 rc8) (.slice none 0 0) (.slice none 0 0):=by rw [hw3];exact o2.set3 _
 have hS8:Below (X+2) w1 w3:=(b2.mono (by omega)).trans (k3.below (fun q hq=>by omega) (by omega))
 have hH8:HalfS B (X+2) (X+2) G0 [] w3 (.slice ra8 R8 rc8) (.slice none 0 0):=by
  refine⟨?_,KOwS.nil _ _ _,Nat.le_refl _,fun q h=>by have:=HBX.out q h;omega⟩
  have hne:∀ q,OkS B w1.heap.size w2 q->q≠X+2:=fun q hq=>Or.elim hq (fun hq=>by have:=HBX.out q hq.1;omega) (fun hq=>by have:=hq.1;omega)
  exact hv2.keep k3.size (fun q hq=>⟨(hq.same (k3.block q (hne q hq) hq.lt)).mono (by omega),(fun e=>by cases e),hne q hq⟩) (fun q hq hs=>k3.block q (hne q hq) hs)
 obtain⟨z0,z1,z2,z3,z4,z5,zf⟩:=o2.cells
 have f3:=zf 3
 have H3:Hid (_=_):=hw3
 clear hw3 k3 hv2 m0 m1 m2 o2 hR hR8 zf b2
 go_upto_if 49 with fail
 rw [<- H3.out]
 clear H3 z0 z1 z2 z3 z4 z5 f3 hTl64
 go_cut [] (fun wx=>∃ ra9 rc9,Six wx (X+2) (.int .i64 kd) (.int .i64 tn) (.string tm) (.slice ra9 R rc9) (.slice none 0 0) (.slice none 0 0)/\HalfS B (X+2) (X+2) T.r [] wx (.slice ra9 R rc9) (.slice none 0 0)/\Below (X+2) w1 wx)
 case first=>as_aux_lemma =>
  cases d
  ·have e1:T.r=G0:=HTr0.out
   have e2:R=R8:=by rw [HRR.out,HR8.out,e1]
   subst e2
   go_wp2_with fail
   go_meet
   rw [e1]
   exact⟨_,_,hO8,hH8,hS8⟩
  ·have e1:T.r=cutL ((di:Int) + (bd:Int)) G0:=HTr0.out
   have wr1:wrap64 ((di:Int) + (bd:Int))=(di:Int) + (bd:Int):=by simp [wrap64];omega
   have cc:=rcut_any G0 ((di:Int) + (bd:Int)) (.slice ra8 R8 rc8) w3 hH8.row.row (by rw [<- HR8.out];omega)
   obtain⟨Gc,hGc⟩:∃ G,G=cutL ((di:Int) + (bd:Int)) G0:=⟨_,rfl⟩
   rw [<- hGc] at e1 cc
   go_wp2_with fail
   refine cc.mono ?_
   rintro e w4 ⟨v4,rfl,hO4,b4⟩
   clear cc
   obtain⟨ra4,rc4,rfl⟩:=OwnsC.len hO4
   have e2:R=Gc.length:=by rw [HRR.out,e1]
   rw [<- e2] at hO4 ⊢
   have o4:=hO8.blw b4
   have hs3:=hO8.lt
   obtain⟨w5,hw5⟩:∃ W,W=w4.setCell ⟨X+2,3,none⟩ (.slice ra4 R rc4):=⟨_,rfl⟩
   have k5:Kn (fun q=>q≠X+2) w4 w5:=by rw [hw5];exact kn_set _ _ _ _
   have hO5:Six w5 (X+2) (.int .i64 kd) (.int .i64 tn) (.string tm) (.slice ra4 R rc4) (.slice none 0 0) (.slice none 0 0):=by rw [hw5];exact o4.set3 _
   have hS5:Below (X+2) w1 w5:=(hS8.trans (b4.mono (by omega))).trans (k5.below (fun q hq=>by omega) (by have:=b4.size;omega))
   have hv4:ClRow (OkN w3.heap.size w4) w4 Gc (.slice ra4 R rc4):=by
    have:=OwnsC.okn hO4
    exact this
   have hH5:HalfS B (X+2) (X+2) Gc [] w5 (.slice ra4 R rc4) (.slice none 0 0):=by
    refine⟨?_,KOwS.nil _ _ _,Nat.le_refl _,fun q h=>by have:=HBX.out q h;omega⟩
    have hne:∀ q,OkN w3.heap.size w4 q->q≠X+2:=fun q hq=>by have:=hq.1;omega
    exact hv4.keep k5.size (fun q hq=>⟨.inr ((hq.same (k5.block q (hne q hq) hq.lt)).mono (by omega)),(fun e=>by cases e),hne q hq⟩) (fun q hq hs=>k5.block q (hne q hq) hs)
   obtain⟨z0,z1,z2,z3,z4,z5,zf⟩:=o4.cells
   have f3:=zf 3
   have H5:Hid (_=_):=hw5
   clear hw5 k5 hv4 hO4 o4 zf e2 hGc
   have E1:Hid (_=_):=e1
   clear e1
   go_wp2_with fail
   rw [<- H5.out]
   go_meet
   rw [E1.out]
   exact⟨_,_,hO5,hH5,hS5⟩
 case rest =>
 obtain⟨ra0,rc0,hO0,hH0,hS0⟩:=hcut
 obtain⟨w3,hw3⟩:∃ W,W=wc:=⟨_,rfl⟩
 subst hw3
 clear hO8 hH8 hS8
 have k33:=(HC.out w3 hS0).1.cells.2.2.2.2.1
 go_wp2_with fail
 clear k33
 go_loopw [14] (fun u wr=>∃ (k:Nat) (a:Option Addr) (c:Nat),k<=L/\u=.int .i64 k/\Six wr (X+2) (.int .i64 kd) (.int .i64 tn) (.string tm) (.slice ra0 R rc0) (.slice a k c) (.slice none 0 0)/\HalfS B (X+2) (X+2) T.r (T.kids.take k) wr (.slice ra0 R rc0) (.slice a k c)/\Below (X+2) w1 wr/\Hid (firstE ((eK op t.kind t.kids bd).take k)=0)) (fun u _=>L - (intOf u).toNat)
 case atStart=>exact⟨0,none,0,Nat.zero_le _,rfl,hO0,hH0,hS0,firstE_nil⟩
 case round =>
  obtain⟨wo,hwo⟩:∃ wo,wo=wr:=⟨_,rfl⟩
  subst hwo
  clear hO0 hH0 hS0
  obtain⟨k,ka0,kc0,hk,rfl,hO,hH,hSo,HZk⟩:=hrel
  have hso:X+2<=wo.heap.size:=by have:=hSo.size;omega
  have holt:=hO.lt
  obtain⟨x0,x1,x2,x3,x4,x5,_⟩:=(HC.out wo hSo).1.cells
  have hXw:=HB.out wo hSo
  by_cases hlt:k<L
  ·have hkI:(k:Int) < (L:Int):=by omega
   obtain⟨y,hy⟩:=someL (l:=t.kids) (k:=k) (by rw [<- HL.out.1];exact hlt)
   have hz:=HTg.out k y hy
   have hby:blk y<blk t:=blk_kid (List.mem_of_getElem? hy)
   have hoky:=HKd.out k y hy
   have hd1:=bdK_le t.kind k
   have cB:=rBinds_any kd (k:Int) wo
   rw [Hkd.out,bvI_nat,bdI_nat,<- Hkd.out] at cB
   rw [<- Hkd.out] at hd1 hz
   obtain⟨D,hD⟩:∃ D,D=bdK kd k:=⟨_,rfl⟩
   rw [<- hD] at hd1 cB hz
   obtain⟨g1,off1,ra1,rc1,ka1,kc1,sa1,sc1,hka,_,h61,hty⟩:=(HT.out wo hXw).kids.at hy
   cases hka
   have hbt:=HbT.out
   have cc:=HIH.out B y (bd+D) _ (.slice va LR vc) wo (fun q h=>by have:=HBX.out q h;omega) hty.value hoky (HR.out wo hXw) (by omega) (by omega) (by omega)
   have HzK:=rpT_kind Heb.out (bd:=bd+D) (okx_kind hoky)
   have Hz0:Hid (eT op y (bd+D)=0->rpT op y (bd+D)=dT op y (bd+D)):=fun h=>by unfold rpT;rw [if_pos h]
   have Hze:Hid (eT op y (bd+D)≠0->rpT op y (bd+D)=badT (eT op y (bd+D))):=fun h=>by unfold rpT;rw [if_neg h]
   have Hek:Hid (eT op y (bd+D)≠0->eT op t bd=eT op y (bd+D)):=fun h=>by
    rw [hD,Hkd.out]
    exact e_kid HOw.out hy HZk.out (by rw [<- Hkd.out,<- hD];exact h)
   have Hst:Hid (eT op y (bd+D)=0->firstE ((eK op t.kind t.kids bd).take (k+1))=0):=fun h=>by
    rw [firstE_step (eK_get hy),if_pos HZk.out,<- Hkd.out,<- hD];exact h
   obtain⟨z,hzz⟩:∃ z,z=rpT op y (bd+D):=⟨_,rfl⟩
   obtain⟨ey,hey⟩:∃ e,e=eT op y (bd+D):=⟨_,rfl⟩
   rw [<- hzz,<- hey] at HzK Hz0 Hze
   rw [<- hzz] at cc
   rw [<- hey] at Hek Hst
   have wr1:wrap64 ((bd:Int) + (D:Int))=((bd+D:Nat):Int):=by simp [wrap64];omega
   obtain⟨_,c0,c1,c2,c3,c4,c5⟩:=h61
   have HzK':Hid (z.kind<0↔ey≠0):=HzK
   clear hty hbt hD hzz hoky hey HzK
   have HzK:=HzK'
   go_wp2_with fail
   refine cB.mono ?_
   rintro e w9 ⟨rfl,hw9⟩
   replace hw9:=hw9.symm
   subst hw9
   clear cB
   go_wp2_with fail
   refine cc.mono ?_
   rintro e w2 ⟨v2,rfl,hv2,hb2⟩
   clear cc x0 x1 x2 x3 x4 x5 c0 c1 c2 c3 c4 c5
   obtain⟨ra2,rc2,ka2,kc2,sa2,sc2,rfl,ht2⟩:=hv2.form
   obtain⟨wv,hwv⟩:∃ W,W=w2.alloc (.cells #[.int .i64 z.kind,.int .i64 z.n,.string z.name,.slice ra2 z.r.length rc2,.slice ka2 z.kids.length kc2,.slice sa2 z.sys.length sc2] 26):=⟨_,rfl⟩
   have bv':Below w2.heap.size w2 wv:=by rw [hwv];exact belowA _ _
   have nv:Six wv w2.heap.size (.int .i64 z.kind) (.int .i64 z.n) (.string z.name) (.slice ra2 z.r.length rc2) (.slice ka2 z.kids.length kc2) (.slice sa2 z.sys.length sc2):=⟨by rw [hwv];exact heapNew _ _⟩
   have hbv:=bchain hb2 bv'
   have hzv:TmIn (OkS B wo.heap.size wv) wv z (.agg #[.int .i64 z.kind,.int .i64 z.n,.string z.name,.slice ra2 z.r.length rc2,.slice ka2 z.kids.length kc2,.slice sa2 z.sys.length sc2]):=ht2.value.keep bv'.size (fun q hq=>hq.blw bv') (fun q _ hs=>bv'.block q hs)
   have Hv:Hid (_=_):=hwv
   have hSv:Below (X+2) w1 wv:=hSo.trans (hbv.mono hso)
   clear hwv hv2 ht2 hb2 bv'
   go_upto_region 13 with fail
   rw [<- Hv.out]
   clear Hv
   by_cases hze:ey=0
   rotate_left
   ·have hzd:decide (z.kind<0)=true:=decide_eq_true (HzK.out.2 hze)
    have hRT:RT=z:=by rw [Hze.out hze];exact HRe.out ey hze (Hek.out hze)
    obtain⟨n0,n1,n2,n3,n4,n5,_⟩:=nv.cells
    clear hO hH
    have y2:=(HC.out wv hSv).2
    obtain⟨w8,hw8,y8,k8,e0,e1,e2,e3,e4,e5,g10,g11,g12,g13,g14,g15⟩:=zst y2 (.int .i64 z.kind) (.int .i64 z.n) (.string z.name) (.slice ra2 z.r.length rc2) (.slice ka2 z.kids.length kc2) (.slice sa2 z.sys.length sc2)
    obtain⟨h0,h1,h2,h3,h4,h5,_⟩:=y8.cells
    have HT8:Hid (TmIn (OkS B X w8) w8 z (.agg #[.int .i64 z.kind,.int .i64 z.n,.string z.name,.slice ra2 z.r.length rc2,.slice ka2 z.kids.length kc2,.slice sa2 z.sys.length sc2])):=by
     have hs9:=HXs.out
     have hsz:=hSv.size
     have hs10:=Hs1.out
     have hwo:X+2<=wo.heap.size:=by have:=hSo.size;omega
     have hne:∀ q,OkS B wo.heap.size wv q->q≠X+1:=fun q hq=>Or.elim hq (fun hq=>by have:=HBX.out q hq.1;omega) (fun hq=>by have:=hq.1;omega)
     exact hzv.keep k8.size (fun q hq=>(hq.same (k8.block q (hne q hq) hq.lt)).mono (by omega)) (fun q hq hs=>k8.block q (hne q hq) hs)
    have hX8:=HB.out wv hSv
    have b8:Below X w w8:=hX8.trans (k8.below (fun q hq=>by omega) (by have:=hX8.size;have:=HXs.out;omega))
    have H8:Hid (_=_):=hw8
    clear hw8 y2 y8 k8 hX8
    go_wp2_with fail
    rw [<- H8.out]
    exact bodyPost_ret (v:=.agg #[.int .i64 z.kind,.int .i64 z.n,.string z.name,.slice ra2 z.r.length rc2,.slice ka2 z.kids.length kc2,.slice sa2 z.sys.length sc2]) (by simp only [results,Tryz.results115];simp [go_sem,h0,h1,h2,h3,h4,h5]) rfl ⟨_,rfl,by rw [hRT];exact HT8.out,b8⟩
   subst hze
   have hzd:decide (z.kind<0)=false:=decide_eq_false (fun h=>HzK.out.1 h rfl)
   rw [<- Hz0.out rfl] at hz
   have HZ1:=Hst.out rfl
   have hnx:=hH.next (u:=(.int .i64 z.kind,.int .i64 z.n,.string z.name,.slice ra2 z.r.length rc2,.slice ka2 z.kids.length kc2,.slice sa2 z.sys.length sc2)) 23 hso holt hbv hzv (by rw [List.length_take];omega)
   obtain⟨w3,hw3⟩:∃ W,W=wv.alloc (.cells #[.int .i64 z.kind,.int .i64 z.n,.string z.name,.slice ra2 z.r.length rc2,.slice ka2 z.kids.length kc2,.slice sa2 z.sys.length sc2] 26):=⟨_,rfl⟩
   dsimp only at hnx
   rw [<- hw3] at hnx
   obtain⟨vk4,w4,hrun,hH4,hB4,ho4⟩:=hnx
   rw [show T.kids.take k ++ [z]=T.kids.take (k+1) by rw [List.take_add_one,hz];rfl] at hH4
   obtain⟨ka4,kc4,hvk4⟩:=hH4.kids.len
   rw [show (T.kids.take (k+1)).length=k+1 by rw [List.length_take];have:=some_lt hz;omega] at hvk4
   subst hvk4
   have hO4:Six w4 (X+2) (.int .i64 kd) (.int .i64 tn) (.string tm) (.slice ra0 R rc0) (.slice ka0 k kc0) (.slice none 0 0):=⟨ho4.trans hO.blk⟩
   obtain⟨w5,hw5⟩:∃ W,W=w4.setCell ⟨X+2,4,none⟩ (.slice ka4 (k+1) kc4):=⟨_,rfl⟩
   have k5:Kn (fun q=>q≠X+2) w4 w5:=by rw [hw5];exact kn_set _ _ _ _
   have hO5:Six w5 (X+2) (.int .i64 kd) (.int .i64 tn) (.string tm) (.slice ra0 R rc0) (.slice ka4 (k+1) kc4) (.slice none 0 0):=by rw [hw5];exact hO4.set4 _
   have hH5:=hH4.set k5
   have hS5:Below (X+2) w1 w5:=hSo.trans (hB4.trans (k5.below (fun q hq=>by omega) (by have:=hB4.size;omega)))
   have lv:Six wv (X+2) (.int .i64 kd) (.int .i64 tn) (.string tm) (.slice ra0 R rc0) (.slice ka0 k kc0) (.slice none 0 0):=hO.blw hbv
   obtain⟨n0,n1,n2,n3,n4,n5,_⟩:=nv.cells
   have q4:=lv.cells.2.2.2.2.1
   have q5:=hO4.cells.2.2.2.2.1
   have f4:=hO4.cells.2.2.2.2.2.2 4
   have H3:Hid (_=_):=hw3
   have H5:Hid (_=_):=hw5
   clear hw3 hw5 lv hO4 hH4 ho4 k5 hzv nv hbv
   go_wp2_with (at_builtin;rw [<- H3.out];refine wpList_append_run rfl _ _ _ rfl _ _ _ _ rfl rfl hrun ?_)
   rw [<- H5.out]
   go_roundw
   case rel=>exact⟨k+1,_,_,by omega,by go_num,hO5,hH5,hS5,HZ1⟩
   case measure=>simp [intOf];omega
  ·have hkI:¬ (k:Int) < (L:Int):=by omega
   obtain rfl:k=L:=by omega
   have hW0:WholeS B (X+2) (X+2) T 0 wo (.slice ra0 R rc0) (.slice ka0 k kc0) (.slice none 0 0):=by
    rw [List.take_of_length_le (by rw [HTl.out];exact Nat.le_refl _)] at hH
    exact hH.all
   have HK0:Hid (firstE (eK op t.kind t.kids bd)=0):=by
    have h:=HZk.out
    rw [List.take_of_length_le (by rw [eK_len,<- HL.out.1];exact Nat.le_refl _)] at h
    exact h
   clear hH
   go_wp2_with fail
   clear x0 x1 x2 x3 x4 x5
   go_loopw [18] (fun u wr=>∃ (j:Nat) (a:Option Addr) (c:Nat),j<=M/\u=.int .i64 j/\Six wr (X+2) (.int .i64 kd) (.int .i64 tn) (.string tm) (.slice ra0 R rc0) (.slice ka0 k kc0) (.slice a (cN op t.sys bd j) c)/\WholeS B (X+2) (X+2) T (cN op t.sys bd j) wr (.slice ra0 R rc0) (.slice ka0 k kc0) (.slice a (cN op t.sys bd j) c)/\Below (X+2) w1 wr/\Hid (firstE ((eS op t.kind t.sys bd).take j)=0)) (fun u _=>M - (intOf u).toNat)
   case atStart=>exact⟨0,none,0,Nat.zero_le _,rfl,hO,hW0,hSo,firstE_nil⟩
   case round =>
    obtain⟨wq,hwq⟩:∃ wq,wq=wr:=⟨_,rfl⟩
    subst hwq
    clear hkI hO hSo hW0 hlt hk hso holt hXw
    obtain⟨i,sa0,sc0,hi,rfl,hOq,hWq,hSq,HZi⟩:=hrel
    have hsq:X+2<=wq.heap.size:=by have:=hSq.size;have:=Hs1.out;omega
    have hoq:=hOq.lt
    have hXq:=HB.out wq hSq
    by_cases hlt:i<M
    ·have hkI:(i:Int) < (M:Int):=by omega
     obtain⟨b,hb⟩:=someL (l:=t.sys) (k:=i) (by rw [<- HL.out.2.1];exact hlt)
     have hbr:=blk_br (List.mem_of_getElem? hb)
     have hbl:=blkL_len b.2
     have HBm:Hid (b∈t.sys):=List.mem_of_getElem? hb
     have HBi:Hid (t.sys[i]? = some b):=hb
     obtain⟨gs,offs,fa1,fc1,kb1,kbc1,hsa,_,h21,hF1,hK1⟩:=(HT.out wq hXq).sys.at hb
     cases hsa
     obtain⟨F,hF⟩:∃ F,F=b.1.length:=⟨_,rfl⟩
     obtain⟨K,hK⟩:∃ K,K=b.2.length:=⟨_,rfl⟩
     have HFK:Hid (F=b.1.length/\K=b.2.length):=⟨hF,hK⟩
     have HQ2:Hid (∀ W,Below wq.heap.size wq W->W.cell? ⟨gs,offs+i*2,none⟩=some (.slice fa1 F fc1)/\W.cell? ⟨gs,offs+i*2+1,none⟩=some (.slice kb1 K kbc1)):=fun W q=>by
      rw [hF,hK]
      have:=h21.keep q.size (q.block gs h21.lt)
      exact⟨this.c0,this.c1⟩
     have HKd2:Hid (KdT B wq (TmIn B wq) b.2 (.slice kb1 b.2.length kbc1)):=hK1
     have hbt:=HbT.out
     have hKb:K<=40000:=by omega
     have cF:=rrow_any (B:=B) true (di:Int) r b.1 bd (.slice fa1 F fc1) (.slice va LR vc) wq (by rw [hF];exact hF1) (HR.out wq hXq) (by omega) hrl hbd6 (by omega) (fun q h=>by have:=HBX.out q h;omega)
     have hf64:=HFl.out b (List.mem_of_getElem? hb)
     have hG64:(putRow (pfB true) (di:Int) r b.1 bd).1.length<=64:=putRow_len true _ _ _ _ hf64
     have HPc:=HFc.out b.1
     obtain⟨Pf,hPf⟩:∃ P,P=putRow (pfB true) (di:Int) r b.1 bd:=⟨_,rfl⟩
     rw [<- hPf] at cF HPc hG64
     have herb:0<=Pf.2/\Pf.2<=1000:=by
      have:=(Heb.out b.1 bd).2
      rw [HPc,cutP_er] at this
      exact this
     have HPe:Hid ((op.fc b.1 bd).2=Pf.2):=(by rw [HPc,cutP_er]:_=_)
     have HPf:Hid (Pf.2=0->(op.fc b.1 bd).1=if d then cutL ((di:Int) + (bd:Int)) Pf.1 else Pf.1):=fun h=>by rw [HPc];exact cut_row h
     have HSt:Hid (Pf.2=0->stayB op bd b.1 = !Pf.1.isEmpty):=fun h=>by
      unfold stayB
      rw [HPf.out h]
      cases d
      ·rfl
      ·show (!(cutL ((di:Int) + (bd:Int)) Pf.1).isEmpty)=_
       rw [cut_empty hG64]
     obtain⟨G,ge⟩:=Pf
     dsimp only at cF HPe HPf HSt hG64 herb
     clear HPc
     obtain⟨c0,c1⟩:=HQ2.out wq (Below.refl _ _)
     obtain⟨x0,x1,x2,x3,x4,x5,_⟩:=(HC.out wq hSq).1.cells
     have hmo:=moreK_le t.kind
     obtain⟨mo,hmo1⟩:∃ m,m=moreK t.kind:=⟨_,rfl⟩
     have Hmo:Hid (mo=moreK t.kind):=hmo1
     rw [<- hmo1] at hmo
     clear h21 hF1 hK1 hF hK hbl hb hPf hf64 hmo1
     go_wp2_with fail
     refine cF.mono ?_
     rintro e w4 ⟨v4,rfl,hO4,hb4⟩
     clear cF c0 c1 x0 x1 x2 x3 x4 x5
     obtain⟨fa4,fc4,rfl,_⟩:=id hO4
     obtain⟨F4,hF4⟩:∃ F,F=G.length:=⟨_,rfl⟩
     have HF4:Hid (F4=G.length):=hF4
     rw [<- hF4] at hO4 ⊢
     have hS4:Below (X+2) w1 w4:=hSq.trans (hb4.mono hsq)
     have hs4:=hb4.size
     clear hF4
     by_cases hge:ge=0
     rotate_left
     ·have g1:(ge == 0)=false:=by simpa using hge
      have g2:(ge != 0)=true:=by simpa using hge
      have hB1:eB op t.kind b bd=ge:=by rw [b_face (by rw [HPe.out];exact hge),HPe.out]
      have hRT:RT=badT ge:=HRe.out ge hge (by rw [e_br HOw.out HK0.out HBi.out HZi.out (by rw [hB1];exact hge),hB1])
      have cb:=rbad_any ge herb w4
      have hSv:Below (X+2) w1 w4:=hS4
      clear hO4 hOq hWq hS4
      go_wp2_with fail
      refine cb.mono ?_
      rintro e wv ⟨rfl,b3⟩
      clear cb
      replace hSv:=hSv.trans (b3.mono (by omega))
      have y2:=(HC.out wv hSv).2
      obtain⟨w8,hw8,y8,k8,e0,e1,e2,e3,e4,e5,g10,g11,g12,g13,g14,g15⟩:=zst y2 (.int .i64 (-ge)) (.int .i64 0) (.string ⟨#[]⟩) (.slice none 0 0) (.slice none 0 0) (.slice none 0 0)
      obtain⟨h0,h1,h2,h3,h4,h5,_⟩:=y8.cells
      have HT8:Hid (TmIn (OkS B X w8) w8 (badT ge) (.agg #[.int .i64 (-ge),.int .i64 0,.string ⟨#[]⟩,.slice none 0 0,.slice none 0 0,.slice none 0 0])):=badT_in _ _ herb
      have hX8:=HB.out wv hSv
      have b8:Below X w w8:=hX8.trans (k8.below (fun q hq=>by omega) (by have:=hX8.size;have:=HXs.out;omega))
      have H8:Hid (_=_):=hw8
      clear hw8 y2 y8 k8 hX8
      go_wp2_with fail
      rw [<- H8.out]
      exact bodyPost_ret (v:=.agg #[.int .i64 (-ge),.int .i64 0,.string ⟨#[]⟩,.slice none 0 0,.slice none 0 0,.slice none 0 0]) (by simp only [results,Tryz.results115];simp [go_sem,h0,h1,h2,h3,h4,h5]) rfl ⟨_,rfl,by rw [hRT];exact HT8.out,b8⟩
     subst hge
     have g1:((0:Int) != 0)=false:=by decide
     have hStay:stayB op bd b.1 = !G.isEmpty:=HSt.out rfl
     replace HPe:Hid ((op.fc b.1 bd).2=0):=HPe.out
     replace HPf:Hid ((op.fc b.1 bd).1=if d then cutL ((di:Int) + (bd:Int)) G else G):=HPf.out rfl
     have HSi:Hid (eB op t.kind b bd=0->firstE ((eS op t.kind t.sys bd).take (i+1))=0):=fun h=>by
      rw [firstE_step (eS_get HBi.out),if_pos HZi.out];exact h
     by_cases hz:F4=0
     ·subst hz
      obtain rfl:G=[]:=List.length_eq_zero_iff.1 HF4.out.symm
      have hst:stayB op bd b.1=false:=by rw [hStay];rfl
      have hcn:=cN_goes HBi.out hst
      have HZ1:=HSi.out (b_gone HPe.out hst)
      have hO5:=hOq.blw hb4
      have hW5:=hWq.blw hb4
      rw [<- hcn] at hO5 hW5
      go_wp2_with fail
      go_roundw
      case rel=>exact⟨i+1,_,_,by omega,by go_num,hO5,hW5,hS4,HZ1⟩
      case measure=>simp [intOf];omega
     ·have hz1:((F4:Int) == 0)=false:=by simp;omega
      have hst:stayB op bd b.1=true:=by
       rw [hStay]
       cases hg:G with
       | nil=>rw [hg] at HF4;exact absurd HF4.out hz
       | cons _ _=>rfl
      have HCn:Hid (cN op t.sys bd (i+1)=cN op t.sys bd i+1/\T.sys[cN op t.sys bd i]? = some (dB op t.kind b bd)):=⟨cN_stays HBi.out hst,by rw [HTs.out];exact dS_at HBi.out hst⟩
      have hcb:=cN_le op t.sys bd i
      obtain⟨cn,hcn⟩:∃ c,c=cN op t.sys bd i:=⟨_,rfl⟩
      rw [<- hcn] at hOq hWq HCn hcb
      obtain⟨G9,hG9⟩:∃ g,g=(op.fc b.1 bd).1:=⟨_,rfl⟩
      have HPg:Hid (G9=if d then cutL ((di:Int) + (bd:Int)) G else G):=hG9.trans HPf.out
      have hDB:dB op t.kind b bd=(G9,b.2.map fun x=>dT op x (bd+mo)):=by unfold dB;rw [<- hG9,<- Hmo.out]
      obtain⟨Br,hBr⟩:∃ B',B'=dB op t.kind b bd:=⟨_,rfl⟩
      have HBk0:Hid (Br.1=G9/\Br.2.length=K/\∀ (j:Nat) (x:Tm),b.2[j]? = some x->Br.2[j]? = some (dT op x (bd+mo))):=by
       rw [hBr,hDB];exact⟨rfl,by simp [HFK.out.2],fun j x h=>by rw [List.getElem?_map,h];rfl⟩
      have HBkd:Hid (∀ (j:Nat) (y:Tm),b.2[j]? = some y->firstE ((eBk op t.kind b bd).take j)=0->eT op y (bd+mo)≠0->eT op t bd=eT op y (bd+mo)):=fun j y hy h0 hne=>by
       rw [Hmo.out] at hne ⊢
       have h1:=b_kid HPe.out hst hy h0 hne
       rw [e_br HOw.out HK0.out HBi.out HZi.out (by rw [h1];exact hne),h1]
      have HBst:Hid (∀ (j:Nat) (y:Tm),b.2[j]? = some y->firstE ((eBk op t.kind b bd).take j)=0->eT op y (bd+mo)=0->firstE ((eBk op t.kind b bd).take (j+1))=0):=fun j y hy h0 he=>by
       have hg:(eBk op t.kind b bd)[j]? = some (eT op y (bd+moreK t.kind)):=by unfold eBk;rw [List.getElem?_map,hy];rfl
       rw [firstE_step hg,if_pos h0,<- Hmo.out];exact he
      have HBend:Hid (firstE ((eBk op t.kind b bd).take K)=0->firstE ((eS op t.kind t.sys bd).take (i+1))=0):=fun h=>by
       refine HSi.out (b_none HPe.out hst ?_)
       rwa [List.take_of_length_le (by unfold eBk;rw [List.length_map,<- HFK.out.2];exact Nat.le_refl _)] at h
      rw [<- hBr] at HCn
      obtain⟨p,hp⟩:∃ p,p=w4.heap.size:=⟨_,rfl⟩
      obtain⟨w6,hw6⟩:∃ W,W=w4.alloc (.cells #[.slice fa4 F4 fc4,.slice none 0 0] 40):=⟨_,rfl⟩
      have b6:Below w4.heap.size w4 w6:=by rw [hw6];exact belowA _ _
      have t6:Two w6 p (.slice fa4 F4 fc4) (.slice none 0 0):=⟨by rw [hw6,hp];exact heapNew _ _⟩
      have hB6:Below wq.heap.size wq w6:=bchain hb4 b6
      have hH6:HalfS B wq.heap.size p G [] w6 (.slice fa4 F4 fc4) (.slice none 0 0):=by
       exact⟨hO4.keep b6.size (fun q hq=>⟨hq.blw b6,(fun e=>by cases e),by have:=hq.lt;omega⟩) (fun q hq hs=>b6.block q hs),KOwS.nil _ _ _,by omega,fun q h=>by have:=HBX.out q h;omega⟩
      have hpn:wq.heap.size<=p:=by omega
      obtain⟨c0,c1⟩:=HQ2.out w6 hB6
      obtain⟨x0,x1,x2,x3,x4,x5,_⟩:=(HC.out w6 (hSq.trans (hB6.mono hsq))).1.cells
      have H6':Hid (_=_):=hw6
      have Hp:Hid (p=w4.heap.size):=hp
      clear hw6 hp b6 hO4 hcn hBr hDB hStay hS4 hG9
      go_upto_region 24 with fail
      rw [<- H6'.out]
      simp only [<- Hp.out]
      clear H6' Hp
      obtain⟨FB,hFB⟩:∃ f,f=Br.1.length:=⟨_,rfl⟩
      have HFB:Hid (FB=Br.1.length):=hFB
      clear hFB
      go_upto_if 121 with fail
      go_cut [] (fun wx=>∃ fa9 fc9,Two wx p (.slice fa9 FB fc9) (.slice none 0 0)/\HalfS B wq.heap.size p Br.1 [] wx (.slice fa9 FB fc9) (.slice none 0 0)/\Below wq.heap.size wq wx)
      case first=>as_aux_lemma =>
       cases d
       ·have e1:Br.1=G:=HBk0.out.1.trans HPg.out
        have e2:FB=F4:=by rw [HFB.out,HF4.out,e1]
        subst e2
        go_wp2_with fail
        go_meet
        rw [e1]
        exact⟨_,_,t6,hH6,hB6⟩
       ·have e1:Br.1=cutL ((di:Int) + (bd:Int)) G:=HBk0.out.1.trans HPg.out
        have wr1:wrap64 ((di:Int) + (bd:Int))=(di:Int) + (bd:Int):=by simp [wrap64];omega
        have cc:=rcut_any G ((di:Int) + (bd:Int)) (.slice fa4 F4 fc4) w6 hH6.row.row (by omega)
        obtain⟨Gc,hGc⟩:∃ G',G'=cutL ((di:Int) + (bd:Int)) G:=⟨_,rfl⟩
        rw [<- hGc] at e1 cc
        go_wp2_with fail
        refine cc.mono ?_
        rintro e w7 ⟨v7,rfl,hO7,b7⟩
        clear cc
        obtain⟨ra7,rc7,rfl⟩:=OwnsC.len hO7
        have e2:FB=Gc.length:=by rw [HFB.out,e1]
        rw [<- e2] at hO7 ⊢
        have t7:=t6.blw b7
        have hs6:=t6.lt
        obtain⟨w8,hw8⟩:∃ W,W=w7.setCell ⟨p,0,none⟩ (.slice ra7 FB rc7):=⟨_,rfl⟩
        have k8:Kn (fun q=>q≠p) w7 w8:=by rw [hw8];exact kn_set _ _ _ _
        have t8:Two w8 p (.slice ra7 FB rc7) (.slice none 0 0):=⟨by rw [hw8];exact set_blk t7.blk _⟩
        have hB8:Below wq.heap.size wq w8:=(hB6.trans (b7.mono (by have:=hB6.size;omega))).trans (k8.below (fun q hq=>by omega) (by have:=b7.size;have:=hB6.size;omega))
        have hv7:ClRow (OkN w6.heap.size w7) w7 Gc (.slice ra7 FB rc7):=by
         have:=OwnsC.okn hO7
         exact this
        have hH8:HalfS B wq.heap.size p Gc [] w8 (.slice ra7 FB rc7) (.slice none 0 0):=by
         refine⟨?_,KOwS.nil _ _ _,hpn,fun q h=>by have:=HBX.out q h;omega⟩
         have hne:∀ q,OkN w6.heap.size w7 q->q≠p:=fun q hq=>by have:=hq.1;omega
         exact hv7.keep k8.size (fun q hq=>⟨.inr ((hq.same (k8.block q (hne q hq) hq.lt)).mono (by have:=hB6.size;omega)),(fun e=>by cases e),hne q hq⟩) (fun q hq hs=>k8.block q (hne q hq) hs)
        obtain⟨z0,z1,zf⟩:=t7.cells
        have f0:=zf 0
        have H8:Hid (_=_):=hw8
        have E1:Hid (_=_):=e1
        clear hw8 k8 hv7 hO7 t7 zf e1 e2 hGc
        go_wp2_with fail
        rw [<- H8.out]
        go_meet
        rw [E1.out]
        exact⟨_,_,t8,hH8,hB8⟩
      case rest =>
      obtain⟨fa8,fc8,t8,hH8,hB8⟩:=hcut
      obtain⟨w8,hw8⟩:∃ W,W=wc:=⟨_,rfl⟩
      subst hw8
      clear c0 c1 x0 x1 x2 x3 x4 x5 t6 hH6 hB6
      obtain⟨c0,c1⟩:=HQ2.out w8 hB8
      obtain⟨x0,x1,x2,x3,x4,x5,_⟩:=(HC.out w8 (hSq.trans (hB8.mono hsq))).1.cells
      go_wp2_with fail
      clear c0 c1 x0 x1 x2 x3 x4 x5
      go_loopw [22] (fun u wr=>∃ (j:Nat) (a:Option Addr) (c:Nat),j<=K/\u=.int .i64 j/\Two wr p (.slice fa8 FB fc8) (.slice a j c)/\HalfS B wq.heap.size p Br.1 (Br.2.take j) wr (.slice fa8 FB fc8) (.slice a j c)/\Below wq.heap.size wq wr/\Hid (firstE ((eBk op t.kind b bd).take j)=0)) (fun u _=>K - (intOf u).toNat)
      case atStart=>exact⟨0,none,0,Nat.zero_le _,rfl,t8,hH8,hB8,firstE_nil⟩
      case round =>
       obtain⟨wo,hwo⟩:∃ wo,wo=wr:=⟨_,rfl⟩
       subst hwo
       clear t8 hH8 hB8
       obtain⟨j,ka9,kc9,hj,rfl,hO,hH,hSo,HZj⟩:=hrel
       have hso:=hSo.size
       have hSx:Below (X+2) w1 wo:=hSq.trans (hSo.mono hsq)
       have hXo:=HB.out wo hSx
       have holt:=hO.lt
       obtain⟨c0,c1⟩:=HQ2.out wo hSo
       obtain⟨x0,x1,x2,x3,x4,x5,_⟩:=(HC.out wo hSx).1.cells
       by_cases hlt2:j<K
       ·have hjI:(j:Int) < (K:Int):=by omega
        obtain⟨y,hy⟩:=someL (l:=b.2) (k:=j) (by rw [<- HFK.out.2];exact hlt2)
        have hz:=HBk0.out.2.2 j y hy
        have hby:blk y<blk t:=blk_sub HBm.out (List.mem_of_getElem? hy)
        have hoky:=HSd.out b HBm.out y (List.mem_of_getElem? hy)
        obtain⟨g1,off1,ra1,rc1,ka1,kc1,sa1,sc1,hka,_,h61,hty⟩:=HKd2.out.at hy
        cases hka
        have HzK':=rpT_kind Heb.out (bd:=bd+mo) (okx_kind hoky)
        have Hz0:Hid (eT op y (bd+mo)=0->rpT op y (bd+mo)=dT op y (bd+mo)):=fun h=>by unfold rpT;rw [if_pos h]
        have Hze:Hid (eT op y (bd+mo)≠0->rpT op y (bd+mo)=badT (eT op y (bd+mo))):=fun h=>by unfold rpT;rw [if_neg h]
        have Hek:Hid (eT op y (bd+mo)≠0->eT op t bd=eT op y (bd+mo)):=fun h=>HBkd.out j y hy HZj.out h
        have Hst:Hid (eT op y (bd+mo)=0->firstE ((eBk op t.kind b bd).take (j+1))=0):=fun h=>HBst.out j y hy HZj.out h
        obtain⟨z,hzz⟩:∃ z,z=rpT op y (bd+mo):=⟨_,rfl⟩
        obtain⟨ey,hey⟩:∃ e,e=eT op y (bd+mo):=⟨_,rfl⟩
        rw [<- hzz,<- hey] at HzK' Hz0 Hze
        rw [<- hey] at Hek Hst
        have HzK:Hid (z.kind<0↔ey≠0):=HzK'
        have HHc:Hid (∀ V,Below wo.heap.size wo V->Calls Tryz.prog 115 #[.agg #[.int .i64 y.kind,.int .i64 y.n,.string y.name,.slice ra1 y.r.length rc1,.slice ka1 y.kids.length kc1,.slice sa1 y.sys.length sc1],.int .i64 (di:Int),.slice va LR vc,.int .i64 ((bd+mo:Nat):Int),.bool d] V fun e w'=>∃ v',e=.returned v'/\TmIn (OkS B V.heap.size w') w' z v'/\Below V.heap.size V w'):=fun V q=>by
         rw [hzz]
         exact HIH.out B y (bd+mo) _ (.slice va LR vc) V (fun g h=>by have:=q.size;have:=HBX.out g h;omega) ((hty.blw hSo).blw q).value hoky (HR.out V (hXo.trans (q.mono (by have:=HXs.out;have:=hXo.size;omega)))) (by omega) (by omega) (by omega)
        have HQ6:Hid (∀ V,Below wo.heap.size wo V->Cs6 V g1 (off1+j*6) y ra1 rc1 ka1 kc1 sa1 sc1):=fun V q=>(h61.blw hSo).blw q
        have HX6:Hid (∀ V,Below wo.heap.size wo V->(V.cell? ⟨X,5,none⟩=some (.slice (some ⟨gs,offs,none⟩) M sc)/\V.cell? ⟨X,0,none⟩=some (.int .i64 kd))/\V.cell? ⟨gs,offs+i*2+1,none⟩=some (.slice (some ⟨g1,off1,none⟩) K kbc1)):=fun V q=>by
         have h1:=(HC.out V (hSx.trans (q.mono (by omega)))).1.cells
         exact⟨⟨h1.2.2.2.2.2.1,h1.1⟩,(HQ2.out V (hSo.trans (q.mono hso))).2⟩
        have wr2:IntKind.i64.wrap ((bd:Int) + (mo:Int))=(bd:Int) + (mo:Int):=by simp [IntKind.wrap,IntKind.bits,IntKind.signed];omega
        have cM:∀ V:World,Calls Tryz.prog 167 #[.int .i64 kd] V fun e w'=>e=.returned (.int .i64 (mo:Int))/\w'=V:=fun V=>by rw [Hmo.out,Hkd.out];exact rMore_any t.kind V
        have HcM:Hid (∀ V:World,Calls Tryz.prog 167 #[.int .i64 kd] V fun e w'=>e=.returned (.int .i64 (mo:Int))/\w'=V):=cM
        clear hty h61 hzz hoky hey HzK' cM hbt
        go_upto_region 29 with fail
        clear c0 c1 x0 x1 x2 x3 x4 x5
        have hS1:Below wo.heap.size wo wo:=Below.refl _ _
        go_cut [23] (fun sl wx=>∃ o7 ra2 rc2 ka2 kc2 sa2 sc2,sl=.pointer (some ⟨o7,0,none⟩)/\Six wx o7 (.int .i64 z.kind) (.int .i64 z.n) (.string z.name) (.slice ra2 z.r.length rc2) (.slice ka2 z.kids.length kc2) (.slice sa2 z.sys.length sc2)/\TmIn (OkS B wo.heap.size wx) wx z (.agg #[.int .i64 z.kind,.int .i64 z.n,.string z.name,.slice ra2 z.r.length rc2,.slice ka2 z.kids.length kc2,.slice sa2 z.sys.length sc2])/\Below wo.heap.size wo wx)
        case first=>as_aux_lemma =>
         refine wp_region_held_drew (S:=fun V=>Below wo.heap.size wo V) (by kernel_rfl) (hS1.drew) (fun hS=>?_)
         obtain⟨wd,hwd⟩:∃ V,V=wo.drew:=⟨_,rfl⟩
         rw [<- hwd] at hS ⊢
         clear hwd
         refine zk 0 (.pointer (some ⟨X,5,none⟩)) rfl (by rfl) (fun w hS=>by go_simp) hS ?_
         try simp only [Act.put,zg1,zg2,zg3,zs1,zs2,zs3]
         refine zk 1 (.slice (some ⟨gs,offs,none⟩) M sc) rfl (by rfl) (fun w hS=>by have e:=(HX6.out w hS).1.1;go_simp) hS ?_
         try simp only [Act.put,zg1,zg2,zg3,zs1,zs2,zs3]
         refine zk 2 (.int .i64 i) rfl (by rfl) (fun w hS=>by go_simp) hS ?_
         try simp only [Act.put,zg1,zg2,zg3,zs1,zs2,zs3]
         refine zk 3 (.pointer (some ⟨gs,offs+i*2,none⟩)) rfl (by rfl) (fun w hS=>by go_simp) hS ?_
         try simp only [Act.put,zg1,zg2,zg3,zs1,zs2,zs3]
         refine zk 4 (.pointer (some ⟨gs,offs+i*2+1,none⟩)) rfl (by rfl) (fun w hS=>by go_simp) hS ?_
         try simp only [Act.put,zg1,zg2,zg3,zs1,zs2,zs3]
         refine zk 5 (.slice (some ⟨g1,off1,none⟩) K kbc1) rfl (by rfl) (fun w hS=>by have e:=(HX6.out w hS).2;go_simp) hS ?_
         try simp only [Act.put,zg1,zg2,zg3,zs1,zs2,zs3]
         refine zk 6 (.int .i64 j) rfl (by rfl) (fun w hS=>by go_simp) hS ?_
         try simp only [Act.put,zg1,zg2,zg3,zs1,zs2,zs3]
         refine zk 7 (.pointer (some ⟨g1,off1+j*6,none⟩)) rfl (by rfl) (fun w hS=>by go_simp) hS ?_
         try simp only [Act.put,zg1,zg2,zg3,zs1,zs2,zs3]
         refine zk 8 (.agg #[.int .i64 y.kind,.int .i64 y.n,.string y.name,.slice ra1 y.r.length rc1,.slice ka1 y.kids.length kc1,.slice sa1 y.sys.length sc1]) rfl (by rfl) (fun w hS=>by obtain⟨_,c0,c1,c2,c3,c4,c5⟩:=HQ6.out w hS;go_simp) hS ?_
         try simp only [Act.put,zg1,zg2,zg3,zs1,zs2,zs3]
         refine zk 9 (.int .i64 (di:Int)) rfl (by rfl) (fun w hS=>by go_simp) hS ?_
         try simp only [Act.put,zg1,zg2,zg3,zs1,zs2,zs3]
         refine zk 10 (.slice va LR vc) rfl (by rfl) (fun w hS=>by go_simp) hS ?_
         try simp only [Act.put,zg1,zg2,zg3,zs1,zs2,zs3]
         refine zk 11 (.int .i64 (bd:Int)) rfl (by rfl) (fun w hS=>by go_simp) hS ?_
         try simp only [Act.put,zg1,zg2,zg3,zs1,zs2,zs3]
         refine zk 12 (.pointer (some ⟨X,0,none⟩)) rfl (by rfl) (fun w hS=>by go_simp) hS ?_
         try simp only [Act.put,zg1,zg2,zg3,zs1,zs2,zs3]
         refine zk 13 (.int .i64 kd) rfl (by rfl) (fun w hS=>by have e:=(HX6.out w hS).1.2;go_simp) hS ?_
         try simp only [Act.put,zg1,zg2,zg3,zs1,zs2,zs3]
         refine zk 16 (.bool d) rfl (by rfl) (fun w hS=>by go_simp) hS ?_
         try simp only [Act.put,zg1,zg2,zg3,zs1,zs2,zs3]
         refine wpAnyH_ready (rs:=[14,18]) (by kernel_rfl) (by simp) ?_
         refine ready_cons rfl (fun KK hKK=>?_) (ready_cons rfl (fun KK hKK=>?_) AllReadyH.nil)
         ·skip
          refine⟨?_⟩
          have cc:=HcM.out wd
          go_simp
          refine cc.mono ?_
          rintro e wy ⟨rfl,hwy⟩
          replace hwy:=hwy.symm
          subst hwy
          clear cc
          refine hKK.out _ _ hS (fun hS=>?_)
          clear hKK KK
          try simp only [Act.put,zg1,zg2,zg3,zs1,zs2,zs3]
          refine zk 15 (.int .i64 ((bd+mo:Nat):Int)) rfl (by rfl) (fun w hS=>by have e2:=wr2;go_simp) hS ?_
          try simp only [Act.put,zg1,zg2,zg3,zs1,zs2,zs3]
          refine wpAnyH_ready (rs:=[17,18]) (by kernel_rfl) (by simp) ?_
          refine ready_cons rfl (fun KK hKK=>?_) (ready_cons rfl (fun KK hKK=>?_) AllReadyH.nil)
          ·skip
           refine⟨?_⟩
           have cc:=HHc.out wd hS
           go_simp
           refine cc.mono ?_
           rintro e u1 ⟨v2,rfl,hv2,hbP⟩
           obtain⟨ra2,rc2,ka2,kc2,sa2,sc2,rfl,ht2⟩:=hv2.form
           have htv:=ht2.value
           have hS0':=hS.size
           have hSu1:Below wo.heap.size wo u1:=hS.trans (hbP.mono hS.size)
           clear cc ht2 hv2
           refine hKK.out _ _ hSu1 (fun hS=>?_)
           clear hKK KK
           try simp only [Act.put,zg1,zg2,zg3,zs1,zs2,zs3]
           refine zr 18 rfl (fun KK hKK=>?_)
           obtain⟨u2,hu2⟩:∃ W,W=u1.alloc (.cells #[.int .i64 0,.int .i64 0,.string ⟨#[]⟩,.slice none 0 0,.slice none 0 0,.slice none 0 0] 26):=⟨_,rfl⟩
           have bu2:Below u1.heap.size u1 u2:=by rw [hu2];exact belowA _ _
           have su2:u2.heap.size=u1.heap.size+1:=by rw [hu2];simp
           have hZ:Six u2 u1.heap.size (.int .i64 0) (.int .i64 0) (.string ⟨#[]⟩) (.slice none 0 0) (.slice none 0 0) (.slice none 0 0):=⟨by rw [hu2];exact heapNew _ _⟩
           have hge:=hS.size
           have hSu2:Below wo.heap.size wo u2:=hS.trans (bu2.mono hS.size)
           have Hu2:Hid (_=_):=hu2
           clear hu2
           refine⟨?_⟩
           go_simp
           rw [<- Hu2.out]
           refine hKK.out _ _ hSu2 (fun hS=>?_)
           clear hKK KK
           try simp only [Act.put,zg1,zg2,zg3,zs1,zs2,zs3]
           obtain⟨wf,hwf,zz2,kz,o0,o1,o2,o3,o4,o5,f0,f1,f2,f3,f4,f5⟩:=zst hZ (.int .i64 z.kind) (.int .i64 z.n) (.string z.name) (.slice ra2 z.r.length rc2) (.slice ka2 z.kids.length kc2) (.slice sa2 z.sys.length sc2)
           have HTm:Hid (TmIn (OkS B wo.heap.size wf) wf z (.agg #[.int .i64 z.kind,.int .i64 z.n,.string z.name,.slice ra2 z.r.length rc2,.slice ka2 z.kids.length kc2,.slice sa2 z.sys.length sc2])):=((htv.keep bu2.size (fun q hq=>(⟨hq.blw bu2,hq.lt⟩:OkS B _ u2 q/\q<_)) (fun q _ hs=>bu2.block q hs)).keep kz.size (fun q hq=>(hq.1.same (kz.block q (by have:=hq.2;omega) hq.1.lt)).mono (by omega)) (fun q hq hs=>kz.block q (by have:=hq.2;omega) hs))
           have hS5:Below wo.heap.size wo wf:=hS.trans (kz.below (fun q hq=>by omega) hS.size)
           have Hwf:Hid (_=_):=hwf
           clear hwf kz htv
           refine zr 19 rfl (fun KK hKK=>?_)
           refine⟨?_⟩
           go_simp
           rw [<- Hwf.out]
           refine hKK.out _ _ hS5 (fun hS=>?_)
           clear hKK KK
           try simp only [Act.put,zg1,zg2,zg3,zs1,zs2,zs3]
           refine wpAnyH_done (by kernel_rfl) ?_ _
           go_wp2_with fail
           go_meet
           exact⟨_,_,_,_,_,_,_,rfl,zz2,HTm.out,hS⟩
          ·skip
           obtain⟨u1,hu1⟩:∃ W,W=wd.alloc (.cells #[.int .i64 0,.int .i64 0,.string ⟨#[]⟩,.slice none 0 0,.slice none 0 0,.slice none 0 0] 26):=⟨_,rfl⟩
           have bu1:Below wd.heap.size wd u1:=by rw [hu1];exact belowA _ _
           have su1:u1.heap.size=wd.heap.size+1:=by rw [hu1];simp
           have hZ:Six u1 wd.heap.size (.int .i64 0) (.int .i64 0) (.string ⟨#[]⟩) (.slice none 0 0) (.slice none 0 0) (.slice none 0 0):=⟨by rw [hu1];exact heapNew _ _⟩
           have hge:=hS.size
           have hSu1:Below wo.heap.size wo u1:=hS.trans (bu1.mono hS.size)
           have Hu1:Hid (_=_):=hu1
           clear hu1
           refine⟨?_⟩
           go_simp
           rw [<- Hu1.out]
           refine hKK.out _ _ hSu1 (fun hS=>?_)
           clear hKK KK
           try simp only [Act.put,zg1,zg2,zg3,zs1,zs2,zs3]
           refine zr 17 rfl (fun KK hKK=>?_)
           refine⟨?_⟩
           have cc:=HHc.out u1 hS
           go_simp
           refine cc.mono ?_
           rintro e u2 ⟨v2,rfl,hv2,hbP⟩
           obtain⟨ra2,rc2,ka2,kc2,sa2,sc2,rfl,ht2⟩:=hv2.form
           have htv:=ht2.value
           have hS0':=hS.size
           have hSu2:Below wo.heap.size wo u2:=hS.trans (hbP.mono hS.size)
           clear cc ht2 hv2
           refine hKK.out _ _ hSu2 (fun hS=>?_)
           clear hKK KK
           try simp only [Act.put,zg1,zg2,zg3,zs1,zs2,zs3]
           have hZ:=hZ.blw hbP
           obtain⟨wf,hwf,zz2,kz,o0,o1,o2,o3,o4,o5,f0,f1,f2,f3,f4,f5⟩:=zst hZ (.int .i64 z.kind) (.int .i64 z.n) (.string z.name) (.slice ra2 z.r.length rc2) (.slice ka2 z.kids.length kc2) (.slice sa2 z.sys.length sc2)
           have HTm:Hid (TmIn (OkS B wo.heap.size wf) wf z (.agg #[.int .i64 z.kind,.int .i64 z.n,.string z.name,.slice ra2 z.r.length rc2,.slice ka2 z.kids.length kc2,.slice sa2 z.sys.length sc2])):=(htv.keep kz.size (fun q hq=>(hq.same (kz.block q (Or.elim hq (fun hq=>by have:=HBX.out q hq.1;omega) (fun hq=>by have:=hq.1;omega)) hq.lt)).mono (by omega)) (fun q hq hs=>kz.block q (Or.elim hq (fun hq=>by have:=HBX.out q hq.1;omega) (fun hq=>by have:=hq.1;omega)) hs))
           have hS5:Below wo.heap.size wo wf:=hS.trans (kz.below (fun q hq=>by omega) hS.size)
           have Hwf:Hid (_=_):=hwf
           clear hwf kz htv
           refine zr 19 rfl (fun KK hKK=>?_)
           refine⟨?_⟩
           go_simp
           rw [<- Hwf.out]
           refine hKK.out _ _ hS5 (fun hS=>?_)
           clear hKK KK
           try simp only [Act.put,zg1,zg2,zg3,zs1,zs2,zs3]
           refine wpAnyH_done (by kernel_rfl) ?_ _
           go_wp2_with fail
           go_meet
           exact⟨_,_,_,_,_,_,_,rfl,zz2,HTm.out,hS⟩
         ·skip
          obtain⟨u1,hu1⟩:∃ W,W=wd.alloc (.cells #[.int .i64 0,.int .i64 0,.string ⟨#[]⟩,.slice none 0 0,.slice none 0 0,.slice none 0 0] 26):=⟨_,rfl⟩
          have bu1:Below wd.heap.size wd u1:=by rw [hu1];exact belowA _ _
          have su1:u1.heap.size=wd.heap.size+1:=by rw [hu1];simp
          have hZ:Six u1 wd.heap.size (.int .i64 0) (.int .i64 0) (.string ⟨#[]⟩) (.slice none 0 0) (.slice none 0 0) (.slice none 0 0):=⟨by rw [hu1];exact heapNew _ _⟩
          have hge:=hS.size
          have hSu1:Below wo.heap.size wo u1:=hS.trans (bu1.mono hS.size)
          have Hu1:Hid (_=_):=hu1
          clear hu1
          refine⟨?_⟩
          go_simp
          rw [<- Hu1.out]
          refine hKK.out _ _ hSu1 (fun hS=>?_)
          clear hKK KK
          try simp only [Act.put,zg1,zg2,zg3,zs1,zs2,zs3]
          refine zr 14 rfl (fun KK hKK=>?_)
          refine⟨?_⟩
          have cc:=HcM.out u1
          go_simp
          refine cc.mono ?_
          rintro e wy ⟨rfl,hwy⟩
          replace hwy:=hwy.symm
          subst hwy
          clear cc
          refine hKK.out _ _ hS (fun hS=>?_)
          clear hKK KK
          try simp only [Act.put,zg1,zg2,zg3,zs1,zs2,zs3]
          refine zk 15 (.int .i64 ((bd+mo:Nat):Int)) rfl (by rfl) (fun w hS=>by have e2:=wr2;go_simp) hS ?_
          try simp only [Act.put,zg1,zg2,zg3,zs1,zs2,zs3]
          refine zr 17 rfl (fun KK hKK=>?_)
          refine⟨?_⟩
          have cc:=HHc.out u1 hS
          go_simp
          refine cc.mono ?_
          rintro e u2 ⟨v2,rfl,hv2,hbP⟩
          obtain⟨ra2,rc2,ka2,kc2,sa2,sc2,rfl,ht2⟩:=hv2.form
          have htv:=ht2.value
          have hS0':=hS.size
          have hSu2:Below wo.heap.size wo u2:=hS.trans (hbP.mono hS.size)
          clear cc ht2 hv2
          refine hKK.out _ _ hSu2 (fun hS=>?_)
          clear hKK KK
          try simp only [Act.put,zg1,zg2,zg3,zs1,zs2,zs3]
          have hZ:=hZ.blw hbP
          obtain⟨wf,hwf,zz2,kz,o0,o1,o2,o3,o4,o5,f0,f1,f2,f3,f4,f5⟩:=zst hZ (.int .i64 z.kind) (.int .i64 z.n) (.string z.name) (.slice ra2 z.r.length rc2) (.slice ka2 z.kids.length kc2) (.slice sa2 z.sys.length sc2)
          have HTm:Hid (TmIn (OkS B wo.heap.size wf) wf z (.agg #[.int .i64 z.kind,.int .i64 z.n,.string z.name,.slice ra2 z.r.length rc2,.slice ka2 z.kids.length kc2,.slice sa2 z.sys.length sc2])):=(htv.keep kz.size (fun q hq=>(hq.same (kz.block q (Or.elim hq (fun hq=>by have:=HBX.out q hq.1;omega) (fun hq=>by have:=hq.1;omega)) hq.lt)).mono (by omega)) (fun q hq hs=>kz.block q (Or.elim hq (fun hq=>by have:=HBX.out q hq.1;omega) (fun hq=>by have:=hq.1;omega)) hs))
          have hS5:Below wo.heap.size wo wf:=hS.trans (kz.below (fun q hq=>by omega) hS.size)
          have Hwf:Hid (_=_):=hwf
          clear hwf kz htv
          refine zr 19 rfl (fun KK hKK=>?_)
          refine⟨?_⟩
          go_simp
          rw [<- Hwf.out]
          refine hKK.out _ _ hS5 (fun hS=>?_)
          clear hKK KK
          try simp only [Act.put,zg1,zg2,zg3,zs1,zs2,zs3]
          refine wpAnyH_done (by kernel_rfl) ?_ _
          go_wp2_with fail
          go_meet
          exact⟨_,_,_,_,_,_,_,rfl,zz2,HTm.out,hS⟩
        case rest =>
        obtain⟨o7,ra2,rc2,ka2,kc2,sa2,sc2,rfl,nv,hzv,hbv⟩:=hcut
        obtain⟨wv,hwv⟩:∃ W,W=wc:=⟨_,rfl⟩
        subst hwv
        by_cases hze:ey=0
        rotate_left
        ·have hzd:decide (z.kind<0)=true:=decide_eq_true (HzK.out.2 hze)
         have hRT:RT=z:=by rw [Hze.out hze];exact HRe.out ey hze (Hek.out hze)
         have hSv:Below (X+2) w1 wv:=hSx.trans (hbv.mono (by have:=hSx.size;omega))
         obtain⟨n0,n1,n2,n3,n4,n5,_⟩:=nv.cells
         clear hO hH hOq hWq
         have y2:=(HC.out wv hSv).2
         obtain⟨w8,hw8,y8,k8,e0,e1,e2,e3,e4,e5,g10,g11,g12,g13,g14,g15⟩:=zst y2 (.int .i64 z.kind) (.int .i64 z.n) (.string z.name) (.slice ra2 z.r.length rc2) (.slice ka2 z.kids.length kc2) (.slice sa2 z.sys.length sc2)
         obtain⟨h0,h1,h2,h3,h4,h5,_⟩:=y8.cells
         have HT8:Hid (TmIn (OkS B X w8) w8 z (.agg #[.int .i64 z.kind,.int .i64 z.n,.string z.name,.slice ra2 z.r.length rc2,.slice ka2 z.kids.length kc2,.slice sa2 z.sys.length sc2])):=by
          have hs9:=HXs.out
          have hsz:=hSv.size
          have hs10:=Hs1.out
          have hwo:X+2<=wo.heap.size:=by have:=hSo.size;omega
          have hne:∀ q,OkS B wo.heap.size wv q->q≠X+1:=fun q hq=>Or.elim hq (fun hq=>by have:=HBX.out q hq.1;omega) (fun hq=>by have:=hq.1;omega)
          exact hzv.keep k8.size (fun q hq=>(hq.same (k8.block q (hne q hq) hq.lt)).mono (by omega)) (fun q hq hs=>k8.block q (hne q hq) hs)
         have hX8:=HB.out wv hSv
         have b8:Below X w w8:=hX8.trans (k8.below (fun q hq=>by omega) (by have:=hX8.size;have:=HXs.out;omega))
         have H8:Hid (_=_):=hw8
         clear hw8 y2 y8 k8 hX8
         go_wp2_with fail
         rw [<- H8.out]
         exact bodyPost_ret (v:=.agg #[.int .i64 z.kind,.int .i64 z.n,.string z.name,.slice ra2 z.r.length rc2,.slice ka2 z.kids.length kc2,.slice sa2 z.sys.length sc2]) (by simp only [results,Tryz.results115];simp [go_sem,h0,h1,h2,h3,h4,h5]) rfl ⟨_,rfl,by rw [hRT];exact HT8.out,b8⟩
        subst hze
        have hzd:decide (z.kind<0)=false:=decide_eq_false (fun h=>HzK.out.1 h rfl)
        rw [<- Hz0.out rfl] at hz
        have HZ1:=Hst.out rfl
        have hnx:=hH.next (u:=(.int .i64 z.kind,.int .i64 z.n,.string z.name,.slice ra2 z.r.length rc2,.slice ka2 z.kids.length kc2,.slice sa2 z.sys.length sc2)) 23 hso holt hbv hzv (by rw [List.length_take];omega)
        obtain⟨w3,hw3⟩:∃ W,W=wv.alloc (.cells #[.int .i64 z.kind,.int .i64 z.n,.string z.name,.slice ra2 z.r.length rc2,.slice ka2 z.kids.length kc2,.slice sa2 z.sys.length sc2] 26):=⟨_,rfl⟩
        dsimp only at hnx
        rw [<- hw3] at hnx
        obtain⟨vk4,w5,hrun,hH4,hB4,ho4⟩:=hnx
        rw [show Br.2.take j ++ [z]=Br.2.take (j+1) by rw [List.take_add_one,hz];rfl] at hH4
        obtain⟨ka4,kc4,hvk4⟩:=hH4.kids.len
        rw [show (Br.2.take (j+1)).length=j+1 by rw [List.length_take];have:=some_lt hz;omega] at hvk4
        subst hvk4
        have hO5:Two w5 p (.slice fa8 FB fc8) (.slice ka9 j kc9):=⟨ho4.trans hO.blk⟩
        obtain⟨w7,hw7⟩:∃ W,W=w5.setCell ⟨p,1,none⟩ (.slice ka4 (j+1) kc4):=⟨_,rfl⟩
        have k7:Kn (fun q=>q≠p) w5 w7:=by rw [hw7];exact kn_set _ _ _ _
        have hO7:Two w7 p (.slice fa8 FB fc8) (.slice ka4 (j+1) kc4):=by rw [hw7];exact hO5.set1 _
        have hH7:=hH4.set k7
        have hS7:Below wq.heap.size wq w7:=hSo.trans (hB4.trans (k7.below (fun q hq=>by omega) (by have:=hB4.size;omega)))
        obtain⟨n0,n1,n2,n3,n4,n5,_⟩:=nv.cells
        have q4:=(hO.blw hbv).cells.2.1
        have q5:=hO5.cells.2.1
        have f4:=hO5.cells.2.2 1
        have H3:Hid (_=_):=hw3
        have H7:Hid (_=_):=hw7
        clear hw3 hw7 hO5 hH4 ho4 k7 hzv nv hbv
        go_wp2_with (at_builtin;rw [<- H3.out];refine wpList_append_run rfl _ _ _ rfl _ _ _ _ rfl rfl hrun ?_)
        rw [<- H7.out]
        go_roundw
        case rel=>exact⟨j+1,_,_,by omega,by go_num,hO7,hH7,hS7,HZ1⟩
        case measure=>simp [intOf];omega
       ·have hjI:¬ (j:Int) < (K:Int):=by omega
        obtain rfl:j=K:=by omega
        have HZ1:=HBend.out HZj.out
        rw [List.take_of_length_le (by rw [HBk0.out.2.1];exact Nat.le_refl _)] at hH
        have hnx:=hWq.next 24 HCn.out.2 hsq hoq hSo hH (by omega)
        obtain⟨w7,hw7⟩:∃ W,W=wo.alloc (.cells #[.slice fa8 FB fc8,.slice ka9 j kc9] 40):=⟨_,rfl⟩
        rw [<- hw7] at hnx
        obtain⟨vs8,w8,hrun,hW8,hB8,ho8⟩:=hnx
        obtain⟨sa8,sc8,hvs⟩:=hW8.sys.len
        rw [show (T.sys.take (cn+1)).length=cn+1 by rw [List.length_take];have:=some_lt HCn.out.2;omega] at hvs
        subst hvs
        have hO8:Six w8 (X+2) (.int .i64 kd) (.int .i64 tn) (.string tm) (.slice ra0 R rc0) (.slice ka0 k kc0) (.slice sa0 cn sc0):=⟨ho8.trans hOq.blk⟩
        obtain⟨w9,hw9⟩:∃ W,W=w8.setCell ⟨X+2,5,none⟩ (.slice sa8 (cn+1) sc8):=⟨_,rfl⟩
        have k9:Kn (fun q=>q≠X+2) w8 w9:=by rw [hw9];exact kn_set _ _ _ _
        have hO9:Six w9 (X+2) (.int .i64 kd) (.int .i64 tn) (.string tm) (.slice ra0 R rc0) (.slice ka0 k kc0) (.slice sa8 (cn+1) sc8):=by rw [hw9];exact hO8.set5 _
        have hW9:=hW8.set k9
        have hS9:Below (X+2) w1 w9:=(hSq.trans hB8).trans (k9.below (fun q hq=>by omega) (by have:=hB8.size;omega))
        have q0:=(hOq.blw hSo).cells.2.2.2.2.2.1
        have q1:=hO.cells.1
        have q2:=hO.cells.2.1
        have q8:=hO8.cells.2.2.2.2.2.1
        have f8:=hO8.cells.2.2.2.2.2.2 5
        have H7:Hid (_=_):=hw7
        have H9:Hid (_=_):=hw9
        rw [<- HCn.out.1] at hO9 hW9
        have HG9:Hid (cN op t.sys bd (i+1)=cn+1):=HCn.out.1
        clear hw7 hw9 hO8 hW8 hH k9 hB8 ho8
        go_wp2_with (at_builtin;rw [<- H7.out];refine wpList_append_run rfl _ _ _ rfl _ _ _ _ rfl rfl hrun ?_)
        rw [<- H9.out]
        go_roundw
        case rel=>exact⟨i+1,_,_,by omega,by go_num,hO9,hW9,hS9,HZ1⟩
        case measure=>simp [intOf];omega
    ·have hkI:¬ (i:Int) < (M:Int):=by omega
     obtain rfl:i=M:=by omega
     have hRT:RT=T:=HRz.out (e_none HOw.out HK0.out (by
      have h:=HZi.out
      rwa [List.take_of_length_le (by rw [eS_len,<- HL.out.2.1];exact Nat.le_refl _)] at h))
     have hcE:cN op t.sys bd i=T.sys.length:=by rw [HL.out.2.1,HTs.out];exact cN_end op t.kind t.sys bd
     rw [hcE] at hOq hWq
     obtain⟨Q,hQ⟩:∃ Q,Q=T.sys.length:=⟨_,rfl⟩
     rw [<- hQ] at hOq
     have y2:=(HC.out wq hSq).2
     obtain⟨x0,x1,x2,x3,x4,x5,_⟩:=(HC.out wq hSq).1.cells
     obtain⟨a0,a1,a2,a3,a4,a5,_⟩:=hOq.cells
     obtain⟨w8,hw8,y8,k8,e0,e1,e2,e3,e4,e5,g0,g1,g2,g3,g4,g5⟩:=zst y2 (.int .i64 kd) (.int .i64 tn) (.string tm) (.slice ra0 R rc0) (.slice ka0 k kc0) (.slice sa0 Q sc0)
     obtain⟨h0,h1,h2,h3,h4,h5,_⟩:=y8.cells
     have HT8:Hid (TmIn (OkS B X w8) w8 T (.agg #[.int .i64 kd,.int .i64 tn,.string tm,.slice ra0 R rc0,.slice ka0 k kc0,.slice sa0 Q sc0])):=by
      have hT:=hWq.term (by rw [HTk.out.1];exact HI.out.1) (by rw [HTk.out.2.1];exact HI.out.2)
      rw [HTk.out.1,HTk.out.2.1,HTk.out.2.2,<- Hkd.out,<- Htn.out,<- Htm.out,<- hQ] at hT
      have hne:∀ q,OkS B (X+2) wq q->q≠X+1:=fun q hq=>Or.elim hq (fun hq=>by have:=HBX.out q hq.1;omega) (fun hq=>by have:=hq.1;omega)
      exact hT.keep k8.size (fun q hq=>(hq.same (k8.block q (hne q hq) hq.lt)).mono (by omega)) (fun q hq hs=>k8.block q (hne q hq) hs)
     have b8:Below X w w8:=hXq.trans (k8.below (fun q hq=>by omega) (by have:=hXq.size;have:=HXs.out;omega))
     have H8:Hid (_=_):=hw8
     clear hw8 y2 y8 k8 hWq hOq hcE hQ
     go_wp2_with fail
     rw [<- H8.out]
     exact bodyPost_ret (v:=.agg #[.int .i64 kd,.int .i64 tn,.string tm,.slice ra0 R rc0,.slice ka0 k kc0,.slice sa0 Q sc0]) (by simp only [results,Tryz.results115];simp [go_sem,h0,h1,h2,h3,h4,h5]) rfl ⟨_,rfl,by first | exact HT8.out | (rw [hRT];exact HT8.out),b8⟩
theorem rq_any {d:Bool} {di:Nat} {r:List C} {op:DOp} (hop:op=refOp d (di:Int) r) (hi24:di<=1000000) (hrl:r.length<=40000):∀ N:Nat,RqC d di r op N
 | 0=>fun B t bd v vr w _ _ _ _ hN=>by have:=blk_pos t;omega
 | N+1=>rq_step hop hi24 hrl N (rq_any hop hi24 hrl N)
end Go.Proofs.YtblbhmnahoiecaaGreat
