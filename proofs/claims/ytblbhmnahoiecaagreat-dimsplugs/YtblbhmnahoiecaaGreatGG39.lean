/- A formula in a dimension's place, and a term in a variable's: what is told of them. -/
import Derived.Test.YtblbhmnahoiecaaGreatGG38
import Derived.Test.YtblbhmnahoiecaaGreatGG31
import Derived.Test.YtblbhmnahoiecaaGreatGG24
set_option linter.unusedVariables false
set_option linter.unusedSimpArgs false
set_option maxRecDepth 100000
set_option maxHeartbeats 8000000
namespace Go.Proofs.YtblbhmnahoiecaaGreat
open Go.RowKit
theorem cn_d {o:DOp} {n:Int}:∀ (N:Nat) (t:Tm) (bv bd:Nat),blk t≤N→cnP n (dT o t bd) bv≤cnP n t bv
 | 0,t,bv,bd,h=>by have:=blk_pos t;omega
 | N+1,t,bv,bd,h=>by
  obtain⟨k,m,nm,r,kids,sys⟩:=t
  rw [d_eq,cn_eq,cn_eq n (.mk k m nm r kids sys)]
  dsimp only
  have h1:∀ (l:List Tm) (j:Nat),(∀ x∈l,x∈kids)→((l.zipIdx j).map fun p=>cnP n (dT o p.1 (bd+bdK k p.2)) (bv+bvK k p.2)).sum≤((l.zipIdx j).map fun p=>cnP n p.1 (bv+bvK k p.2)).sum:=by
   intro l
   induction l with
   | nil=>intro j _;simp
   | cons x l ih =>
    intro j hl
    have g1:=ih (j+1) (fun y hy=>hl y (List.mem_cons_of_mem _ hy))
    have g2:=cn_d (o:=o) (n:=n) N x (bv+bvK k j) (bd+bdK k j) (by have:=blk_kid (t:=.mk k m nm r kids sys) (hl x (by simp));omega)
    simp only [List.zipIdx_cons,List.map_cons,List.sum_cons]
    omega
  have h2:(cnK n k (dK o k kids bd) bv).sum≤(cnK n k kids bv).sum:=by
   have e:cnK n k (dK o k kids bd) bv=(kids.zipIdx).map fun p=>cnP n (dT o p.1 (bd+bdK k p.2)) (bv+bvK k p.2):=by
    unfold cnK dK
    refine List.ext_getElem? fun i=>?_
    simp only [List.getElem?_map,List.getElem?_zipIdx]
    cases kids[i]? <;> simp
   rw [e]
   exact h1 kids 0 (fun _ h=>h)
  have h3:∀ (l:List Tm),(∀ x∈l,∃ b∈sys,x∈b.2)→(cnL n (l.map fun x=>dT o x (bd+moreK k)) bv).sum≤(cnL n l bv).sum:=by
   intro l
   induction l with
   | nil=>intro _;simp [cnL]
   | cons x l ih =>
    intro hl
    have g1:=ih (fun y hy=>hl y (List.mem_cons_of_mem _ hy))
    obtain⟨b,hb,hx⟩:=hl x (by simp)
    have g2:=cn_d (o:=o) (n:=n) N x bv (bd+moreK k) (by have:=blk_sub (t:=.mk k m nm r kids sys) hb hx;omega)
    unfold cnL at g1 ⊢
    simp only [List.map_cons,List.sum_cons]
    omega
  have h4:∀ (l:List (List C × List Tm)),(∀ b∈l,b∈sys)→((dS o k l bd).map fun b=>(cnL n b.2 bv).sum).sum≤(l.map fun b=>(cnL n b.2 bv).sum).sum:=by
   intro l
   induction l with
   | nil=>intro _;simp [dS]
   | cons b l ih =>
    intro hl
    have g1:=ih (fun y hy=>hl y (List.mem_cons_of_mem _ hy))
    have g2:=h3 b.2 (fun x hx=>⟨b,hl b (by simp),hx⟩)
    unfold dS at g1 ⊢
    rw [List.filter_cons]
    split
    ·simp only [List.map_cons,List.sum_cons]
     have e:(dB o k b bd).2=b.2.map fun x=>dT o x (bd+moreK k):=rfl
     rw [e]
     omega
    ·simp only [List.map_cons,List.sum_cons]
     omega
  have h5:=h4 sys (fun _ h=>h)
  omega
theorem put_cap {i:Int} {r:List C} {t:Tm} (ht:blk t≤100):blk (putT' i r t)≤6500:=by
 have hn:blk noT≤6500:=Nat.le_trans (cap_ge noT).1 (Nat.le_trans noT_cap (by decide))
 unfold putT'
 split
 ·unfold ansD
  split
  ·have h1:=cap_dT (putOp_len i r) t 0
   have h2:=(cap_ge (dT (putOp i r) t 0)).1
   have h3:=(cap_ge t).2
   omega
  ·exact hn
 ·exact hn
theorem cn_put {i n:Int} {r:List C} {t:Tm} (ht:blk t≤100):cnP n (putT' i r t) 0≤100:=by
 have hn:cnP n noT 0≤100:=by
  rw [cn_eq]
  simp [noT,cnK]
 unfold putT'
 split
 ·unfold ansD
  split
  ·have h1:=cn_d (o:=putOp i r) (n:=n) _ t 0 0 (Nat.le_refl _)
   have h2:=cn_blk n _ t 0 (Nat.le_refl _)
   omega
  ·exact hn
 ·exact hn
theorem blk_two {i n:Int} {r:List C} {t u:Tm} (ht:blk t≤100) (hu:blk u≤100):blk (putT n (putT' i r u) (putT' i r t) 0 0)≤656500:=by
 have h1:=blk_put (n:=n) (u:=putT' i r u) _ (putT' i r t) 0 0 (Nat.le_refl _)
 have h2:=put_cap (i:=i) (r:=r) ht
 have h3:=put_cap (i:=i) (r:=r) hu
 have h4:cnP n (putT' i r t) 0*blk (putT' i r u)≤100*6500:=Nat.mul_le_mul (cn_put ht) h3
 omega
theorem putE_ok {i:Int} {r:List C} {t:Tm} (h:putE i r t=0):(0≤i∧i<24)∧OkX t∧eT (putOp i r) t 0=0∧putT' i r t=dT (putOp i r) t 0:=by
 unfold putE at h
 split at h
 ·rename_i h1
  obtain⟨g1,_,g3⟩:=wrD_ok h1
  refine⟨g1,okx_of_wrong g3,h,?_⟩
  unfold putT' ansD
  rw [if_pos h1,if_pos h]
 ·rename_i h1;exact absurd h h1
theorem put_law {i n:Int} {r:List C} {t u:Tm} (ht:blk t≤100) (hu:blk u≤100) (e1:plE n t u=0) (e2:putE i r (plT n t u)=0) (e3:putE i r t=0) (e4:putE i r u=0) (e5:plE n (putT' i r t) (putT' i r u)=0) :
  putT' i r (plT n t u)=plT n (putT' i r t) (putT' i r u)∧blk (putT' i r (plT n t u))≤10000000∧WtP 100000 (putT' i r (plT n t u)):=by
 obtain⟨a1,a2,a3,a4,a5⟩:=ple_zero e1
 obtain⟨b1,b2,b3,b4,b5⟩:=ple_zero e5
 rw [a5] at e2 ⊢
 obtain⟨⟨i0,i1⟩,c1,c2,c3⟩:=putE_ok e2
 obtain⟨_,d1,d2,d3⟩:=putE_ok e3
 obtain⟨_,f1,f2,f3⟩:=putE_ok e4
 have key:putT' i r (putT n u t 0 0)=plT n (putT' i r t) (putT' i r u):=by
  rw [b5,c3,d3,f3]
  rw [d3,f3] at b4
  obtain⟨j,rfl⟩:∃ j:Nat,i=(j:Int):=⟨i.toNat,by omega⟩
  exact d_put f1 f2 _ t 0 0 (Nat.le_refl _) d1 (fp_of_wrong a1) (fm_of_wrong a1) a4 d2 c2 b4
 rw [key]
 refine⟨rfl,?_,?_⟩
 ·rw [b5]
  exact Nat.le_trans (blk_two ht hu) (by decide)
 ·rw [b5]
  exact wt_put (K:=100000) (by decide) (wt_of_blk _ _ (Nat.le_refl _) (Nat.le_trans (put_cap hu) (by decide))) _ _ 0 0 (Nat.le_refl _) (wt_of_blk _ _ (Nat.le_refl _) (Nat.le_trans (put_cap ht) (by decide)))
def RSmCB (N:Nat):Prop:=∀ (t u:Tm) (b:Bool) (v v':Value) (w:World),TmIn Tt w t v→TmIn Tt w u v'→blk t≤N→blk t≤10000000→WtP 100000 t→(b=true↔t=u) →
 Calls Tryz.prog 14 #[v,v'] w fun e w'=>e=.returned (.bool b)∧Below w.heap.size w w'
def RLsCB (N:Nat):Prop:=∀ (l m:List Tm) (b:Bool) (v v':Value) (w:World),KdT Tt w (TmIn Tt w) l v→KdT Tt w (TmIn Tt w) m v'→blkL l≤N→blkL l≤10000000→(∀ x∈l,WtP 100000 x)→(b=true↔l=m) →
 Calls Tryz.prog 48 #[v,v'] w fun e w'=>e=.returned (.bool b)∧Below w.heap.size w w'
theorem rlists_ofB (N:Nat) (IH:RSmCB N):RLsCB N:=by
 intro l m b v v' w h1 h2 hN hbb hwt hb
 have HWt:Hid (∀ x∈l,WtP 100000 x):=hwt
 clear hwt
 obtain⟨la,lc,rfl,_⟩:=id h1
 obtain⟨ma,mc,rfl,_⟩:=id h2
 have HF:Hid (¬ l=m→b=false):=fun h=>Bool.eq_false_iff.2 fun h2=>h (hb.1 h2)
 have HTr:Hid (l=m→b=true):=fun h=>hb.2 h
 have H1:Hid (KdT Tt w (TmIn Tt w) l (.slice la l.length lc)):=h1
 have H2:Hid (KdT Tt w (TmIn Tt w) m (.slice ma m.length mc)):=h2
 have hll:=blkL_len l
 obtain⟨L,hL⟩:∃ L,L=l.length:=⟨_,rfl⟩
 have HL:Hid (L=l.length):=hL
 obtain⟨M,hM⟩:∃ L,L=m.length:=⟨_,rfl⟩
 have HM:Hid (M=m.length):=hM
 rw [← hL,← hM]
 rw [← hL] at hll
 clear hb h1 h2 hL hM
 by_cases hLM:L=M
 ·subst hLM
  go_enter Tryz.func48,Tryz.ntmps48
  go_wp2_with fail
  go_loopw [5] (fun i wr=>∃ k:Nat,k≤L∧i=.int .i64 k∧Hid (∀ j,j<k→l[j]? = m[j]?)∧Below w.heap.size w wr) (fun i _=>L - (intOf i).toNat)
  case atStart=>exact⟨0,Nat.zero_le _,rfl,fun j hj=>by omega,Below.refl _ _⟩
  case round =>
   obtain⟨wo,hwo⟩:∃ wo,wo=wr:=⟨_,rfl⟩
   subst hwo
   obtain⟨k,hk,rfl,HS,hBr⟩:=hrel
   by_cases hlt:k<L
   ·have hkI:(k:Int) < (L:Int):=by omega
    obtain⟨x,hx⟩:=someL (l:=l) (k:=k) (by rw [← HL.out];exact hlt)
    obtain⟨y,hy⟩:=someL (l:=m) (k:=k) (by rw [← HM.out];exact hlt)
    have hbx:blk x≤blkL l:=sumN_mem (List.mem_map_of_mem (List.mem_of_getElem? hx))
    have HX:Hid (l[k]? = some x∧m[k]? = some y):=⟨hx,hy⟩
    obtain⟨g,off,ra1,rc1,ka1,kc1,sa1,sc1,rfl,hg,q6,qt⟩:=(H1.out.blw hBr).at hx
    obtain⟨g2,off2,ra2,rc2,ka2,kc2,sa2,sc2,rfl,hg2,p6,pt⟩:=(H2.out.blw hBr).at hy
    have HQ:Hid (Cs6 wo g (off+k*6) x ra1 rc1 ka1 kc1 sa1 sc1):=q6
    have HP:Hid (Cs6 wo g2 (off2+k*6) y ra2 rc2 ka2 kc2 sa2 sc2):=p6
    obtain⟨eb,heb⟩:=bool_of (x=y)
    have HEb:Hid (eb=true↔x=y):=heb
    have rC:Hid (∀ z:Cw wo,Calls Tryz.prog 14 #[.agg #[.int .i64 x.kind,.int .i64 x.n,.string x.name,.slice ra1 x.r.length rc1,.slice ka1 x.kids.length kc1,.slice sa1 x.sys.length sc1],.agg #[.int .i64 y.kind,.int .i64 y.n,.string y.name,.slice ra2 y.r.length rc2,.slice ka2 y.kids.length kc2,.slice sa2 y.sys.length sc2]] z.1 fun e w'=>e=.returned (.bool eb)∧∃ z':Cw wo,w'=z'.1):=fun z=>cw_call z (IH x y eb _ _ z.1 (qt.blw z.2).value (pt.blw z.2).value (by omega) (by omega) (HWt.out x (List.mem_of_getElem? HX.out.1)) heb)
    clear hx hy q6 p6 heb
    have c0:∀ z:Cw wo,z.1.cell? ⟨g,off+k*6,none⟩=some (.int .i64 x.kind):=fun z=>(HQ.out.blw z.2).c0
    have c1:∀ z:Cw wo,z.1.cell? ⟨g,off+k*6+1,none⟩=some (.int .i64 x.n):=fun z=>(HQ.out.blw z.2).c1
    have c2:∀ z:Cw wo,z.1.cell? ⟨g,off+k*6+2,none⟩=some (.string x.name):=fun z=>(HQ.out.blw z.2).c2
    have c3:∀ z:Cw wo,z.1.cell? ⟨g,off+k*6+3,none⟩=some (.slice ra1 x.r.length rc1):=fun z=>(HQ.out.blw z.2).c3
    have c4:∀ z:Cw wo,z.1.cell? ⟨g,off+k*6+4,none⟩=some (.slice ka1 x.kids.length kc1):=fun z=>(HQ.out.blw z.2).c4
    have c5:∀ z:Cw wo,z.1.cell? ⟨g,off+k*6+5,none⟩=some (.slice sa1 x.sys.length sc1):=fun z=>(HQ.out.blw z.2).c5
    have d0:∀ z:Cw wo,z.1.cell? ⟨g2,off2+k*6,none⟩=some (.int .i64 y.kind):=fun z=>(HP.out.blw z.2).c0
    have d1:∀ z:Cw wo,z.1.cell? ⟨g2,off2+k*6+1,none⟩=some (.int .i64 y.n):=fun z=>(HP.out.blw z.2).c1
    have d2:∀ z:Cw wo,z.1.cell? ⟨g2,off2+k*6+2,none⟩=some (.string y.name):=fun z=>(HP.out.blw z.2).c2
    have d3:∀ z:Cw wo,z.1.cell? ⟨g2,off2+k*6+3,none⟩=some (.slice ra2 y.r.length rc2):=fun z=>(HP.out.blw z.2).c3
    have d4:∀ z:Cw wo,z.1.cell? ⟨g2,off2+k*6+4,none⟩=some (.slice ka2 y.kids.length kc2):=fun z=>(HP.out.blw z.2).c4
    have d5:∀ z:Cw wo,z.1.cell? ⟨g2,off2+k*6+5,none⟩=some (.slice sa2 y.sys.length sc2):=fun z=>(HP.out.blw z.2).c5
    clear qt pt
    have hne:=cw_any wo
    go_upto_region 6 with fail
    cases eb with
    | false =>
     refine wp_region_cw (by kernel_rfl) (by kernel_rfl) ?_
     repeat (first | go_big_quiet_step (fail) | quiet_step (fail))
     first | go_big_quiet_step (exact rC.out _) | quiet_step (exact rC.out _)
     repeat (first | go_big_quiet_step (fail) | quiet_step (fail))
     refine wpQuiet_nil ?_
     rintro _ ⟨z,rfl⟩
     obtain⟨w6,b6⟩:=z
     dsimp only
     clear rC hne c0 c1 c2 c3 c4 c5 d0 d1 d2 d3 d4 d5
     have HB:Hid (b=false):=HF.out (fun h=>by
      have e:=HX.out.1
      rw [h,HX.out.2] at e
      cases e
      have:=HEb.out.2 rfl
      cases this)
     go_wp2_with fail
     go_ret
     exact⟨ret_bool HB.out.symm,bchain hBr b6⟩
    | true =>
     refine wp_region_cw (by kernel_rfl) (by kernel_rfl) ?_
     repeat (first | go_big_quiet_step (fail) | quiet_step (fail))
     first | go_big_quiet_step (exact rC.out _) | quiet_step (exact rC.out _)
     repeat (first | go_big_quiet_step (fail) | quiet_step (fail))
     refine wpQuiet_nil ?_
     rintro _ ⟨z,rfl⟩
     obtain⟨w6,b6⟩:=z
     dsimp only
     clear rC hne c0 c1 c2 c3 c4 c5 d0 d1 d2 d3 d4 d5
     have HS':Hid (∀ j,j<k+1→l[j]? = m[j]?):=fun j hj=>by
      rcases Nat.lt_or_ge j k with h|h
      ·exact HS.out j h
      ·have ej:j=k:=by omega
       rw [ej,HX.out.1,HX.out.2,HEb.out.1 (by first | rfl | trivial)]
     clear HS HX HEb
     go_wp2_with fail
     go_roundw
     case rel=>exact⟨k+1,by omega,by go_num,HS',bchain hBr b6⟩
     case measure=>simp [intOf];omega
   ·have hkI:¬ (k:Int) < (L:Int):=by omega
    have HB:Hid (b=true):=HTr.out (by
     apply List.ext_getElem?
     intro j
     rcases Nat.lt_or_ge j k with h|h
     ·exact HS.out j h
     ·rw [List.getElem?_eq_none (by rw [← HL.out];omega),List.getElem?_eq_none (by rw [← HM.out];omega)])
    clear HS
    go_wp2_with fail
    go_ret
    exact⟨ret_bool HB.out.symm,hBr⟩
 ·have HB:Hid (b=false):=HF.out (fun h=>hLM (by rw [HL.out,HM.out,h]))
  have q1:¬ (L:Int)=(M:Int):=by omega
  have q2:((L:Int) == (M:Int))=false:=by simp;omega
  have q3:¬ L=M:=hLM
  go_enter Tryz.func48,Tryz.ntmps48
  go_wp2_with fail
  go_ret
  exact⟨ret_bool HB.out.symm,Below.refl _ _⟩
theorem rsame_stepB (N:Nat) (IH:RLsCB N):RSmCB (N+1):=by
 intro t u b v v' w hv hv' hN hbb hwt hb
 obtain⟨hw1,hw2,hw3⟩:=(wt_eq _ _).1 hwt
 unfold ownT at hw1
 have HWk:Hid (∀ x∈t.kids,WtP 100000 x):=hw2
 have hwl:∀ c∈t.sys,1+c.1.length≤(t.sys.map fun b=>1+b.1.length).sum:=fun c hc=>sumN_mem (List.mem_map_of_mem (f:=fun b:List C × List Tm=>1+b.1.length) hc)
 rw [Tm.eq_iff] at hb
 have hbs:=blk_eq t
 have hlen:=blk_lens t
 obtain⟨ra,rc,ka,kc,sa,sc,rfl,ht⟩:=hv.form
 obtain⟨ra',rc',ka',kc',sa',sc',rfl,ht'⟩:=hv'.form
 obtain⟨W,hW,bW,c6,c6'⟩:=boxT2 w t u ra rc ka kc sa sc ra' rc' ka' kc' sa' sc'
 have HT:Hid (TmTop Tt W t ra rc ka kc sa sc):=ht.blw bW
 have HU:Hid (TmTop Tt W u ra' rc' ka' kc' sa' sc'):=ht'.blw bW
 have HC:Hid (Cs6 W w.heap.size 0 t ra rc ka kc sa sc):=c6
 have HC':Hid (Cs6 W (w.heap.size+1) 0 u ra' rc' ka' kc' sa' sc'):=c6'
 have HLk:Hid (blkL t.kids≤N∧blkL t.kids≤10000000∧t.r.length≤100000):=⟨by omega,by omega,by omega⟩
 have HLs:Hid (∀ c∈t.sys,blkL c.2≤N∧blkL c.2≤10000000∧c.1.length≤100000∧∀ x∈c.2,WtP 100000 x):=fun c hc=>by
  have:=blk_br hc
  have:=hwl c hc
  exact⟨by omega,by omega,by omega,fun x hx=>hw3 c hc x hx⟩
 clear hw1 hw2 hw3 hwl hwt
 obtain⟨c1,hc1⟩:=bool_of (t.kind=u.kind∧t.n=u.n∧t.name=u.name∧t.r=u.r∧t.kids=u.kids∧t.sys.length=u.sys.length)
 have HF1:Hid (c1=false→b=false):=fun h=>Bool.eq_false_iff.2 fun h2=>by
  obtain⟨e1,e2,e3,e4,e5,e6⟩:=hb.1 h2
  have:=hc1.2 ⟨e1,e2,e3,e4,e5,by rw [e6]⟩
  rw [h] at this;cases this
 have HF2:Hid (¬ t.sys=u.sys→b=false):=fun h=>Bool.eq_false_iff.2 fun h2=>h (hb.1 h2).2.2.2.2.2
 have HTr:Hid (c1=true→t.sys=u.sys→b=true):=fun h h2=>hb.2 ⟨(hc1.1 h).1,(hc1.1 h).2.1,(hc1.1 h).2.2.1,(hc1.1 h).2.2.2.1,(hc1.1 h).2.2.2.2.1,h2⟩
 have HML:Hid (c1=true→t.sys.length=u.sys.length):=fun h=>(hc1.1 h).2.2.2.2.2
 have H1:Hid (_=_):=hW
 have HK:Hid (∀ b2:Bool,(b2=true↔t.kids=u.kids)→∀ w2,Below W.heap.size W w2→Calls Tryz.prog 48 #[.slice ka t.kids.length kc,.slice ka' u.kids.length kc'] w2 fun e w'=>e=.returned (.bool b2)∧Below w2.heap.size w2 w'):=fun b2 h2 w2 q=>IH _ _ b2 _ _ w2 (HT.out.blw q).kids (HU.out.blw q).kids HLk.out.1 HLk.out.2.1 HWk.out h2
 have HRr:Hid (∀ w2,Below W.heap.size W w2→Calls Tryz.prog 38 #[.slice ra t.r.length rc,.slice ra' u.r.length rc'] w2 fun e w'=>e=.returned (.bool (decide (t.r=u.r)))∧Below w2.heap.size w2 w'):=fun w2 q=>same_any t.r u.r _ _ w2 (HT.out.blw q).row.row (HU.out.blw q).row.row (by have:=HLk.out.2.2;omega)
 obtain⟨_,y0,y1,y2,y3,y4,y5⟩:=c6
 obtain⟨_,z0,z1,z2,z3,z4,z5⟩:=c6'
 simp only [Nat.zero_add] at y1 y2 y3 y4 y5 z1 z2 z3 z4 z5
 obtain⟨a0,ha0⟩:∃ a,a=t.kind:=⟨_,rfl⟩
 obtain⟨b0,hb0⟩:∃ a,a=u.kind:=⟨_,rfl⟩
 obtain⟨a1,ha1⟩:∃ a,a=t.n:=⟨_,rfl⟩
 obtain⟨b1,hb1⟩:∃ a,a=u.n:=⟨_,rfl⟩
 obtain⟨a2,ha2⟩:∃ a,a=t.name:=⟨_,rfl⟩
 obtain⟨b2,hb2⟩:∃ a,a=u.name:=⟨_,rfl⟩
 obtain⟨M,hM⟩:∃ a,a=t.sys.length:=⟨_,rfl⟩
 obtain⟨M',hM'⟩:∃ a,a=u.sys.length:=⟨_,rfl⟩
 have HM:Hid (M=t.sys.length):=hM
 have HM':Hid (M'=u.sys.length):=hM'
 obtain⟨rb,hrb⟩:∃ r,r=decide (t.r=u.r):=⟨_,rfl⟩
 obtain⟨kb,hkb⟩:=bool_of (t.kids=u.kids)
 have cR0:=HRr.out
 have cK0:=HK.out kb hkb
 rw [← hrb] at cR0
 have HcR:Hid (_):=cR0
 have HcK:Hid (_):=cK0
 rw [← ha0,← hb0,← ha1,← hb1,← ha2,← hb2,← hM,← hM'] at hc1
 have hr2:(rb=true↔t.r=u.r):=by rw [hrb];simp
 rw [← hr2,← hkb] at hc1
 rw [← ha0] at y0
 rw [← hb0] at z0
 rw [← ha1] at y1
 rw [← hb1] at z1
 rw [← ha2] at y2
 rw [← hb2] at z2
 rw [← hM] at y5
 rw [← hM'] at z5
 rw [← hM] at hlen
 clear hW hv hv' ht ht' ha0 hb0 ha1 hb1 ha2 hb2 hM hM' hrb hkb cR0 cK0 hr2 hb hbs
 have hMb:M≤10000000:=by omega
 clear hlen
 go_enter Tryz.func14,Tryz.ntmps14
 go_upto_region 1 with fail
 rw [← H1.out]
 clear H1
 go_cut [49] (fun s wx=>s=.bool (!c1)∧Below W.heap.size W wx)
 case first=>as_aux_lemma =>
  by_cases q0:a0=b0
  ·subst q0
   by_cases q1:a1=b1
   ·subst q1
    by_cases q2:a2=b2
    ·subst q2
     have cR:=HcR.out W (Below.refl _ _)
     cases rb with
     | false =>
      have e:c1=false:=by rw [Bool.eq_false_iff];intro h;have:=(hc1.1 h).2.2.2.1;cases this
      clear hc1
      go_wp2_with fail
      refine cR.mono ?_
      rintro e9 w2 ⟨rfl,b2⟩
      clear cR y0 y1 y2 y3 y4 y5 z0 z1 z2 z3 z4 z5
      go_wp2_with fail
      go_meet
      exact⟨by rw [e];rfl,b2⟩
     | true =>
      cases kb with
      | false =>
       have e:c1=false:=by rw [Bool.eq_false_iff];intro h;have:=(hc1.1 h).2.2.2.2.1;cases this
       clear hc1
       go_wp2_with fail
       refine cR.mono ?_
       rintro e9 w2 ⟨rfl,b2⟩
       clear cR
       clear y0 y1 y2 y3 y4 y5 z0 z1 z2 z3 z4 z5
       obtain⟨_,y0,y1,y2,y3,y4,y5⟩:=HC.out.blw (b2)
       obtain⟨_,z0,z1,z2,z3,z4,z5⟩:=HC'.out.blw (b2)
       simp only [Nat.zero_add] at y1 y2 y3 y4 y5 z1 z2 z3 z4 z5
       rw [← HM.out] at y5
       rw [← HM'.out] at z5
       have cK:=HcK.out w2 b2
       go_wp2_with fail
       refine cK.mono ?_
       rintro e9 w3 ⟨rfl,b3⟩
       clear cK y0 y1 y2 y3 y4 y5 z0 z1 z2 z3 z4 z5
       go_wp2_with fail
       go_meet
       exact⟨by rw [e];rfl,bchain b2 b3⟩
      | true =>
       by_cases q5:M=M'
       ·have e:c1=true:=hc1.2 ⟨rfl,rfl,rfl,rfl,rfl,q5⟩
        clear hc1
        go_wp2_with fail
        refine cR.mono ?_
        rintro e9 w2 ⟨rfl,b2⟩
        clear cR
        clear y0 y1 y2 y3 y4 y5 z0 z1 z2 z3 z4 z5
        obtain⟨_,y0,y1,y2,y3,y4,y5⟩:=HC.out.blw (b2)
        obtain⟨_,z0,z1,z2,z3,z4,z5⟩:=HC'.out.blw (b2)
        simp only [Nat.zero_add] at y1 y2 y3 y4 y5 z1 z2 z3 z4 z5
        rw [← HM.out] at y5
        rw [← HM'.out] at z5
        have cK:=HcK.out w2 b2
        go_wp2_with fail
        refine cK.mono ?_
        rintro e9 w3 ⟨rfl,b3⟩
        clear cK
        clear y0 y1 y2 y3 y4 y5 z0 z1 z2 z3 z4 z5
        obtain⟨_,y0,y1,y2,y3,y4,y5⟩:=HC.out.blw (bchain b2 b3)
        obtain⟨_,z0,z1,z2,z3,z4,z5⟩:=HC'.out.blw (bchain b2 b3)
        simp only [Nat.zero_add] at y1 y2 y3 y4 y5 z1 z2 z3 z4 z5
        rw [← HM.out] at y5
        rw [← HM'.out] at z5
        subst q5
        go_wp2_with fail
        go_meet
        exact⟨by rw [e];rfl,bchain b2 b3⟩
       ·have e:c1=false:=by rw [Bool.eq_false_iff];intro h;exact q5 (hc1.1 h).2.2.2.2.2
        have p1:((M:Int) == (M':Int))=false:=by simp;omega
        have p2:¬ (M:Int)=(M':Int):=by omega
        have p3:((M:Int) != (M':Int))=true:=by simp;omega
        clear hc1
        go_wp2_with fail
        refine cR.mono ?_
        rintro e9 w2 ⟨rfl,b2⟩
        clear cR
        clear y0 y1 y2 y3 y4 y5 z0 z1 z2 z3 z4 z5
        obtain⟨_,y0,y1,y2,y3,y4,y5⟩:=HC.out.blw (b2)
        obtain⟨_,z0,z1,z2,z3,z4,z5⟩:=HC'.out.blw (b2)
        simp only [Nat.zero_add] at y1 y2 y3 y4 y5 z1 z2 z3 z4 z5
        rw [← HM.out] at y5
        rw [← HM'.out] at z5
        have cK:=HcK.out w2 b2
        go_wp2_with fail
        refine cK.mono ?_
        rintro e9 w3 ⟨rfl,b3⟩
        clear cK
        clear y0 y1 y2 y3 y4 y5 z0 z1 z2 z3 z4 z5
        obtain⟨_,y0,y1,y2,y3,y4,y5⟩:=HC.out.blw (bchain b2 b3)
        obtain⟨_,z0,z1,z2,z3,z4,z5⟩:=HC'.out.blw (bchain b2 b3)
        simp only [Nat.zero_add] at y1 y2 y3 y4 y5 z1 z2 z3 z4 z5
        rw [← HM.out] at y5
        rw [← HM'.out] at z5
        go_wp2_with fail
        go_meet
        exact⟨by rw [e];rfl,bchain b2 b3⟩
    ·have e:c1=false:=by rw [Bool.eq_false_iff];intro h;exact q2 ((hc1.1 h).2.2.1)
     have p1:=strNe q2
     clear hc1
     go_wp2_with fail
     go_meet
     exact⟨by rw [e];rfl,Below.refl _ _⟩
   ·have e:c1=false:=by rw [Bool.eq_false_iff];intro h;exact q1 ((hc1.1 h).2.1)
    have p1:(a1 == b1)=false:=by simpa using q1
    have p2:(a1 != b1)=true:=by simpa using q1
    clear hc1
    go_wp2_with fail
    go_meet
    exact⟨by rw [e];rfl,Below.refl _ _⟩
  ·have e:c1=false:=by rw [Bool.eq_false_iff];intro h;exact q0 ((hc1.1 h).1)
   have p1:(a0 == b0)=false:=by simpa using q0
   have p2:(a0 != b0)=true:=by simpa using q0
   clear hc1
   go_wp2_with fail
   go_meet
   exact⟨by rw [e];rfl,Below.refl _ _⟩
 case rest =>
 obtain⟨rfl,hB2⟩:=hcut
 clear hc1 y0 y1 y2 y3 y4 y5 z0 z1 z2 z3 z4 z5
 obtain⟨w2,hw2e⟩:∃ w2,w2=wc:=⟨_,rfl⟩
 subst hw2e
 cases c1 with
 | false =>
  have HB:Hid (b=false):=HF1.out rfl
  go_wp2_with fail
  go_ret
  exact⟨ret_bool HB.out.symm,bchain bW hB2⟩
 | true =>
  have hMM:M=M':=by rw [HM.out,HM'.out];exact HML.out rfl
  subst hMM
  go_wp2_with fail
  go_loopw [5] (fun i wr=>∃ k:Nat,k≤M∧i=.int .i64 k∧Hid (∀ j,j<k→t.sys[j]? = u.sys[j]?)∧Below W.heap.size W wr) (fun i _=>M - (intOf i).toNat)
  case atStart=>exact⟨0,Nat.zero_le _,rfl,fun j hj=>by omega,hB2⟩
  case round =>
   obtain⟨wo,hwo⟩:∃ wo,wo=wr:=⟨_,rfl⟩
   subst hwo
   obtain⟨k,hk,rfl,HS,hBr⟩:=hrel
   obtain⟨_,y0,y1,y2,y3,y4,y5⟩:=HC.out.blw hBr
   simp only [Nat.zero_add] at y1 y2 y3 y4 y5
   rw [← HM.out] at y5
   by_cases hlt:k<M
   ·have hkI:(k:Int) < (M:Int):=by omega
    obtain⟨c,hc⟩:=someL (l:=t.sys) (k:=k) (by rw [← HM.out];exact hlt)
    obtain⟨d,hd⟩:=someL (l:=u.sys) (k:=k) (by rw [← HM'.out];exact hlt)
    have hcl:=HLs.out c (List.mem_of_getElem? hc)
    have HX:Hid (t.sys[k]? = some c∧u.sys[k]? = some d):=⟨hc,hd⟩
    obtain⟨g,off,fa,fc,ka1,kc1,rfl,hg,q2,qf,qk⟩:=(HT.out.blw hBr).sys.at hc
    obtain⟨g2,off2,fa2,fc2,ka2,kc2,rfl,hg2,p2,pf,pk⟩:=(HU.out.blw hBr).sys.at hd
    have HQ:Hid (Cs2 wo g (off+k*2) c fa fc ka1 kc1):=q2
    have HP:Hid (Cs2 wo g2 (off2+k*2) d fa2 fc2 ka2 kc2):=p2
    obtain⟨fb,hfb⟩:∃ x,x=decide (c.1=d.1):=⟨_,rfl⟩
    obtain⟨gb,hgb⟩:=bool_of (c.2=d.2)
    have HG:Hid ((fb=true↔c.1=d.1)∧(gb=true↔c.2=d.2)):=⟨by rw [hfb];simp,hgb⟩
    have rF:Hid (∀ z:Cw wo,Calls Tryz.prog 38 #[.slice fa c.1.length fc,.slice fa2 d.1.length fc2] z.1 fun e w'=>e=.returned (.bool fb)∧∃ z':Cw wo,w'=z'.1):=fun z=>cw_call z (by rw [hfb];exact same_any c.1 d.1 _ _ z.1 (qf.blw z.2).row (pf.blw z.2).row (by omega))
    have rK:Hid (∀ z:Cw wo,Calls Tryz.prog 48 #[.slice ka1 c.2.length kc1,.slice ka2 d.2.length kc2] z.1 fun e w'=>e=.returned (.bool gb)∧∃ z':Cw wo,w'=z'.1):=fun z=>cw_call z (IH c.2 d.2 gb _ _ z.1 (qk.blw z.2) (pk.blw z.2) hcl.1 hcl.2.1 hcl.2.2.2 hgb)
    have e0:∀ z:Cw wo,z.1.cell? ⟨g,off+k*2,none⟩=some (.slice fa c.1.length fc):=fun z=>(HQ.out.blw z.2).c0
    have e1:∀ z:Cw wo,z.1.cell? ⟨g,off+k*2+1,none⟩=some (.slice ka1 c.2.length kc1):=fun z=>(HQ.out.blw z.2).c1
    have f0:∀ z:Cw wo,z.1.cell? ⟨g2,off2+k*2,none⟩=some (.slice fa2 d.1.length fc2):=fun z=>(HP.out.blw z.2).c0
    have f1:∀ z:Cw wo,z.1.cell? ⟨g2,off2+k*2+1,none⟩=some (.slice ka2 d.2.length kc2):=fun z=>(HP.out.blw z.2).c1
    have y5a:∀ z:Cw wo,z.1.cell? ⟨w.heap.size,5,none⟩=some (.slice (some ⟨g,off,none⟩) M sc):=fun z=>by have:=(HC.out.blw (bchain hBr z.2)).c5;rw [← HM.out] at this;simpa only [Nat.zero_add] using this
    have z5a:∀ z:Cw wo,z.1.cell? ⟨w.heap.size+1,5,none⟩=some (.slice (some ⟨g2,off2,none⟩) M sc'):=fun z=>by have:=(HC'.out.blw (bchain hBr z.2)).c5;rw [← HM'.out] at this;simpa only [Nat.zero_add] using this
    clear hc hd q2 p2 qf qk pf pk hfb hgb hcl
    have hne:=cw_any wo
    go_upto_region 6 with fail
    clear y0 y1 y2 y3 y4 y5
    cases fb with
    | false =>
     refine wp_region_cw (by kernel_rfl) (by kernel_rfl) ?_
     repeat (first | go_big_quiet_step (fail) | quiet_step (fail))
     first | go_big_quiet_step (exact rF.out _) | quiet_step (exact rF.out _)
     repeat (first | go_big_quiet_step (fail) | quiet_step (fail))
     refine wpQuiet_nil ?_
     rintro _ ⟨z,rfl⟩
     obtain⟨w6,b6⟩:=z
     dsimp only
     clear rF rK hne e0 e1 f0 f1 y5a z5a
     have HB:Hid (b=false):=HF2.out (fun h=>by
      have e:=HX.out.1
      rw [h,HX.out.2] at e
      cases e
      have:=HG.out.1.2 rfl
      cases this)
     go_wp2_with fail
     go_ret
     exact⟨ret_bool HB.out.symm,bchain bW (bchain hBr b6)⟩
    | true =>
     cases gb with
     | false =>
      refine wp_region_cw (by kernel_rfl) (by kernel_rfl) ?_
      repeat (first | go_big_quiet_step (fail) | quiet_step (fail))
      first | go_big_quiet_step (exact rF.out _) | quiet_step (exact rF.out _)
      repeat (first | go_big_quiet_step (fail) | quiet_step (fail))
      first | go_big_quiet_step (exact rK.out _) | quiet_step (exact rK.out _)
      repeat (first | go_big_quiet_step (fail) | quiet_step (fail))
      refine wpQuiet_nil ?_
      rintro _ ⟨z,rfl⟩
      obtain⟨w6,b6⟩:=z
      dsimp only
      clear rF rK hne e0 e1 f0 f1 y5a z5a
      have HB:Hid (b=false):=HF2.out (fun h=>by
       have e:=HX.out.1
       rw [h,HX.out.2] at e
       cases e
       have:=HG.out.2.2 rfl
       cases this)
      go_wp2_with fail
      go_ret
      exact⟨ret_bool HB.out.symm,bchain bW (bchain hBr b6)⟩
     | true =>
      refine wp_region_cw (by kernel_rfl) (by kernel_rfl) ?_
      repeat (first | go_big_quiet_step (fail) | quiet_step (fail))
      first | go_big_quiet_step (exact rF.out _) | quiet_step (exact rF.out _)
      repeat (first | go_big_quiet_step (fail) | quiet_step (fail))
      first | go_big_quiet_step (exact rK.out _) | quiet_step (exact rK.out _)
      repeat (first | go_big_quiet_step (fail) | quiet_step (fail))
      refine wpQuiet_nil ?_
      rintro _ ⟨z,rfl⟩
      obtain⟨w6,b6⟩:=z
      dsimp only
      clear rF rK hne e0 e1 f0 f1 y5a z5a
      have HS':Hid (∀ j,j<k+1→t.sys[j]? = u.sys[j]?):=fun j hj=>by
       rcases Nat.lt_or_ge j k with h|h
       ·exact HS.out j h
       ·have ej:j=k:=by omega
        rw [ej,HX.out.1,HX.out.2]
        exact congrArg some (Prod.ext (HG.out.1.1 (by first | rfl | trivial)) (HG.out.2.1 (by first | rfl | trivial)))
      clear HS HX HG
      go_wp2_with fail
      go_roundw
      case rel=>exact⟨k+1,by omega,by go_num,HS',bchain hBr b6⟩
      case measure=>simp [intOf];omega
   ·have hkI:¬ (k:Int) < (M:Int):=by omega
    have HB:Hid (b=true):=HTr.out (by first | rfl | trivial) (by
     apply List.ext_getElem?
     intro j
     rcases Nat.lt_or_ge j k with h|h
     ·exact HS.out j h
     ·rw [List.getElem?_eq_none (by rw [← HM.out];omega),List.getElem?_eq_none (by rw [← HM'.out];omega)])
    clear HS
    go_wp2_with fail
    go_ret
    exact⟨ret_bool HB.out.symm,bchain bW hBr⟩
theorem rsame_anyB (N:Nat):RSmCB N:=by
 induction N with
 | zero=>intro t u b v v' w _ _ hb;have:=blk_pos t;omega
 | succ N ih=>exact rsame_stepB N (rlists_ofB N ih)
end Go.Proofs.YtblbhmnahoiecaaGreat
