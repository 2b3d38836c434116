/- A formula in a dimension's place, and a term in a variable's: they go through one another. -/
import Derived.Test.YtblbhmnahoiecaaGreatGG37
import Derived.Test.YtblbhmnahoiecaaGreatGG34
import Derived.Test.YtblbhmnahoiecaaGreatGG15
import Derived.Test.YtblbhmnahoiecaaGreatGG22
set_option linter.unusedVariables false
set_option linter.unusedSimpArgs false
namespace Go.Proofs.YtblbhmnahoiecaaGreat
open Go.RowKit
theorem lfR_uniq {c m:Nat} {l p q:List C} (hl:∀ d∈l,rightC d=true) (hp:LiR c m l p) (hq:LiR c m l q) (h1:rightF p=true) (h2:rightF q=true):p=q :=
 rightF_ext h1 h2 fun y _=>by rw [hp.dn hl (fun d hd=>mem_right h1 hd),hq.dn hl (fun d hd=>mem_right h2 hd)]
theorem lfR_self (c:Nat) (l:List C):LiR c 0 l l:=by
 have:∀ d:C,LiC c 0 d d:=fun d k=>by
  by_cases h:k<c
  ·simp [h]
  ·simp [h]
 exact⟨fun d hd=>⟨d,hd,this d⟩,fun d hd=>⟨d,hd,this d⟩⟩
theorem lfC_ok {c m:Nat} {d d':C} (h:LiC c m d d') (hr:rightC d=true) (hok:okC d=true):okC d'=true:=by
 rw [okC_iff] at hok ⊢
 rintro k hk ⟨q1,q2⟩
 obtain⟨j,rfl⟩:=h.from k (.inl q1)
 rw [(h.up j).1] at q1
 rw [(h.up j).2] at q2
 exact hok j ((right_bit hr).1 q1) ⟨q1,q2⟩
theorem row_lf {a:Int} {m c:Nat} {l:List C} (h:(rowP (sf a (m:Int)) c l).2=0):LiR c m l (rowP (sf a (m:Int)) c l).1∧(rightF l=true→rightF (rowP (sf a (m:Int)) c l).1=true)∧(rightA l=true→rightA (rowP (sf a (m:Int)) c l).1=true):=by
 by_cases hm:m=0
 ·subst hm
  have e:rowP (sf a ((0:Nat):Int)) c l=(l,0):=rowP_zero rfl c l
  rw [e]
  exact⟨lfR_self c l,id,id⟩
 ·have e:rowP (sf a (m:Int)) c l=liftFF l (c:Int) (m:Int):=rowP_ne hm
  rw [e] at h ⊢
  have hL:=lfR_map h
  refine⟨hL,fun _=>lift_right h,fun hA=>rightA_iff.2 ⟨lift_right h,fun d' hd'=>?_⟩⟩
  obtain⟨d,hd,q⟩:=hL.2 d' hd'
  exact lfC_ok q (mem_right (rightA_right hA) hd) (rightA_ok hA d hd)
theorem lfR_in {c m j:Nat} {l l':List C} (h:LiR c m l l') (hc:c≤j):inF l' (j+m)=inF l j:=by
 rw [Bool.eq_iff_iff,inF_iff,inF_iff]
 have up:∀ {d d':C},LiC c m d d'→d'.1.val.testBit (j+m)=d.1.val.testBit j∧d'.2.val.testBit (j+m)=d.2.val.testBit j:=fun q=>by
  have:=q.up j
  rwa [if_neg (by omega)] at this
 constructor
 ·rintro⟨d',hd',hb⟩
  obtain⟨d,hd,q⟩:=h.2 d' hd'
  rw [(up q).1,(up q).2] at hb
  exact⟨d,hd,hb⟩
 ·rintro⟨d,hd,hb⟩
  obtain⟨d',hd',q⟩:=h.1 d hd
  rw [← (up q).1,← (up q).2] at hb
  exact⟨d',hd',hb⟩
def CoreP (PF:List C→Int→List C→List C × Int) (Rt:List C→Prop):Prop :=
 ∀ {l l' r r' P':List C} {j c m:Nat},c≤j→j+m<24→LiR c m l l'→LiR c m r r'→(PF l (j:Int) r).2=0→(PF l' ((j+m:Nat):Int) r').2=0→LiR c m (PF l (j:Int) r).1 P'→Rt P'→(PF l' ((j+m:Nat):Int) r').1=P'
theorem row_lift {PF:List C→Int→List C→List C × Int} {Rt:List C→Prop} (core:CoreP PF Rt) (hRt:∀ l,Rt l→rightF l=true) {i c m:Nat} {r l l' P':List C}
  (hRl:Rt l) (hRl':Rt l') (hl:LiR c m l l') (h1:(putRow PF (i:Int) r l c).2=0) (h2:(putRow PF (i:Int) r l' (c+m)).2=0) (hP:LiR c m (putRow PF (i:Int) r l c).1 P') (hP':Rt P'):(putRow PF (i:Int) r l' (c+m)).1=P':=by
 have e0:i+(c+m)=i+c+m:=by omega
 rcases row_cases (i:=i) (bd:=c) (l:=l) with ⟨h24,hin⟩|hin
 ·have hin':inF l' (i+c+m)=true:=by rw [lfR_in hl (by omega)];exact hin
  have h24':i+c+m<24:=by
   obtain⟨d',hd',hb⟩:=inF_iff.1 hin'
   have hr:=mem_right (hRt l' hRl') hd'
   rcases hb with hb|hb
   ·exact (right_bit hr).1 hb
   ·exact (right_bit hr).2 hb
  have e1:((i:Int) + (c:Int))=((i+c:Nat):Int):=by omega
  have e2:((i:Int) + ((c+m:Nat):Int))=((i+c+m:Nat):Int):=by omega
  have g1:hasB (dimsN l) ((i:Int) + (c:Int))=true:=by rw [e1,hasB_nat h24,dimsN_bit,hin];simp [h24]
  have g2:hasB (dimsN l') ((i:Int) + ((c+m:Nat):Int))=true:=by rw [e2,hasB_nat h24',dimsN_bit,hin'];simp [h24']
  unfold putRow at h1 h2 hP ⊢
  rw [if_pos g1] at h1 hP
  rw [if_pos g2] at h2 ⊢
  by_cases q1:(liftFF r 0 (c:Int)).2=0
  ·rw [if_pos q1,e1] at h1 hP
   by_cases q2:(liftFF r 0 ((c+m:Nat):Int)).2=0
   ·rw [if_pos q2,e2] at h2 ⊢
    exact core (by omega) h24' hl (lfR_two q1 q2) h1 h2 hP hP'
   ·rw [if_neg q2] at h2;exact absurd h2 q2
  ·rw [if_neg q1] at h1;exact absurd h1 q1
 ·rw [put_no hin] at hP
  have hin':i+(c+m) < 24→inF l' (i+(c+m))=false:=fun h=>by
   rw [e0,lfR_in hl (by omega)];exact hin (by omega)
  rw [put_no hin']
  exact lfR_uniq (fun d hd=>mem_right (hRt l hRl) hd) hl hP (hRt _ hRl') (hRt _ hP')
theorem core_F:CoreP putF (fun l=>rightF l=true):=fun hc hj hl hr h1 h2 hP hP'=>put_liftF hc hj hl hr h1 h2 hP hP'
theorem core_A:CoreP ptA (fun l=>rightA l=true):=fun hc hj hl hr h1 h2 hP hP'=>put_liftA hc hj hl hr h1 h2 hP hP'
theorem e_parts {o:DOp} {t:Tm} {bd:Nat} (h:eT o t bd=0):(ownP o t.kind t.r bd).2=0∧(∀ (i:Nat) (x:Tm),t.kids[i]? = some x→eT o x (bd+bdK t.kind i)=0)∧∀ b∈t.sys,(o.fc b.1 bd).2=0∧(stayB o bd b.1=true→∀ x∈b.2,eT o x (bd+moreK t.kind)=0):=by
 rw [e_eq] at h
 have hz:=firstE_zero.1 h
 refine⟨hz _ (.head _),fun i x hx=>?_,fun b hb=>?_⟩
 ·exact hz _ (List.mem_cons_of_mem _ (List.mem_append_left _ (List.mem_of_getElem? (eK_get hx))))
 ·have hB:=hz (eB o t.kind b bd) (List.mem_cons_of_mem _ (List.mem_append_right _ (List.mem_map_of_mem hb)))
  unfold eB at hB
  have hz2:=firstE_zero.1 hB
  refine⟨hz2 _ (.head _),fun hs x hx=>?_⟩
  rw [hs,if_pos rfl] at hz2
  exact hz2 _ (List.mem_cons_of_mem _ (List.mem_map_of_mem hx))
theorem dK_get? (o:DOp) (k:Int) (l:List Tm) (bd i:Nat):(dK o k l bd)[i]? = (l[i]?).map fun x=>dT o x (bd+bdK k i):=by
 unfold dK
 rw [List.getElem?_map,List.getElem?_zipIdx]
 cases l[i]? <;> simp
def OkX (t:Tm):Prop:=∃ bv bd,okT true 0 0 t bv bd=true
theorem okx_own {t:Tm} (h:OkX t):rightF t.r=true∧(t.kind=14→rightA t.r=true):=by
 obtain⟨bv,b2,h⟩:=h
 refine⟨ok_row h,fun h14=>?_⟩
 rw [ok_eq,Bool.and_eq_true] at h
 have h1:=h.1
 unfold Tm.node nodeB at h1
 simp only [Bool.and_eq_true] at h1
 have h2:=h1.1.2
 unfold rowB at h2
 rw [h14] at h2
 first
  | (simp at h2;exact h2.1)
  | (simp at h2;exact h2)
theorem okx_sub {t:Tm} (h:OkX t):(∀ (i:Nat) (x:Tm),t.kids[i]? = some x→OkX x)∧∀ b∈t.sys,rightA b.1=true∧∀ x∈b.2,OkX x:=by
 obtain⟨bv,b2,h⟩:=h
 refine⟨fun k y hy=>?_,fun b hb=>⟨ok_face h hb,fun y hy=>?_⟩⟩
 ·rw [ok_eq,Bool.and_eq_true] at h
  exact⟨_,_,List.all_eq_true.1 h.2 _ (pts_kid hy)⟩
 ·rw [ok_eq,Bool.and_eq_true] at h
  exact⟨_,_,List.all_eq_true.1 h.2 _ (pts_sys hb hy)⟩
theorem okx_of_wrong {t:Tm} (h:wrongN true 0 0 t=0):OkX t:=by
 unfold wrongN at h
 split at h
 ·cases h
 ·split at h
  ·exact⟨0,0,by assumption⟩
  ·cases h
theorem own_lift {i c m:Nat} {a:Int} {r:List C} {k:Int} {l:List C} (hF:rightF l=true) (hA:k=14→rightA l=true) (hL:(rowP (sf a (m:Int)) c l).2=0) (h1:(ownP (putOp (i:Int) r) k l c).2=0) (h2:(ownP (putOp (i:Int) r) k (rowP (sf a (m:Int)) c l).1 (c+m)).2=0) (h3:(rowP (sf a (m:Int)) c (ownP (putOp (i:Int) r) k l c).1).2=0) :
  (ownP (putOp (i:Int) r) k (rowP (sf a (m:Int)) c l).1 (c+m)).1=(rowP (sf a (m:Int)) c (ownP (putOp (i:Int) r) k l c).1).1:=by
 obtain⟨q1,q2,q3⟩:=row_lf hL
 obtain⟨p1,p2,p3⟩:=row_lf h3
 unfold ownP at h1 h2 p1 p2 p3 ⊢
 by_cases h14:k=14
 ·rw [if_pos h14] at h1 h2 p1 p2 p3 ⊢
  rw [if_pos h14]
  refine row_lift core_A (fun l h=>rightA_right h) (hA h14) (q3 (hA h14)) q1 h1 h2 p1 (p3 ?_)
  show rightA (putRow ptA (i:Int) r l c).1=true
  unfold putRow
  split
  ·split
   ·exact ptA_right _ _ _
   ·exact rightA_nil
  ·exact hA h14
 ·rw [if_neg h14] at h1 h2 p1 p2 p3 ⊢
  rw [if_neg h14]
  refine row_lift core_F (fun l h=>h) hF (q2 hF) q1 h1 h2 p1 (p2 ?_)
  show rightF (putRow putF (i:Int) r l c).1=true
  unfold putRow
  split
  ·split
   ·exact putF_right _ _ _
   ·exact rightF_nil
  ·exact hF
theorem lfR_nil (c m:Nat):LiR c m [] []:=⟨fun d hd=>(by cases hd),fun d hd=>(by cases hd)⟩
theorem face_lift {i c m:Nat} {r:List C} {l l' P':List C} (hA:rightA l=true) (hA':rightA l'=true) (hl:LiR c m l l') (h1:((putOp (i:Int) r).fc l c).2=0) (h2:((putOp (i:Int) r).fc l' (c+m)).2=0) (hP:LiR c m ((putOp (i:Int) r).fc l c).1 P') (hP':rightA P'=true):((putOp (i:Int) r).fc l' (c+m)).1=P' :=
 row_lift core_A (fun l h=>rightA_right h) hA hA' hl h1 h2 hP hP'
theorem face_right {i c:Nat} {r:List C} {l:List C} (hA:rightA l=true):rightA ((putOp (i:Int) r).fc l c).1=true:=by
 show rightA (putRow ptA (i:Int) r l c).1=true
 unfold putRow
 split
 ·split
  ·exact ptA_right _ _ _
  ·exact rightA_nil
 ·exact hA
theorem stay_no {o:DOp} {bd:Nat} {f:List C} (h:stayB o bd f=false):(o.fc f bd).1=[]:=by
 unfold stayB at h
 simpa using h
theorem stay_row {o:DOp} {bd:Nat} {f:List C}:stayB o bd f = !(o.fc f bd).1.isEmpty:=rfl
theorem lfR_empty {c m:Nat} {l l':List C} (h:LiR c m l l'):l'.isEmpty=l.isEmpty:=by
 cases l with
 | nil =>
  cases l' with
  | nil=>rfl
  | cons x l'=>obtain⟨d,hd,_⟩:=h.2 x (by simp);cases hd
 | cons y l =>
  cases l' with
  | nil=>obtain⟨d,hd,_⟩:=h.1 y (by simp);cases hd
  | cons x l'=>rfl
theorem d_li {i m:Nat} {a:Int} {r:List C}:∀ (N:Nat) (t:Tm) (bv bd:Nat),blk t≤N→OkX t→RK m t bd→eT (putOp (i:Int) r) t bd=0→RK m (dT (putOp (i:Int) r) t bd) bd→eT (putOp (i:Int) r) (liT (sf a (m:Int)) t bv bd) (bd+m)=0 →
  dT (putOp (i:Int) r) (liT (sf a (m:Int)) t bv bd) (bd+m)=liT (sf a (m:Int)) (dT (putOp (i:Int) r) t bd) bv bd
 | 0,t,bv,bd,hN,_,_,_,_,_=>by have:=blk_pos t;omega
 | N+1,t,bv,bd,hN,hok,hrk,he,hrd,hel=>by
  obtain⟨ow1,ow2⟩:=okx_own hok
  obtain⟨sb1,sb2⟩:=okx_sub hok
  obtain⟨e1,e2,e3⟩:=e_parts he
  obtain⟨f1,f2,f3⟩:=e_parts hel
  rw [rk_eq] at hrk hrd
  obtain⟨k1,k2,k3⟩:=hrk
  obtain⟨g1,g2,g3⟩:=hrd
  obtain⟨k,n,nm,rr,kids,sys⟩:=t
  rw [li_eq] at f1 f2 f3
  rw [d_eq] at g1 g2 g3
  dsimp only at ow1 ow2 sb1 sb2 e1 e2 e3 f1 f2 f3 k1 k2 k3 g1 g2 g3
  rw [d_eq,li_eq (sf a (m:Int)) (.mk k n nm rr kids sys),d_eq (putOp (i:Int) r) (.mk k n nm rr kids sys),li_eq]
  dsimp only
  have fL:∀ b∈sys,LiR bd m b.1 (rowP (sf a (m:Int)) bd b.1).1∧rightA (rowP (sf a (m:Int)) bd b.1).1=true:=fun b hb=>by
   obtain⟨q1,_,q3⟩:=row_lf (a:=a) (k3 b hb).1
   exact⟨q1,q3 (sb2 b hb).1⟩
  have f3':∀ b∈sys,((putOp (i:Int) r).fc (rowP (sf a (m:Int)) bd b.1).1 (bd+m)).2=0:=fun b hb=>(f3 _ (List.mem_map_of_mem hb)).1
  have hno:∀ b∈sys,stayB (putOp (i:Int) r) bd b.1=false→stayB (putOp (i:Int) r) (bd+m) (rowP (sf a (m:Int)) bd b.1).1=false:=fun b hb hs=>by
   have e:=face_lift (P':=[]) (sb2 b hb).1 (fL b hb).2 (fL b hb).1 (e3 b hb).1 (f3' b hb) (by rw [stay_no hs];exact lfR_nil _ _) rightA_nil
   rw [stay_row,e];rfl
  have hface:∀ b∈sys,stayB (putOp (i:Int) r) bd b.1=true→((putOp (i:Int) r).fc (rowP (sf a (m:Int)) bd b.1).1 (bd+m)).1=(rowP (sf a (m:Int)) bd ((putOp (i:Int) r).fc b.1 bd).1).1∧LiR bd m ((putOp (i:Int) r).fc b.1 bd).1 (rowP (sf a (m:Int)) bd ((putOp (i:Int) r).fc b.1 bd).1).1:=fun b hb hs=>by
   have hm:dB (putOp (i:Int) r) k b bd∈dS (putOp (i:Int) r) k sys bd:=List.mem_map_of_mem (List.mem_filter.2 ⟨hb,hs⟩)
   obtain⟨q1,_,q3⟩:=row_lf (a:=a) (g3 _ hm).1
   exact⟨face_lift (sb2 b hb).1 (fL b hb).2 (fL b hb).1 (e3 b hb).1 (f3' b hb) q1 (q3 (face_right (sb2 b hb).1)),q1⟩
  have hst:∀ b∈sys,stayB (putOp (i:Int) r) (bd+m) (rowP (sf a (m:Int)) bd b.1).1=stayB (putOp (i:Int) r) bd b.1:=fun b hb=>by
   cases hs:stayB (putOp (i:Int) r) bd b.1 with
   | false=>exact hno b hb hs
   | true =>
    obtain⟨e,q⟩:=hface b hb hs
    rw [stay_row,e,lfR_empty q,← stay_row,hs]
  congr 1
  ·exact own_lift ow1 ow2 k1 e1 f1 g1
  ·refine List.ext_getElem? fun j=>?_
   rw [dK_get?,liK_get?,liK_get?,dK_get?]
   cases hj:kids[j]? with
   | none=>rfl
   | some x =>
    simp only [Option.map_some]
    have ea:bd+m+bdK k j=bd+bdK k j+m:=by omega
    have f2':=f2 j _ (by rw [liK_get?,hj];rfl)
    rw [ea] at f2' ⊢
    rw [d_li N x _ _ (by have:=blk_kid (t:=.mk k n nm rr kids sys) (List.mem_of_getElem? hj);omega) (sb1 j x hj) (k2 j x hj) (e2 j x hj) (g2 j _ (by rw [dK_get?,hj];rfl)) f2']
  ·unfold dS
   rw [List.filter_map,List.map_map,List.map_map]
   have ef:sys.filter ((fun b=>stayB (putOp (i:Int) r) (bd+m) b.1) ∘ fun b=>liB (sf a (m:Int)) k b bv bd)=sys.filter fun b=>stayB (putOp (i:Int) r) bd b.1 :=
    List.filter_congr fun b hb=>hst b hb
   rw [ef]
   refine List.map_congr_left fun b hb=>?_
   obtain⟨hb1,hs⟩:=List.mem_filter.1 hb
   show dB (putOp (i:Int) r) k (liB (sf a (m:Int)) k b bv bd) (bd+m)=liB (sf a (m:Int)) k (dB (putOp (i:Int) r) k b bd) bv bd
   unfold dB liB
   dsimp only
   rw [(hface b hb1 hs).1,List.map_map,List.map_map]
   congr 1
   refine List.map_congr_left fun x hx=>?_
   show dT (putOp (i:Int) r) (liT (sf a (m:Int)) x bv (bd+moreK k)) (bd+m+moreK k)=liT (sf a (m:Int)) (dT (putOp (i:Int) r) x (bd+moreK k)) bv (bd+moreK k)
   have ea:bd+m+moreK k=bd+moreK k+m:=by omega
   have hm:dB (putOp (i:Int) r) k b bd∈dS (putOp (i:Int) r) k sys bd:=List.mem_map_of_mem (List.mem_filter.2 ⟨hb1,hs⟩)
   have f3'':=(f3 _ (List.mem_map_of_mem hb1)).2 (by rw [show (liB (sf a (m:Int)) k b bv bd).1=(rowP (sf a (m:Int)) bd b.1).1 from rfl,hst b hb1];exact hs) (liT (sf a (m:Int)) x bv (bd+moreK k)) (List.mem_map_of_mem hx)
   rw [ea] at f3'' ⊢
   exact d_li N x _ _ (by have:=blk_sub (t:=.mk k n nm rr kids sys) hb1 hx;omega) ((sb2 b hb1).2 x hx) ((k3 b hb1).2 x hx) ((e3 b hb1).2 hs x hx) ((g3 _ hm).2 _ (List.mem_map_of_mem hx)) f3''
theorem eP_sub {n:Int} {u t:Tm} {bv bd:Nat} (h:eP n u t bv bd=0) (hk:t.kind≠1):(∀ (i:Nat) (x:Tm),t.kids[i]? = some x→eP n u x (bv+bvK t.kind i) (bd+bdK t.kind i)=0)∧∀ b∈t.sys,∀ x∈b.2,eP n u x bv (bd+moreK t.kind)=0:=by
 rw [eP_eq,if_neg hk] at h
 have hz:=firstE_zero.1 h
 refine⟨fun i x hx=>hz _ (List.mem_append_left _ (List.mem_of_getElem? (ePK_get hx))),fun b hb x hx=>?_⟩
 have h2:=hz _ (List.mem_append_right _ (List.mem_map_of_mem (f:=fun b=>firstE (ePL n u t.kind b.2 bv bd)) hb))
 exact firstE_zero.1 h2 _ (List.mem_map_of_mem (f:=fun x=>eP n u x bv (bd+moreK t.kind)) hx)
theorem d_put {i:Nat} {r:List C} {n:Int} {u:Tm} (hu:OkX u) (heu:eT (putOp (i:Int) r) u 0=0):∀ (N:Nat) (t:Tm) (bv bd:Nat),blk t≤N→OkX t→Fp t→Fm t→eP n u t bv bd=0→eT (putOp (i:Int) r) t bd=0→eT (putOp (i:Int) r) (putT n u t bv bd) bd=0→eP n (dT (putOp (i:Int) r) u 0) (dT (putOp (i:Int) r) t bd) bv bd=0 →
  dT (putOp (i:Int) r) (putT n u t bv bd) bd=putT n (dT (putOp (i:Int) r) u 0) (dT (putOp (i:Int) r) t bd) bv bd
 | 0,t,bv,bd,hN,_,_,_,_,_,_,_=>by have:=blk_pos t;omega
 | N+1,t,bv,bd,hN,hok,hfp,hfm,h1,h2,h3,h4=>by
  obtain⟨hn0,hvk,hfk,hfs⟩:=(fp_eq t).1 hfp
  obtain⟨_,hvr,hmk,hms⟩:=(fm_eq t).1 hfm
  obtain⟨sb1,sb2⟩:=okx_sub hok
  obtain⟨e1,e2,e3⟩:=e_parts h2
  obtain⟨k,m,nm,rr,kids,sys⟩:=t
  dsimp only at hn0 hvk hfk hfs hvr hmk hms sb1 sb2 e1 e2 e3
  have ed:=d_eq (putOp (i:Int) r) (.mk k m nm rr kids sys) bd
  dsimp only at ed
  by_cases hk:k=1
  ·obtain⟨q1,q2⟩:=hvk hk
   have q3:=hvr hk
   subst hk q1 q2 q3
   have e0:(ownP (putOp (i:Int) r) 1 [] bd).1=[]:=by
    have:ownP (putOp (i:Int) r) 1 [] bd=putRow putF (i:Int) r [] bd:=by unfold ownP;rw [if_neg (by decide)];rfl
    rw [this,put_no (fun _=>by simp [inF])]
   have ed2:dT (putOp (i:Int) r) (.mk 1 m nm [] [] []) bd=.mk 1 m nm [] [] []:=by
    rw [ed,e0]
    simp [dK,dS]
   rw [ed2] at h4 ⊢
   rw [put_eq,put_eq]
   rw [put_eq] at h3
   rw [eP_eq] at h1 h4
   dsimp only at h1 h3 h4 ⊢
   rw [if_pos rfl] at h1 h4
   by_cases q:m - (bv:Int)=n
   ·rw [if_pos q] at h1 h4
    rw [if_pos ⟨rfl,q⟩] at h3 ⊢
    rw [if_pos ⟨rfl,q⟩]
    obtain⟨b1,b2⟩:=both_li h1
    obtain⟨b3,b4⟩:=both_li h4
    rw [b1] at h3 ⊢
    rw [b3]
    have:=d_li (i:=i) (a:=(bv:Int)) (r:=r) _ u 0 0 (Nat.le_refl _) hu b2 heu b4 (by rw [Nat.zero_add];exact h3)
    rw [Nat.zero_add] at this
    exact this
   ·rw [if_neg (fun z=>q z.2),if_neg (fun z=>q z.2),d_eq]
    dsimp only
    rw [e0]
    simp [dK,dS,putK]
  ·have h3':=put_eq n u (.mk k m nm rr kids sys) bv bd
   dsimp only at h3'
   rw [if_neg (fun z=>hk z.1)] at h3'
   rw [h3'] at h3 ⊢
   obtain⟨f1,f2,f3⟩:=e_parts h3
   obtain⟨a1,a2⟩:=eP_sub h1 hk
   rw [ed] at h4 ⊢
   obtain⟨c1,c2⟩:=eP_sub h4 hk
   dsimp only at f1 f2 f3 a1 a2 c1 c2
   rw [d_eq,put_eq]
   dsimp only
   rw [if_neg (fun z=>hk z.1)]
   congr 1
   ·refine List.ext_getElem? fun j=>?_
    rw [dK_get?,putK_get?,putK_get?,dK_get?]
    cases hj:kids[j]? with
    | none=>rfl
    | some x =>
     simp only [Option.map_some]
     rw [d_put hu heu N x _ _ (by have:=blk_kid (t:=.mk k m nm rr kids sys) (List.mem_of_getElem? hj);omega) (sb1 j x hj) (hfk x (List.mem_of_getElem? hj)) (hmk x (List.mem_of_getElem? hj)) (a1 j x hj) (e2 j x hj) (f2 j _ (by rw [putK_get?,hj];rfl)) (c1 j _ (by rw [dK_get?,hj];rfl))]
   ·unfold dS
    rw [List.filter_map,List.map_map,List.map_map]
    have ef:sys.filter ((fun b=>stayB (putOp (i:Int) r) bd b.1) ∘ fun b=>putB n u k b bv bd)=sys.filter fun b=>stayB (putOp (i:Int) r) bd b.1 :=
     List.filter_congr fun b hb=>rfl
    rw [ef]
    refine List.map_congr_left fun b hb=>?_
    obtain⟨hb1,hs⟩:=List.mem_filter.1 hb
    show dB (putOp (i:Int) r) k (putB n u k b bv bd) bd=putB n (dT (putOp (i:Int) r) u 0) k (dB (putOp (i:Int) r) k b bd) bv bd
    unfold dB putB
    dsimp only
    rw [List.map_map,List.map_map]
    congr 1
    refine List.map_congr_left fun x hx=>?_
    show dT (putOp (i:Int) r) (putT n u x bv (bd+moreK k)) (bd+moreK k)=putT n (dT (putOp (i:Int) r) u 0) (dT (putOp (i:Int) r) x (bd+moreK k)) bv (bd+moreK k)
    have hm:dB (putOp (i:Int) r) k b bd∈dS (putOp (i:Int) r) k sys bd:=List.mem_map_of_mem (List.mem_filter.2 ⟨hb1,hs⟩)
    exact d_put hu heu N x _ _ (by have:=blk_sub (t:=.mk k m nm rr kids sys) hb1 hx;omega) ((sb2 b hb1).2 x hx) (hfs b hb1 x hx) (hms b hb1 x hx) (a2 b hb1 x hx) ((e3 b hb1).2 hs x hx) ((f3 _ (List.mem_map_of_mem hb1)).2 hs _ (List.mem_map_of_mem hx)) (c2 _ hm _ (List.mem_map_of_mem hx))
theorem eP_kid {n:Int} {u t:Tm} {bv bd:Nat} (h:eP n u t bv bd=0) (hk:t.kind≠1):(∀ (i:Nat) (x:Tm),t.kids[i]? = some x→eP n u x (bv+bvK t.kind i) (bd+bdK t.kind i)=0)∧∀ b∈t.sys,∀ x∈b.2,eP n u x bv (bd+moreK t.kind)=0:=by
 rw [eP_eq,if_neg hk,firstE_zero] at h
 refine⟨fun i x hx=>h _ (List.mem_append.2 (.inl (List.mem_of_getElem? (ePK_get hx)))),fun b hb x hx=>?_⟩
 have h2:=h _ (List.mem_append.2 (.inr (List.mem_map.2 ⟨b,hb,rfl⟩)))
 rw [firstE_zero] at h2
 exact h2 _ (List.mem_map.2 ⟨x,hx,rfl⟩)
def ownT (t:Tm):Nat:=1+t.r.length+t.name.size+(t.sys.map fun b=>1+b.1.length).sum
def WtP (K:Nat):Tm→Prop:=Tm.fold fun _ _ s r ks sys=>1+r.length+s.size+(sys.map fun b=>1+b.1.length).sum≤K∧(∀ p∈ks,p)∧∀ b∈sys,∀ p∈b.2,p
theorem wt_eq (K:Nat) (t:Tm):WtP K t↔(ownT t≤K∧(∀ x∈t.kids,WtP K x)∧∀ b∈t.sys,∀ x∈b.2,WtP K x):=by
 unfold WtP ownT
 rw [fold_mk]
 simp only [List.mem_map,forall_exists_index,and_imp,forall_apply_eq_imp_iff₂,List.map_map,Function.comp_def]
theorem sum_pt {α:Type} (l:List α) (f g:α→Nat):(l.map fun b=>f b+g b).sum=(l.map f).sum+(l.map g).sum:=by
 induction l with
 | nil=>rfl
 | cons a l ih=>simp only [List.map_cons,List.sum_cons,ih];omega
theorem blk_own (t:Tm):blk t=ownT t+blkL t.kids+(t.sys.map fun b=>blkL b.2).sum:=by
 rw [blk_eq]
 have e:blkS t.sys=(t.sys.map fun b=>1+b.1.length).sum+(t.sys.map fun b=>blkL b.2).sum:=sum_pt t.sys (fun b=>1+b.1.length) (fun b=>blkL b.2)
 rw [e]
 unfold ownT
 omega
theorem wt_of_blk {K:Nat}:∀ (N:Nat) (t:Tm),blk t≤N→blk t≤K→WtP K t
 | 0,t,h,_=>by have:=blk_pos t;omega
 | N+1,t,h,hK=>by
  rw [wt_eq]
  have:=blk_own t
  exact⟨by omega,fun x hx=>wt_of_blk N x (by have:=blk_kid hx;omega) (by have:=blk_kid hx;omega),fun b hb x hx=>wt_of_blk N x (by have:=blk_sub hb hx;omega) (by have:=blk_sub hb hx;omega)⟩
theorem sum_mul {α:Type} {l:List α} {f g:α→Nat} {K:Nat} (h:∀ x∈l,f x≤K*g x):(l.map f).sum≤K*(l.map g).sum:=by
 induction l with
 | nil=>simp
 | cons a l ih =>
  have h1:=h a (by simp)
  have h2:=ih fun x hx=>h x (by simp [hx])
  simp only [List.map_cons,List.sum_cons,Nat.mul_add]
  omega
theorem blk_wt {K:Nat}:∀ (N:Nat) (t:Tm),blk t≤N→WtP K t→blk t≤K*sizeT t
 | 0,t,h,_=>by have:=blk_pos t;omega
 | N+1,t,h,hw=>by
  rw [wt_eq] at hw
  rw [blk_own,size_eq]
  have h1:blkL t.kids≤K*szL t.kids:=sum_mul fun x hx=>blk_wt N x (by have:=blk_kid hx;omega) (hw.2.1 x hx)
  have h2:(t.sys.map fun b=>blkL b.2).sum≤K*szS t.sys:=sum_mul fun b hb=>sum_mul fun x hx=>blk_wt N x (by have:=blk_sub hb hx;omega) (hw.2.2 b hb x hx)
  have h3:=hw.1
  simp only [Nat.mul_add,Nat.mul_one]
  omega
theorem wt_li {K:Nat} {s:Sf}:∀ (N:Nat) (t:Tm) (bv bd:Nat),blk t≤N→WtP K t→WtP K (liT s t bv bd)
 | 0,t,bv,bd,h,_=>by have:=blk_pos t;omega
 | N+1,t,bv,bd,h,hw=>by
  rw [wt_eq] at hw
  rw [li_eq,wt_eq]
  dsimp only
  refine⟨?_,fun y hy=>?_,fun b hb y hy=>?_⟩
  ·have h1:=hw.1
   unfold ownT at h1 ⊢
   dsimp only
   have h2:=rowP_len s bd t.r
   have h3:((t.sys.map fun b=>liB s t.kind b bv bd).map fun b=>1+b.1.length).sum≤(t.sys.map fun b=>1+b.1.length).sum:=by
    rw [List.map_map]
    exact sumN_le fun b _=>by show 1+(rowP s bd b.1).1.length≤_;have:=rowP_len s bd b.1;omega
   omega
  ·obtain⟨i,x,hx,rfl⟩:=mem_liK hy
   exact wt_li N x _ _ (by have:=blk_kid (List.mem_of_getElem? hx);omega) (hw.2.1 x (List.mem_of_getElem? hx))
  ·obtain⟨c,hc,rfl⟩:=List.mem_map.1 hb
   obtain⟨x,hx,rfl⟩:=List.mem_map.1 hy
   exact wt_li N x _ _ (by have:=blk_sub hc hx;omega) (hw.2.2 c hc x hx)
theorem size_liW {s:Sf}:∀ (N:Nat) (t:Tm) (bv bd:Nat),blk t≤N→sizeT (liT s t bv bd)=sizeT t
 | 0,t,bv,bd,hn=>by have:=blk_pos t;omega
 | N+1,t,bv,bd,hn=>by
  have e:=size_eq (liT s t bv bd)
  rw [li_eq] at e
  rw [li_eq,e,size_eq t]
  dsimp only
  have h2:szL (liK s t.kind t.kids bv bd)=szL t.kids:=by
   unfold szL
   congr 1
   refine List.ext_getElem? fun i=>?_
   rw [List.getElem?_map,List.getElem?_map,liK_get?]
   cases hi:t.kids[i]? with
   | none=>rfl
   | some x=>simp only [Option.map_some];rw [size_liW N x _ _ (by have:=blk_kid (List.mem_of_getElem? hi);omega)]
  have h3:szS (t.sys.map fun b=>liB s t.kind b bv bd)=szS t.sys:=by
   unfold szS
   rw [List.map_map]
   congr 1
   refine List.map_congr_left fun b hb=>?_
   show szL (b.2.map fun x=>liT s x bv (bd+moreK t.kind))=szL b.2
   unfold szL
   rw [List.map_map]
   congr 1
   exact List.map_congr_left fun x hx=>size_liW N x _ _ (by have:=blk_sub hb hx;omega)
  rw [h2,h3]
theorem zero_t:blk zeroT=1∧sizeT zeroT=1:=by decide +kernel
theorem wt_zero {K:Nat} (h:1≤K):WtP K zeroT:=wt_of_blk _ _ (Nat.le_refl _) (by rw [zero_t.1];exact h)
theorem both_any {a d:Int} {u:Tm}:blk (bothT a d u)≤blk u∧∀ K,1≤K→WtP K u→WtP K (bothT a d u):=by
 unfold bothT
 split
 ·refine⟨Nat.le_trans (blk_li _ _ 0 0 (Nat.le_refl _)) (blk_li _ _ 0 0 (Nat.le_refl _)),fun K hK hw=>wt_li _ _ 0 0 (Nat.le_refl _) (wt_li _ _ 0 0 (Nat.le_refl _) hw)⟩
 ·exact⟨by rw [zero_t.1];exact blk_pos u,fun K hK _=>wt_zero hK⟩
theorem wt_put {K:Nat} (hK:1≤K) {n:Int} {u:Tm} (hu:WtP K u):∀ (N:Nat) (t:Tm) (bv bd:Nat),blk t≤N→WtP K t→WtP K (putT n u t bv bd)
 | 0,t,bv,bd,h,_=>by have:=blk_pos t;omega
 | N+1,t,bv,bd,h,hw=>by
  rw [put_eq]
  split
  ·exact both_any.2 K hK hu
  ·rw [wt_eq] at hw ⊢
   dsimp only
   refine⟨?_,fun y hy=>?_,fun b hb y hy=>?_⟩
   ·have h1:=hw.1
    unfold ownT at h1 ⊢
    dsimp only
    rw [List.map_map]
    exact h1
   ·obtain⟨i,hi⟩:=List.mem_iff_getElem?.1 hy
    rw [putK_get?] at hi
    cases hx:t.kids[i]? with
    | none=>rw [hx] at hi;cases hi
    | some x =>
     rw [hx] at hi
     cases hi
     exact wt_put hK hu N x _ _ (by have:=blk_kid (List.mem_of_getElem? hx);omega) (hw.2.1 x (List.mem_of_getElem? hx))
   ·obtain⟨c,hc,rfl⟩:=List.mem_map.1 hb
    obtain⟨x,hx,rfl⟩:=List.mem_map.1 hy
    exact wt_put hK hu N x _ _ (by have:=blk_sub hc hx;omega) (hw.2.2 c hc x hx)
theorem sum_addmul {α:Type} {l:List α} {f g c:α→Nat} {U:Nat} (h:∀ x∈l,f x≤g x+c x*U):(l.map f).sum≤(l.map g).sum+(l.map c).sum*U:=by
 induction l with
 | nil=>simp
 | cons a l ih =>
  have h1:=h a (by simp)
  have h2:=ih fun x hx=>h x (by simp [hx])
  simp only [List.map_cons,List.sum_cons,Nat.add_mul]
  omega
theorem zip_kids {l:List Tm} {f:Tm→Nat}:((l.zipIdx).map fun p=>f p.1)=l.map f:=by
 refine List.ext_getElem? fun i=>?_
 rw [List.getElem?_map,List.getElem?_zipIdx,List.getElem?_map]
 cases l[i]? <;> simp
theorem blk_put {n:Int} {u:Tm}:∀ (N:Nat) (t:Tm) (bv bd:Nat),blk t≤N→blk (putT n u t bv bd)≤blk t+cnP n t bv*blk u
 | 0,t,bv,bd,h=>by have:=blk_pos t;omega
 | N+1,t,bv,bd,h=>by
  rw [put_eq,cn_eq]
  by_cases hc:t.kind=1∧t.n - (bv:Int)=n
  ·rw [if_pos hc,if_pos hc]
   have:=(both_any (a:=(bv:Int)) (d:=(bd:Int)) (u:=u)).1
   have h2:1*blk u≤(1+((cnK n t.kind t.kids bv).sum+(t.sys.map fun b=>(cnL n b.2 bv).sum).sum)) * blk u:=Nat.mul_le_mul_right _ (by omega)
   omega
  ·rw [if_neg hc,if_neg hc,blk_own,blk_own t]
   dsimp only
   have h1:ownT (.mk t.kind (pnV n bv t.kind t.n) t.name t.r (putK n u t.kind t.kids bv bd) (t.sys.map fun b=>putB n u t.kind b bv bd))=ownT t:=by
    unfold ownT
    dsimp only
    rw [List.map_map]
    rfl
   have h2:blkL (putK n u t.kind t.kids bv bd)≤blkL t.kids+(cnK n t.kind t.kids bv).sum*blk u:=by
    unfold blkL putK cnK
    rw [List.map_map,← zip_kids (l:=t.kids) (f:=blk)]
    exact sum_addmul fun p hp=>blk_put N p.1 _ _ (by have:=blk_kid (zip_mem hp);omega)
   have h3:((t.sys.map fun b=>putB n u t.kind b bv bd).map fun b=>blkL b.2).sum≤(t.sys.map fun b=>blkL b.2).sum+(t.sys.map fun b=>(cnL n b.2 bv).sum).sum*blk u:=by
    rw [List.map_map]
    refine sum_addmul fun b hb=>?_
    show blkL (b.2.map fun x=>putT n u x bv (bd+moreK t.kind))≤_
    unfold blkL cnL
    rw [List.map_map]
    exact sum_addmul fun x hx=>blk_put N x _ _ (by have:=blk_sub hb hx;omega)
   rw [h1,Nat.zero_add,Nat.add_mul]
   omega
theorem size_both {a d:Nat} {u:Tm} (h:bothE (a:Int) (d:Int) u=0):sizeT (bothT (a:Int) (d:Int) u)=sizeT u:=by
 rw [(both_li h).1]
 exact size_liW _ u 0 0 (Nat.le_refl _)
theorem sum_eqmul {α:Type} {l:List α} {f g c:α→Nat} {U:Nat} (h:∀ x∈l,f x+c x=g x+c x*U):(l.map f).sum+(l.map c).sum=(l.map g).sum+(l.map c).sum*U:=by
 induction l with
 | nil=>simp
 | cons a l ih =>
  have h1:=h a (by simp)
  have h2:=ih fun x hx=>h x (by simp [hx])
  simp only [List.map_cons,List.sum_cons,Nat.add_mul]
  omega
theorem size_put {n:Int} {u:Tm}:∀ (N:Nat) (t:Tm) (bv bd:Nat),blk t≤N→Fp t→eP n u t bv bd=0→sizeT (putT n u t bv bd) + cnP n t bv=sizeT t+cnP n t bv*sizeT u
 | 0,t,bv,bd,h,_,_=>by have:=blk_pos t;omega
 | N+1,t,bv,bd,h,hf,he=>by
  obtain⟨hn0,hvk,hfk,hfs⟩:=(fp_eq t).1 hf
  rw [put_eq,cn_eq]
  by_cases hk:t.kind=1
  ·obtain⟨e1,e2⟩:=hvk hk
   have z1:(cnK n t.kind t.kids bv).sum=0:=by rw [e1];rfl
   have z2:(t.sys.map fun b=>(cnL n b.2 bv).sum).sum=0:=by rw [e2];rfl
   have z3:sizeT t=1:=by rw [size_eq,e1,e2];rfl
   rw [z1,z2,z3]
   rw [eP_eq,if_pos hk] at he
   by_cases hc:t.n - (bv:Int)=n
   ·rw [if_pos hc] at he
    rw [if_pos ⟨hk,hc⟩,if_pos ⟨hk,hc⟩,size_both he]
    omega
   ·rw [if_neg (fun z=>hc z.2),if_neg (fun z=>hc z.2),size_eq]
    dsimp only
    rw [e1,e2]
    show 1+(szL (putK n u t.kind [] bv bd) + szS []) + _=_
    have:szL (putK n u t.kind [] bv bd)=0:=rfl
    have q2:szS []=0:=rfl
    rw [this,q2]
    omega
  ·obtain⟨a1,a2⟩:=eP_kid he hk
   rw [if_neg (fun z=>hk z.1),if_neg (fun z=>hk z.1),size_eq,size_eq t]
   dsimp only
   have h2:szL (putK n u t.kind t.kids bv bd) + (cnK n t.kind t.kids bv).sum=szL t.kids+(cnK n t.kind t.kids bv).sum*sizeT u:=by
    unfold szL putK cnK
    rw [List.map_map,← zip_kids (l:=t.kids) (f:=sizeT)]
    refine sum_eqmul fun p hp=>?_
    have hp':=List.mem_zipIdx_iff_getElem?.1 hp
    exact size_put N p.1 _ _ (by have:=blk_kid (zip_mem hp);omega) (hfk _ (zip_mem hp)) (a1 p.2 p.1 hp')
   have h3:szS (t.sys.map fun b=>putB n u t.kind b bv bd) + (t.sys.map fun b=>(cnL n b.2 bv).sum).sum=szS t.sys+(t.sys.map fun b=>(cnL n b.2 bv).sum).sum*sizeT u:=by
    unfold szS
    rw [List.map_map]
    refine sum_eqmul fun b hb=>?_
    show szL (b.2.map fun x=>putT n u x bv (bd+moreK t.kind)) + (cnL n b.2 bv).sum=szL b.2+(cnL n b.2 bv).sum*sizeT u
    unfold szL cnL
    rw [List.map_map]
    exact sum_eqmul fun x hx=>size_put N x _ _ (by have:=blk_sub hb hx;omega) (hfs b hb x hx) (a2 b hb x hx)
   simp only [Nat.zero_add,Nat.add_mul]
   omega
theorem ple_zero {n:Int} {t u:Tm} (h:plE n t u=0):wrongN true 0 0 t=0∧wrongN true 0 0 u=0∧¬ 20000<(sizeT t:Int) + cnP n t 0*((sizeT u:Int) - 1)∧eP n u t 0 0=0∧plT n t u=putT n u t 0 0:=by
 have e:plT n t u=putT n u t 0 0:=by unfold plT;rw [if_pos h]
 unfold plE at h
 by_cases h1:wrongN true 0 0 t≠0
 ·rw [if_pos h1] at h;omega
 ·rw [if_neg h1] at h
  by_cases h2:wrongN true 0 0 u≠0
  ·rw [if_pos h2] at h;omega
  ·rw [if_neg h2] at h
   by_cases h3:n<0
   ·rw [if_pos h3] at h;omega
   ·rw [if_neg h3] at h
    by_cases h4:20000<(sizeT t:Int) + cnP n t 0*((sizeT u:Int) - 1)
    ·rw [if_pos h4] at h;omega
    ·rw [if_neg h4] at h
     by_cases h5:eP n u t 0 0≠0
     ·rw [if_pos h5] at h;exact absurd h h5
     ·exact⟨by omega,by omega,h4,by omega,e⟩
theorem blk_pl {n:Int} {t u:Tm} (ht:blk t≤100) (hu:blk u≤100):blk (plT n t u)≤10100:=by
 unfold plT
 split
 ·have h1:=blk_put (n:=n) (u:=u) _ t 0 0 (Nat.le_refl _)
  have h2:=cn_blk n _ t 0 (Nat.le_refl _)
  have h3:cnP n t 0*blk u≤100*100:=Nat.mul_le_mul (by omega) hu
  omega
 ·rw [zero_t.1];omega
theorem hsm_any {n:Int} {t u:Tm} (ht:WtP 100 t) (hu:WtP 100 u) (h1:wrongN true 0 0 t=0) (h2:eP n u t 0 0=0) (h3:¬ 20000<(sizeT t:Int) + cnP n t 0*((sizeT u:Int) - 1)):blk (putT n u t 0 0)≤10000000:=by
 have q1:=size_put _ t 0 0 (Nat.le_refl _) (fp_of_wrong h1) h2
 have q2:=blk_wt (K:=100) _ _ (Nat.le_refl _) (wt_put (n:=n) (by omega) hu _ t 0 0 (Nat.le_refl _) ht)
 have q3:(cnP n t 0:Int) * ((sizeT u:Int) - 1)=((cnP n t 0*sizeT u:Nat):Int) - cnP n t 0:=by
  rw [Int.mul_sub,Int.mul_one]
  rfl
 rw [q3] at h3
 omega
end Go.Proofs.YtblbhmnahoiecaaGreat
