/- Lifts add up. -/
import Derived.Test.YtmblbmdchinflaaGreatBG23
import Derived.Test.YtmblbmdchinflaaGreatBG33
import Derived.Test.YtmblbmdchinflaaGreatBG18
import Derived.Test.YtmblbmdchinflaaGreatBYBtB
import Derived.Deep.RegionHeld3
import Derived.Test.YtmblbmdchinflaaGreatBG16
import Derived.Test.YtmblbmdchinflaaGreatBYRight
set_option linter.unusedVariables false
set_option linter.unusedSimpArgs false
namespace Go.Proofs.YtmblbmdchinflaaGreat
open Go.RowKit
def sf (a b:Int):Sf:=⟨0,a,0,b⟩
theorem map_congr_mem {α β:Type} {f g:α→β} {l:List α} (h:∀ x∈l,f x=g x):l.map f=l.map g:=List.map_congr_left h
theorem zip_mem {l:List Tm} {p:Tm × Nat} (h:p∈l.zipIdx):p.1∈l:=List.mem_of_getElem? (List.mem_zipIdx_iff_getElem?.1 h)
theorem zip_zip {β:Type} (l:List Tm) (g:Tm × Nat→Tm) (f:Tm × Nat→β):((l.zipIdx.map g).zipIdx.map f)=l.zipIdx.map fun p=>f (g p,p.2):=by
 refine List.ext_getElem? fun i=>?_
 simp only [List.getElem?_map,List.getElem?_zipIdx]
 cases l[i]? <;> simp
theorem row_row {a b c d:Int} (h:b=0∨d=0) (bd:Nat) (r:List C):rowP (sf c d) bd (rowP (sf a b) bd r).1=(if d=0 then ((rowP (sf a b) bd r).1,0) else rowP (sf a d) bd r):=by
 by_cases hd:d=0
 ·rw [if_pos hd];exact rowP_zero (s:=sf c d) hd bd _
 ·rw [if_neg hd,rowP_zero (s:=sf a b) (h.resolve_right hd)]
  rfl
theorem row_sum {a b c d:Int} (h:b=0∨d=0) (bd:Nat) (r:List C):(rowP (sf c d) bd (rowP (sf a b) bd r).1).1=(rowP (sf (a+c) (b+d)) bd r).1:=by
 rw [row_row h]
 by_cases hd:d=0
 ·rw [if_pos hd,hd,Int.add_zero];rfl
 ·rw [if_neg hd,h.resolve_right hd,Int.zero_add];rfl
theorem numV_sf (a b:Int) (bv:Nat) (k n:Int):numV (sf a b) bv k n=if k=1∧0≤n - (bv:Int) then n+a else n:=by
 have e:farB (sf a b) bv k n↔(k=1∧0≤n - (bv:Int)):=Iff.rfl
 unfold numV
 by_cases h:farB (sf a b) bv k n
 ·rw [if_pos h,if_pos (e.1 h)];rfl
 ·rw [if_neg h,if_neg (fun g=>h (e.2 g))]
theorem num_num {a b c d:Int} (ha:0≤a) (bv:Nat) (k n:Int):numV (sf c d) bv k (numV (sf a b) bv k n)=numV (sf (a+c) (b+d)) bv k n:=by
 rw [numV_sf,numV_sf,numV_sf]
 by_cases h1:k=1∧0≤n - (bv:Int)
 ·simp only [if_pos h1];rw [if_pos ⟨h1.1,by omega⟩];omega
 ·simp only [if_neg h1]
theorem li_li {a b c d:Int} (ha:0≤a) (h:b=0∨d=0):∀ (n:Nat) (t:Tm) (bv bd:Nat),blk t≤n→liT (sf c d) (liT (sf a b) t bv bd) bv bd=liT (sf (a+c) (b+d)) t bv bd
 | 0,t,bv,bd,hn=>by have:=blk_pos t;omega
 | n+1,t,bv,bd,hn=>by
  rw [li_eq (sf c d),li_eq (sf (a+c) (b+d)),li_eq (sf a b)]
  dsimp only
  rw [num_num ha,row_sum h]
  congr 1
  ·unfold liK
   rw [zip_zip]
   exact map_congr_mem fun p hp=>li_li ha h n p.1 _ _ (by have:=blk_kid (zip_mem hp);omega)
  ·rw [List.map_map]
   refine map_congr_mem fun x hx=>?_
   show liB _ _ (liB _ _ x _ _) _ _=_
   unfold liB
   dsimp only
   rw [row_sum h,List.map_map]
   congr 1
   exact map_congr_mem fun y hy=>li_li ha h n y _ _ (by have:=blk_sub hx hy;omega)
end Go.Proofs.YtmblbmdchinflaaGreat
set_option linter.unusedVariables false
set_option linter.unusedSimpArgs false
namespace Go.Proofs.YtmblbmdchinflaaGreat
open Go.RowKit
def RK (d:Nat):Tm→Nat→Prop:=Tm.fold fun k _ _ r ks sys bd =>
 (rowP ⟨0,0,0,(d:Int)⟩ bd r).2=0∧(∀ p∈ks.zipIdx,p.1 (bd+bdK k p.2))∧∀ b∈sys,(rowP ⟨0,0,0,(d:Int)⟩ bd b.1).2=0∧∀ f∈b.2,f (bd+moreK k)
theorem rk_eq (d:Nat) (t:Tm) (bd:Nat):RK d t bd↔((rowP ⟨0,0,0,(d:Int)⟩ bd t.r).2=0∧(∀ (i:Nat) (x:Tm),t.kids[i]? = some x→RK d x (bd+bdK t.kind i))∧∀ b∈t.sys,(rowP ⟨0,0,0,(d:Int)⟩ bd b.1).2=0∧∀ x∈b.2,RK d x (bd+moreK t.kind)):=by
 unfold RK
 rw [fold_mk]
 refine and_congr Iff.rfl (and_congr ⟨fun h i x hx=>?_,fun h p hp=>?_⟩ ⟨fun h b hb=>?_,fun h b hb=>?_⟩)
 ·refine h (_,i) ?_
  rw [List.mem_zipIdx_iff_getElem?,List.getElem?_map,hx]
  rfl
 ·obtain⟨g,i⟩:=p
  rw [List.mem_zipIdx_iff_getElem?,List.getElem?_map] at hp
  cases hx:t.kids[i]? with
  | none=>rw [hx] at hp;simp at hp
  | some x =>
   rw [hx] at hp
   simp only [Option.map_some,Option.some.injEq] at hp
   subst hp
   exact h i x hx
 ·have:=h _ (List.mem_map.2 ⟨b,hb,rfl⟩)
  exact⟨this.1,fun x hx=>this.2 _ (List.mem_map.2 ⟨x,hx,rfl⟩)⟩
 ·obtain⟨c,hc,rfl⟩:=List.mem_map.1 hb
  refine⟨(h c hc).1,fun f hf=>?_⟩
  obtain⟨x,hx,rfl⟩:=List.mem_map.1 hf
  exact (h c hc).2 x hx
theorem liK_get? (s:Sf) (k:Int) (l:List Tm) (bv bd i:Nat):(liK s k l bv bd)[i]? = (l[i]?).map fun x=>liT s x (bv+bvK k i) (bd+bdK k i):=by
 unfold liK
 rw [List.getElem?_map,List.getElem?_zipIdx]
 cases l[i]? <;> simp
theorem rk_of_er {v a:Int} {d:Nat}:∀ (N:Nat) (t:Tm) (bv bd:Nat),blk t≤N→erT ⟨v,a,0,(d:Int)⟩ t bv bd=0→RK d t bd
 | 0,t,bv,bd,h,_=>by have:=blk_pos t;omega
 | N+1,t,bv,bd,h,he=>by
  rw [er_eq,firstE_zero] at he
  have h1:=he _ (by simp:(rowP ⟨v,a,0,(d:Int)⟩ bd t.r).2∈_)
  rw [rk_eq]
  refine⟨h1,fun i x hx=>?_,fun b hb=>?_⟩
  ·refine rk_of_er (v:=v) (a:=a) N x (bv+bvK t.kind i) _ (by have:=blk_kid (List.mem_of_getElem? hx);omega) ?_
   refine he _ (List.mem_cons_of_mem _ (List.mem_cons_of_mem _ (List.mem_append.2 (.inl ?_))))
   exact List.mem_of_getElem? (erK_get hx)
  ·have h2:=he _ (List.mem_cons_of_mem _ (List.mem_cons_of_mem _ (List.mem_append.2 (.inr (List.mem_map.2 ⟨b,hb,rfl⟩)))))
   unfold erB at h2
   rw [firstE_zero] at h2
   refine⟨h2 (rowP ⟨v,a,0,(d:Int)⟩ bd b.1).2 (.head _),fun x hx=>?_⟩
   exact rk_of_er (v:=v) (a:=a) N x bv _ (by have:=blk_sub hb hx;omega) (h2 _ (List.mem_cons_of_mem _ (List.mem_map.2 ⟨x,hx,rfl⟩)))
theorem rk_li {v a:Int} {d:Nat}:∀ (N:Nat) (t:Tm) (bv bd bd':Nat),blk t≤N→RK d (liT ⟨v,a,0,0⟩ t bv bd) bd'→RK d t bd'
 | 0,t,bv,bd,bd',h,_=>by have:=blk_pos t;omega
 | N+1,t,bv,bd,bd',h,hr=>by
  have e0:∀ (bd:Nat) (r:List C),rowP ⟨v,a,0,0⟩ bd r=(r,0):=fun bd r=>rowP_zero rfl bd r
  rw [li_eq,rk_eq] at hr
  dsimp only at hr
  rw [e0] at hr
  rw [rk_eq]
  refine⟨hr.1,fun i x hx=>?_,fun b hb=>?_⟩
  ·refine rk_li (v:=v) (a:=a) N x (bv+bvK t.kind i) (bd+bdK t.kind i) _ (by have:=blk_kid (List.mem_of_getElem? hx);omega) (hr.2.1 i _ ?_)
   rw [liK_get?,hx];rfl
  ·have h2:=hr.2.2 _ (List.mem_map.2 ⟨b,hb,rfl⟩)
   unfold liB at h2
   rw [e0] at h2
   exact⟨h2.1,fun x hx=>rk_li (v:=v) (a:=a) N x bv (bd+moreK t.kind) _ (by have:=blk_sub hb hx;omega) (h2.2 _ (List.mem_map.2 ⟨x,hx,rfl⟩))⟩
theorem both_li {a d:Nat} {u:Tm} (h:bothE (a:Int) (d:Int) u=0):bothT (a:Int) (d:Int) u=liT (sf (a:Int) (d:Int)) u 0 0∧RK d u 0:=by
 have h':=h
 unfold bothE at h'
 by_cases q1:wrL (d:Int) (a:Int) u=0
 ·rw [if_pos q1] at h'
  by_cases q2:erT ⟨0,(a:Int),0,0⟩ u 0 0=0
  ·rw [if_pos q2] at h'
   by_cases q3:(1000000:Int) < (d:Int)
   ·rw [if_pos q3] at h'; omega
   ·rw [if_neg q3] at h'
    have hr:=rk_li _ u 0 0 0 (Nat.le_refl _) (rk_of_er _ _ 0 0 (Nat.le_refl _) h')
    refine⟨?_,hr⟩
    unfold bothT
    rw [if_pos h]
    have:=li_li (a:=(a:Int)) (b:=0) (c:=0) (d:=(d:Int)) (by omega) (.inl rfl) _ u 0 0 (Nat.le_refl _)
    rw [Int.add_zero,Int.zero_add] at this
    exact this
  ·rw [if_neg q2] at h'; exact absurd h' q2
 ·rw [if_neg q1] at h'; exact absurd h' q1
end Go.Proofs.YtmblbmdchinflaaGreat
set_option linter.unusedVariables false
set_option linter.unusedSimpArgs false
namespace Go.Proofs.YtmblbmdchinflaaGreat
open Go.RowKit
theorem eP_kid {n:Int} {u t:Tm} {bv bd:Nat} (h:eP n u t bv bd=0) (hk:t.kind≠1):(∀ (i:Nat) (x:Tm),t.kids[i]? = some x→eP n u x (bv+bvK t.kind i) (bd+bdK t.kind i)=0)∧∀ b∈t.sys,∀ x∈b.2,eP n u x bv (bd+moreK t.kind)=0:=by
 rw [eP_eq,if_neg hk,firstE_zero] at h
 refine⟨fun i x hx=>h _ (List.mem_append.2 (.inl (List.mem_of_getElem? (ePK_get hx)))),fun b hb x hx=>?_⟩
 have h2:=h _ (List.mem_append.2 (.inr (List.mem_map.2 ⟨b,hb,rfl⟩)))
 rw [firstE_zero] at h2
 exact h2 _ (List.mem_map.2 ⟨x,hx,rfl⟩)
end Go.Proofs.YtmblbmdchinflaaGreat
set_option linter.unusedVariables false
set_option linter.unusedSimpArgs false
namespace Go.Proofs.YtmblbmdchinflaaGreat
open Go.RowKit
def ownT (t:Tm):Nat:=1+t.r.length+t.name.size+(t.sys.map fun b=>1+b.1.length).sum
def WtP (K:Nat):Tm→Prop:=Tm.fold fun _ _ s r ks sys=>1+r.length+s.size+(sys.map fun b=>1+b.1.length).sum≤K∧(∀ p∈ks,p)∧∀ b∈sys,∀ p∈b.2,p
theorem wt_eq (K:Nat) (t:Tm):WtP K t↔(ownT t≤K∧(∀ x∈t.kids,WtP K x)∧∀ b∈t.sys,∀ x∈b.2,WtP K x):=by
 unfold WtP ownT
 rw [fold_mk]
 simp only [List.mem_map,forall_exists_index,and_imp,forall_apply_eq_imp_iff₂,List.map_map,Function.comp_def]
theorem sum_pt {α:Type} (l:List α) (f g:α→Nat):(l.map fun b=>f b+g b).sum=(l.map f).sum+(l.map g).sum:=by
 induction l with
 | nil=>rfl
 | cons a l ih=>simp only [List.map_cons,List.sum_cons,ih];omega
theorem blk_own (t:Tm):blk t=ownT t+blkL t.kids+(t.sys.map fun b=>blkL b.2).sum:=by
 rw [blk_eq]
 have e:blkS t.sys=(t.sys.map fun b=>1+b.1.length).sum+(t.sys.map fun b=>blkL b.2).sum:=sum_pt t.sys (fun b=>1+b.1.length) (fun b=>blkL b.2)
 rw [e]
 unfold ownT
 omega
theorem wt_of_blk {K:Nat}:∀ (N:Nat) (t:Tm),blk t≤N→blk t≤K→WtP K t
 | 0,t,h,_=>by have:=blk_pos t;omega
 | N+1,t,h,hK=>by
  rw [wt_eq]
  have:=blk_own t
  exact⟨by omega,fun x hx=>wt_of_blk N x (by have:=blk_kid hx;omega) (by have:=blk_kid hx;omega),fun b hb x hx=>wt_of_blk N x (by have:=blk_sub hb hx;omega) (by have:=blk_sub hb hx;omega)⟩
theorem wt_li {K:Nat} {s:Sf}:∀ (N:Nat) (t:Tm) (bv bd:Nat),blk t≤N→WtP K t→WtP K (liT s t bv bd)
 | 0,t,bv,bd,h,_=>by have:=blk_pos t;omega
 | N+1,t,bv,bd,h,hw=>by
  rw [wt_eq] at hw
  rw [li_eq,wt_eq]
  dsimp only
  refine⟨?_,fun y hy=>?_,fun b hb y hy=>?_⟩
  ·have h1:=hw.1
   unfold ownT at h1 ⊢
   dsimp only
   have h2:=rowP_len s bd t.r
   have h3:((t.sys.map fun b=>liB s t.kind b bv bd).map fun b=>1+b.1.length).sum≤(t.sys.map fun b=>1+b.1.length).sum:=by
    rw [List.map_map]
    exact sumN_le fun b _=>by show 1+(rowP s bd b.1).1.length≤_;have:=rowP_len s bd b.1;omega
   omega
  ·obtain⟨i,x,hx,rfl⟩:=mem_liK hy
   exact wt_li N x _ _ (by have:=blk_kid (List.mem_of_getElem? hx);omega) (hw.2.1 x (List.mem_of_getElem? hx))
  ·obtain⟨c,hc,rfl⟩:=List.mem_map.1 hb
   obtain⟨x,hx,rfl⟩:=List.mem_map.1 hy
   exact wt_li N x _ _ (by have:=blk_sub hc hx;omega) (hw.2.2 c hc x hx)
theorem size_li {s:Sf}:∀ (N:Nat) (t:Tm) (bv bd:Nat),blk t≤N→sizeT (liT s t bv bd)=sizeT t
 | 0,t,bv,bd,hn=>by have:=blk_pos t;omega
 | N+1,t,bv,bd,hn=>by
  have e:=size_eq (liT s t bv bd)
  rw [li_eq] at e
  rw [li_eq,e,size_eq t]
  dsimp only
  have h2:szL (liK s t.kind t.kids bv bd)=szL t.kids:=by
   unfold szL
   congr 1
   refine List.ext_getElem? fun i=>?_
   rw [List.getElem?_map,List.getElem?_map,liK_get?]
   cases hi:t.kids[i]? with
   | none=>rfl
   | some x=>simp only [Option.map_some];rw [size_li N x _ _ (by have:=blk_kid (List.mem_of_getElem? hi);omega)]
  have h3:szS (t.sys.map fun b=>liB s t.kind b bv bd)=szS t.sys:=by
   unfold szS
   rw [List.map_map]
   congr 1
   refine List.map_congr_left fun b hb=>?_
   show szL (b.2.map fun x=>liT s x bv (bd+moreK t.kind))=szL b.2
   unfold szL
   rw [List.map_map]
   congr 1
   exact List.map_congr_left fun x hx=>size_li N x _ _ (by have:=blk_sub hb hx;omega)
  rw [h2,h3]
theorem zero_t:blk zeroT=1∧sizeT zeroT=1:=by decide +kernel
theorem wt_zero {K:Nat} (h:1≤K):WtP K zeroT:=wt_of_blk _ _ (Nat.le_refl _) (by rw [zero_t.1];exact h)
theorem both_any {a d:Int} {u:Tm}:blk (bothT a d u)≤blk u∧∀ K,1≤K→WtP K u→WtP K (bothT a d u):=by
 unfold bothT
 split
 ·refine⟨Nat.le_trans (blk_li _ _ 0 0 (Nat.le_refl _)) (blk_li _ _ 0 0 (Nat.le_refl _)),fun K hK hw=>wt_li _ _ 0 0 (Nat.le_refl _) (wt_li _ _ 0 0 (Nat.le_refl _) hw)⟩
 ·exact⟨by rw [zero_t.1];exact blk_pos u,fun K hK _=>wt_zero hK⟩
theorem sum_addmul {α:Type} {l:List α} {f g c:α→Nat} {U:Nat} (h:∀ x∈l,f x≤g x+c x*U):(l.map f).sum≤(l.map g).sum+(l.map c).sum*U:=by
 induction l with
 | nil=>simp
 | cons a l ih =>
  have h1:=h a (by simp)
  have h2:=ih fun x hx=>h x (by simp [hx])
  simp only [List.map_cons,List.sum_cons,Nat.add_mul]
  omega
theorem zip_kids {l:List Tm} {f:Tm→Nat}:((l.zipIdx).map fun p=>f p.1)=l.map f:=by
 refine List.ext_getElem? fun i=>?_
 rw [List.getElem?_map,List.getElem?_zipIdx,List.getElem?_map]
 cases l[i]? <;> simp
theorem blk_put {n:Int} {u:Tm}:∀ (N:Nat) (t:Tm) (bv bd:Nat),blk t≤N→blk (putT n u t bv bd)≤blk t+cnP n t bv*blk u
 | 0,t,bv,bd,h=>by have:=blk_pos t;omega
 | N+1,t,bv,bd,h=>by
  rw [put_eq,cn_eq]
  by_cases hc:t.kind=1∧t.n - (bv:Int)=n
  ·rw [if_pos hc,if_pos hc]
   have:=(both_any (a:=(bv:Int)) (d:=(bd:Int)) (u:=u)).1
   have h2:1*blk u≤(1+((cnK n t.kind t.kids bv).sum+(t.sys.map fun b=>(cnL n b.2 bv).sum).sum)) * blk u:=Nat.mul_le_mul_right _ (by omega)
   omega
  ·rw [if_neg hc,if_neg hc,blk_own,blk_own t]
   dsimp only
   have h1:ownT (.mk t.kind (pnV n bv t.kind t.n) t.name t.r (putK n u t.kind t.kids bv bd) (t.sys.map fun b=>putB n u t.kind b bv bd))=ownT t:=by
    unfold ownT
    dsimp only
    rw [List.map_map]
    rfl
   have h2:blkL (putK n u t.kind t.kids bv bd)≤blkL t.kids+(cnK n t.kind t.kids bv).sum*blk u:=by
    unfold blkL putK cnK
    rw [List.map_map,← zip_kids (l:=t.kids) (f:=blk)]
    exact sum_addmul fun p hp=>blk_put N p.1 _ _ (by have:=blk_kid (zip_mem hp);omega)
   have h3:((t.sys.map fun b=>putB n u t.kind b bv bd).map fun b=>blkL b.2).sum≤(t.sys.map fun b=>blkL b.2).sum+(t.sys.map fun b=>(cnL n b.2 bv).sum).sum*blk u:=by
    rw [List.map_map]
    refine sum_addmul fun b hb=>?_
    show blkL (b.2.map fun x=>putT n u x bv (bd+moreK t.kind))≤_
    unfold blkL cnL
    rw [List.map_map]
    exact sum_addmul fun x hx=>blk_put N x _ _ (by have:=blk_sub hb hx;omega)
   rw [h1,Nat.zero_add,Nat.add_mul]
   omega
theorem size_both {a d:Nat} {u:Tm} (h:bothE (a:Int) (d:Int) u=0):sizeT (bothT (a:Int) (d:Int) u)=sizeT u:=by
 rw [(both_li h).1]
 exact size_li _ u 0 0 (Nat.le_refl _)
theorem sum_eqmul {α:Type} {l:List α} {f g c:α→Nat} {U:Nat} (h:∀ x∈l,f x+c x=g x+c x*U):(l.map f).sum+(l.map c).sum=(l.map g).sum+(l.map c).sum*U:=by
 induction l with
 | nil=>simp
 | cons a l ih =>
  have h1:=h a (by simp)
  have h2:=ih fun x hx=>h x (by simp [hx])
  simp only [List.map_cons,List.sum_cons,Nat.add_mul]
  omega
theorem size_put {n:Int} {u:Tm}:∀ (N:Nat) (t:Tm) (bv bd:Nat),blk t≤N→Fp t→eP n u t bv bd=0→sizeT (putT n u t bv bd) + cnP n t bv=sizeT t+cnP n t bv*sizeT u
 | 0,t,bv,bd,h,_,_=>by have:=blk_pos t;omega
 | N+1,t,bv,bd,h,hf,he=>by
  obtain⟨hn0,hvk,hfk,hfs⟩:=(fp_eq t).1 hf
  rw [put_eq,cn_eq]
  by_cases hk:t.kind=1
  ·obtain⟨e1,e2⟩:=hvk hk
   have z1:(cnK n t.kind t.kids bv).sum=0:=by rw [e1];rfl
   have z2:(t.sys.map fun b=>(cnL n b.2 bv).sum).sum=0:=by rw [e2];rfl
   have z3:sizeT t=1:=by rw [size_eq,e1,e2];rfl
   rw [z1,z2,z3]
   rw [eP_eq,if_pos hk] at he
   by_cases hc:t.n - (bv:Int)=n
   ·rw [if_pos hc] at he
    rw [if_pos ⟨hk,hc⟩,if_pos ⟨hk,hc⟩,size_both he]
    omega
   ·rw [if_neg (fun z=>hc z.2),if_neg (fun z=>hc z.2),size_eq]
    dsimp only
    rw [e1,e2]
    show 1+(szL (putK n u t.kind [] bv bd) + szS []) + _=_
    have:szL (putK n u t.kind [] bv bd)=0:=rfl
    have q2:szS []=0:=rfl
    rw [this,q2]
    omega
  ·obtain⟨a1,a2⟩:=eP_kid he hk
   rw [if_neg (fun z=>hk z.1),if_neg (fun z=>hk z.1),size_eq,size_eq t]
   dsimp only
   have h2:szL (putK n u t.kind t.kids bv bd) + (cnK n t.kind t.kids bv).sum=szL t.kids+(cnK n t.kind t.kids bv).sum*sizeT u:=by
    unfold szL putK cnK
    rw [List.map_map,← zip_kids (l:=t.kids) (f:=sizeT)]
    refine sum_eqmul fun p hp=>?_
    have hp':=List.mem_zipIdx_iff_getElem?.1 hp
    exact size_put N p.1 _ _ (by have:=blk_kid (zip_mem hp);omega) (hfk _ (zip_mem hp)) (a1 p.2 p.1 hp')
   have h3:szS (t.sys.map fun b=>putB n u t.kind b bv bd) + (t.sys.map fun b=>(cnL n b.2 bv).sum).sum=szS t.sys+(t.sys.map fun b=>(cnL n b.2 bv).sum).sum*sizeT u:=by
    unfold szS
    rw [List.map_map]
    refine sum_eqmul fun b hb=>?_
    show szL (b.2.map fun x=>putT n u x bv (bd+moreK t.kind)) + (cnL n b.2 bv).sum=szL b.2+(cnL n b.2 bv).sum*sizeT u
    unfold szL cnL
    rw [List.map_map]
    exact sum_eqmul fun x hx=>size_put N x _ _ (by have:=blk_sub hb hx;omega) (hfs b hb x hx) (a2 b hb x hx)
   simp only [Nat.zero_add,Nat.add_mul]
   omega
end Go.Proofs.YtmblbmdchinflaaGreat
set_option linter.unusedVariables false
set_option linter.unusedSimpArgs false
namespace Go.Proofs.YtmblbmdchinflaaGreat
open Go.RowKit
set_option maxRecDepth 100000 in
set_option maxHeartbeats 4000000 in
theorem great16_any (t:Tm) (v:Value) (w:World) (hv:TmIn Tt w t v):Calls Tryz.prog 20 #[v] w fun e w'=>e=.returned (.bool (decide (200<blk t)))∧Below w.heap.size w w':=by
 obtain⟨ra,rc,ka,kc,sa,sc,rfl,ht⟩:=hv.form
 obtain⟨w1,hw1⟩:∃ w1,w1=w.alloc (.cells #[.int .i64 t.kind,.int .i64 t.n,.string t.name,.slice ra t.r.length rc,.slice ka t.kids.length kc,.slice sa t.sys.length sc] 26):=⟨_,rfl⟩
 have b1:Below w.heap.size w w1:=by rw [hw1];exact belowA _ _
 have c6:Cs6 w1 w.heap.size 0 t ra rc ka kc sa sc:=by rw [hw1];exact cs6_new w t ra rc ka kc sa sc
 have cc:=bulk_any (blk t) 200 200 t _ w1 rfl (by omega) (Nat.le_refl _) (ht.blw b1).value
 obtain⟨_,y0,y1,y2,y3,y4,y5⟩:=c6
 simp only [Nat.zero_add] at y1 y2 y3 y4 y5
 have H1:Hid (_=_):=hw1
 clear hw1 hv ht
 go_enter Tryz.func20,Tryz.ntmps20
 go_upto_region 1 with fail
 rw [← H1.out]
 go_wp2_with fail
 refine cc.mono ?_
 rintro e w3 ⟨⟨r,rfl,r1,r2,r3,r4⟩,hb3⟩
 clear cc y0 y1 y2 y3 y4 y5
 have HE:Hid (decide ((200:Int) < (r:Int))=decide (200<blk t)):=(by
  rw [decide_eq_decide]
  by_cases h:blk t≤200
  ·have:=r1 h;omega
  ·have:=r2 (by omega);omega:decide ((200:Int) < (r:Int))=decide (200<blk t))
 clear r1 r2
 go_wp2_with fail
 go_ret
 exact⟨ret_bool HE.out,bchain b1 hb3⟩
theorem bt_blk1 (k:Int) (x:Tm):blk (mkT k [x])=1+blk x:=by
 rw [blk_eq];simp [mkT,blkL,blkS];rfl
theorem bt_blk2 (k:Int) (x y:Tm):blk (mkT k [x,y])=1+(blk x+blk y):=by
 rw [blk_eq];simp [mkT,blkL,blkS];rfl
theorem bt_put {t u:Tm} (h1:blk t≤200) (h2:blk u≤200):blk (putT 0 u t 0 0)≤40200:=by
 have q1:=blk_put (n:=0) (u:=u) _ t 0 0 (Nat.le_refl _)
 have q2:=cn_blk 0 _ t 0 (Nat.le_refl _)
 have q3:cnP 0 t 0*blk u≤200*200:=Nat.mul_le_mul (by omega) h2
 omega
theorem bt_pl {t u:Tm} (h1:blk t≤200) (h2:blk u≤200) (h:plE 0 t u=0):blk (plT 0 t u)≤50000∧sizeT (plT 0 t u)≤20000:=by
  have e:plT 0 t u=putT 0 u t 0 0:=by unfold plT;rw [if_pos h]
  have q0:=bt_put h1 h2
  rw [e]
  refine⟨by omega,?_⟩
  unfold plE at h
  split at h
  · omega
  rename_i g1
  split at h
  · omega
  rename_i g2
  split at h
  · omega
  split at h
  · omega
  rename_i g3
  have g4:eP 0 u t 0 0=0:=by
    by_cases q:eP 0 u t 0 0=0
    · exact q
    · exfalso;first | (rw [if_pos q] at h;exact q h) | (split at h;· exact q h;· exact q (by assumption))
  have q1:=size_put (n:=0) (u:=u) _ t 0 0 (Nat.le_refl _) (fp_of_wrong (by omega)) g4
  have q3:(cnP 0 t 0:Int) * ((sizeT u:Int) - 1)=((cnP 0 t 0*sizeT u:Nat):Int) - cnP 0 t 0:=by
    rw [Int.mul_sub,Int.mul_one]
    push_cast
    rfl
  rw [q3] at g3
  omega
theorem st_app (hLA:LAll) (t u:Tm) (v:Value) (w:World) (hv:TmIn Tt w (mkT 6 [mkT 5 [t],u]) v) (h1:blk t≤200) (h2:blk u≤200) :
  Calls Tryz.prog 22 #[v] w fun e w'=>∃ v',e=.returned (.tuple #[v',.bool (stB 1 (plE 0 t u) (mkT 6 [mkT 5 [t],u]) (plT 0 t u)),.int .i64 (stE 1 (plE 0 t u) (mkT 6 [mkT 5 [t],u]) (plT 0 t u))])∧TmIn (fun q=>w.heap.size≤q) w' (stT 1 (plE 0 t u) (mkT 6 [mkT 5 [t],u]) (plT 0 t u)) v'∧Below w.heap.size w w' :=
 step_any _ _ 1 _ v w hv (by rw [bt_blk2,bt_blk1];omega)
  (fun _ W v h=>which_app _ (mkT 5 [t]) v W h rfl rfl 1 rfl)
  (fun _ _ W v h=>bec_applied hLA _ (mkT 5 [t]) t u v W h rfl rfl rfl (by omega) (by omega) (fun _ _ _=>by have:=bt_put h1 h2;omega))
  (bt_pl h1 h2)
theorem st_fst (t u:Tm) (v:Value) (w:World) (hv:TmIn Tt w (mkT 9 [mkT 8 [t,u]]) v) (h1:blk t≤200) (h2:blk u≤200) :
  Calls Tryz.prog 22 #[v] w fun e w'=>∃ v',e=.returned (.tuple #[v',.bool (stB 2 0 (mkT 9 [mkT 8 [t,u]]) t),.int .i64 (stE 2 0 (mkT 9 [mkT 8 [t,u]]) t)])∧TmIn (fun q=>w.heap.size≤q) w' (stT 2 0 (mkT 9 [mkT 8 [t,u]]) t) v'∧Below w.heap.size w w' :=
 step_any _ _ 2 _ v w hv (by rw [bt_blk1,bt_blk2];omega)
  (fun _ W v h=>which_fst _ (mkT 8 [t,u]) v W h rfl rfl 2 rfl)
  (fun _ _ W v h=>bec_first _ (mkT 8 [t,u]) t v W h rfl rfl)
  (fun _=>⟨by omega,by have:=size_blk t;omega⟩)
theorem st_snd (t u:Tm) (v:Value) (w:World) (hv:TmIn Tt w (mkT 10 [mkT 8 [t,u]]) v) (h1:blk t≤200) (h2:blk u≤200) :
  Calls Tryz.prog 22 #[v] w fun e w'=>∃ v',e=.returned (.tuple #[v',.bool (stB 3 0 (mkT 10 [mkT 8 [t,u]]) u),.int .i64 (stE 3 0 (mkT 10 [mkT 8 [t,u]]) u)])∧TmIn (fun q=>w.heap.size≤q) w' (stT 3 0 (mkT 10 [mkT 8 [t,u]]) u) v'∧Below w.heap.size w w' :=
 step_any _ _ 3 _ v w hv (by rw [bt_blk1,bt_blk2];omega)
  (fun _ W v h=>which_snd _ (mkT 8 [t,u]) v W h rfl rfl 3 rfl)
  (fun _ _ W v h=>bec_second _ (mkT 8 [t,u]) u v W h rfl rfl)
  (fun _=>⟨by omega,by have:=size_blk u;omega⟩)
theorem mk_in {w:World} {k:Int} {l:List Tm} {v:Value} (hk:I64 k) (h:KdT Tt w (TmIn Tt w) l v):TmIn Tt w (mkT k l) (.agg #[.int .i64 k,.int .i64 0,.string ⟨#[]⟩,.slice none 0 0,v,.slice none 0 0]) :=
 .mk _ _ _ _ _ _ _ _ _ hk ⟨by decide,by decide⟩ (cl_nil _ _) h (sy_nil _ _ _)
theorem wr_fs (P:Tm):wrongN true 0 0 (mkT 9 [P])=wrongN true 0 0 (mkT 10 [P]):=by
 have h1:depthT (mkT 9 [P])=depthT (mkT 10 [P]):=by rw [depth_eq,depth_eq];rfl
 have h2:okT true 0 0 (mkT 9 [P]) 0 0=okT true 0 0 (mkT 10 [P]) 0 0:=by rw [ok_eq,ok_eq];rfl
 unfold wrongN
 rw [h1,h2]
end Go.Proofs.YtmblbmdchinflaaGreat
set_option linter.unusedVariables false
set_option linter.unusedSimpArgs false
namespace Go.Proofs.YtmblbmdchinflaaGreat
open Go.RowKit
theorem kd_nil0 (w:World):KdT Tt w (TmIn Tt w) [] (.slice none 0 0):=⟨none,0,rfl,Nat.le_refl _,fun j c h=>by simp at h⟩
theorem sy_nil0 (w:World):SyT Tt w (TmIn Tt w) [] (.slice none 0 0):=⟨none,0,rfl,Nat.le_refl _,fun j c h=>by simp at h⟩
end Go.Proofs.YtmblbmdchinflaaGreat
