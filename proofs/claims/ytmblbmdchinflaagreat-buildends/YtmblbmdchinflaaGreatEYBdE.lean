/- Lines within lines, and their ends: terms. -/
import Derived.Test.YtmblbmdchinflaaGreatEYBdP
import Derived.Test.YtmblbmdchinflaaGreatEYBdR
set_option linter.unusedVariables false
set_option linter.unusedSimpArgs false
namespace Go.Proofs.YtmblbmdchinflaaGreat
open Go.RowKit
theorem e_parts {o:DOp} {t:Tm} {bd:Nat} (h:eT o t bd=0):(ownP o t.kind t.r bd).2=0∧(∀ k x,t.kids[k]? = some x→eT o x (bd+bdK t.kind k)=0)∧∀ b∈t.sys,(o.fc b.1 bd).2=0∧(stayB o bd b.1=true→∀ x∈b.2,eT o x (bd+moreK t.kind)=0):=by
 rw [e_eq] at h
 have hz:=firstE_zero.1 h
 refine⟨hz _ (by simp),fun k x hx=>?_,fun b hb=>?_⟩
 ·exact hz _ (List.mem_cons_of_mem _ (List.mem_append_left _ (List.mem_of_getElem? (eK_get hx))))
 ·have hB:=hz (eB o t.kind b bd) (List.mem_cons_of_mem _ (List.mem_append_right _ (List.mem_map_of_mem hb)))
  unfold eB at hB
  have hz2:=firstE_zero.1 hB
  refine⟨hz2 _ (by simp),fun hs x hx=>?_⟩
  rw [if_pos hs] at hz2
  exact hz2 _ (List.mem_cons_of_mem _ (List.mem_map_of_mem (f:=fun x=>eT o x (bd+moreK t.kind)) hx))
theorem dS_all {o:DOp} {k:Int} {l:List (List C × List Tm)} {bd:Nat} (h:∀ b∈l,(o.fc b.1 bd).1≠[]):dS o k l bd=l.map fun b=>dB o k b bd:=by
 unfold dS
 rw [List.filter_eq_self.2 fun b hb=>by
  unfold stayB
  have:=h b hb
  cases hc:(o.fc b.1 bd).1 with
  | nil=>exact absurd hc this
  | cons _ _=>rfl]
theorem ok_rowA {o:Bool} {V:Int} {D:Nat} {t:Tm} {bv bd:Nat} (h:okT o V D t bv bd=true) (hk:t.kind=14):rightA t.r=true:=by
 rw [ok_eq,Bool.and_eq_true] at h
 have h1:=h.1
 unfold Tm.node nodeB at h1
 simp only [Bool.and_eq_true] at h1
 have h2:=h1.1.2
 unfold rowB at h2
 rw [hk] at h2
 simp at h2;exact h2.1
theorem numV_s2 (bv:Nat) (k n:Int):numV s2 bv k n=n:=by
 unfold numV s2
 split <;> simp
theorem chain_own {k:Int} {r:List C} {bd:Nat} (hF:rightF r=true) (hA:k=14→rightA r=true) (h1:(rowP s2 bd r).2=0) (h2:(ownP (putOp 0 [e2 1 2]) k (rowP s2 bd r).1 bd).2=0)
  (h3:rightF (ownP (dropOp 0) k (ownP (putOp 0 [e2 1 2]) k (rowP s2 bd r).1 bd).1 bd).1=true) (h4:k=14→rightA (ownP (dropOp 0) k (ownP (putOp 0 [e2 1 2]) k (rowP s2 bd r).1 bd).1 bd).1=true) :
  (ownP (dropOp 0) k (ownP (putOp 0 [top0]) k (ownP (dropOp 0) k (ownP (putOp 0 [e2 1 2]) k (rowP s2 bd r).1 bd).1 bd).1 (bd+1)).1 (bd+1)).1=r:=by
 unfold ownP at h2 h3 h4 ⊢
 by_cases hk:k=14
 ·have h4:=h4 hk
  rw [if_pos hk] at h2
  simp only [if_pos hk] at h4 ⊢
  have e:=(chain_A (d:=bd) (hA hk) h1 h2 (by
   have h5:rightA ((putRow ptA 0 [e2 1 2] (rowP s2 bd r).1 bd).1.map (drC ((0:Int) + (bd:Int))))=true:=h4
   rwa [Int.zero_add] at h5)).1
  show ((putRow ptA 0 [top0] ((putRow ptA 0 [e2 1 2] (rowP s2 bd r).1 bd).1.map (drC ((0:Int) + (bd:Int)))) (bd+1)).1.map (drC ((0:Int) + ((bd+1:Nat):Int))))=r
  rw [Int.zero_add,Int.zero_add]
  exact e
 ·rw [if_neg hk] at h2
  simp only [if_neg hk] at h3 ⊢
  have e:=chain_F (d:=bd) hF h1 h2 (by
   have h5:rightF ((putRow putF 0 [e2 1 2] (rowP s2 bd r).1 bd).1.map (drC ((0:Int) + (bd:Int))))=true:=h3
   rwa [Int.zero_add] at h5)
  show ((putRow putF 0 [top0] ((putRow putF 0 [e2 1 2] (rowP s2 bd r).1 bd).1.map (drC ((0:Int) + (bd:Int)))) (bd+1)).1.map (drC ((0:Int) + ((bd+1:Nat):Int))))=r
  rw [Int.zero_add,Int.zero_add]
  exact e
theorem chain_T:∀ (n:Nat) (t:Tm) (bv bd a1 a2 b1 b2:Nat),blk t≤n→okT true 0 0 t a1 a2=true→neT t→erT s2 t bv bd=0→eT (putOp 0 [e2 1 2]) (liT s2 t bv bd) bd=0 →
  okT true 0 0 (dT (dropOp 0) (dT (putOp 0 [e2 1 2]) (liT s2 t bv bd) bd) bd) b1 b2=true →
  dT (dropOp 0) (dT (putOp 0 [top0]) (dT (dropOp 0) (dT (putOp 0 [e2 1 2]) (liT s2 t bv bd) bd) bd) (bd+1)) (bd+1)=t
 | 0,t,bv,bd,a1,a2,b1,b2,hn,_,_,_,_,_=>by have:=blk_pos t;omega
 | n+1,t,bv,bd,a1,a2,b1,b2,hn,hok,hne,he,hp,hok1=>by
  rw [ne_eq] at hne
  obtain⟨r1,r2,r3⟩:=er_parts he
  obtain⟨p1,p2,p3⟩:=e_parts hp
  have E0:=li_eq s2 t bv bd
  rw [E0] at p1 p2 p3
  dsimp only at p1 p2 p3
  have E1:dT (putOp 0 [e2 1 2]) (liT s2 t bv bd) bd=.mk t.kind (numV s2 bv t.kind t.n) t.name (ownP (putOp 0 [e2 1 2]) t.kind (rowP s2 bd t.r).1 bd).1 (dK (putOp 0 [e2 1 2]) t.kind (liK s2 t.kind t.kids bv bd) bd) (dS (putOp 0 [e2 1 2]) t.kind (t.sys.map fun b=>liB s2 t.kind b bv bd) bd):=by
   rw [E0];exact d_eq _ _ _
  have E2:dT (dropOp 0) (dT (putOp 0 [e2 1 2]) (liT s2 t bv bd) bd) bd=.mk t.kind (numV s2 bv t.kind t.n) t.name (ownP (dropOp 0) t.kind (ownP (putOp 0 [e2 1 2]) t.kind (rowP s2 bd t.r).1 bd).1 bd).1 (dK (dropOp 0) t.kind (dK (putOp 0 [e2 1 2]) t.kind (liK s2 t.kind t.kids bv bd) bd) bd) (dS (dropOp 0) t.kind (dS (putOp 0 [e2 1 2]) t.kind (t.sys.map fun b=>liB s2 t.kind b bv bd) bd) bd):=by
   rw [E1];exact d_eq _ _ _
  have E3:dT (putOp 0 [top0]) (dT (dropOp 0) (dT (putOp 0 [e2 1 2]) (liT s2 t bv bd) bd) bd) (bd+1)=.mk t.kind (numV s2 bv t.kind t.n) t.name (ownP (putOp 0 [top0]) t.kind (ownP (dropOp 0) t.kind (ownP (putOp 0 [e2 1 2]) t.kind (rowP s2 bd t.r).1 bd).1 bd).1 (bd+1)).1 (dK (putOp 0 [top0]) t.kind (dK (dropOp 0) t.kind (dK (putOp 0 [e2 1 2]) t.kind (liK s2 t.kind t.kids bv bd) bd) bd) (bd+1)) (dS (putOp 0 [top0]) t.kind (dS (dropOp 0) t.kind (dS (putOp 0 [e2 1 2]) t.kind (t.sys.map fun b=>liB s2 t.kind b bv bd) bd) bd) (bd+1)):=by
   rw [E2];exact d_eq _ _ _
  have E4:dT (dropOp 0) (dT (putOp 0 [top0]) (dT (dropOp 0) (dT (putOp 0 [e2 1 2]) (liT s2 t bv bd) bd) bd) (bd+1)) (bd+1)=.mk t.kind (numV s2 bv t.kind t.n) t.name (ownP (dropOp 0) t.kind (ownP (putOp 0 [top0]) t.kind (ownP (dropOp 0) t.kind (ownP (putOp 0 [e2 1 2]) t.kind (rowP s2 bd t.r).1 bd).1 bd).1 (bd+1)).1 (bd+1)).1 (dK (dropOp 0) t.kind (dK (putOp 0 [top0]) t.kind (dK (dropOp 0) t.kind (dK (putOp 0 [e2 1 2]) t.kind (liK s2 t.kind t.kids bv bd) bd) bd) (bd+1)) (bd+1)) (dS (dropOp 0) t.kind (dS (putOp 0 [top0]) t.kind (dS (dropOp 0) t.kind (dS (putOp 0 [e2 1 2]) t.kind (t.sys.map fun b=>liB s2 t.kind b bv bd) bd) bd) (bd+1)) (bd+1)):=by
   rw [E3];exact d_eq _ _ _
  rw [E4]
  rw [E2] at hok1
  have oF:=ok_row hok1
  have oA:=fun hk=>ok_rowA hok1 hk
  have oK:=fun i x hx=>ok_kid (i:=i) (x:=x) hok1 hx
  have oS:=fun b x hb hx=>ok_sub (b:=b) (x:=x) hok1 hb hx
  have oFc:=fun b hb=>ok_face (b:=b) hok1 hb
  dsimp only at oF oA oK oS oFc
  have e1:=chain_own (k:=t.kind) (ok_row hok) (fun hk=>ok_rowA hok hk) r1 p1 oF oA
  have e2':dK (dropOp 0) t.kind (dK (putOp 0 [top0]) t.kind (dK (dropOp 0) t.kind (dK (putOp 0 [e2 1 2]) t.kind (liK s2 t.kind t.kids bv bd) bd) bd) (bd+1)) (bd+1)=t.kids:=by
   refine List.ext_getElem? fun i=>?_
   cases hx:t.kids[i]? with
   | none =>
    rw [List.getElem?_eq_none_iff] at hx ⊢
    rw [dK_len,dK_len,dK_len,dK_len,liK_len];exact hx
   | some x =>
    have hm:=List.mem_of_getElem? hx
    have g1:=liK_get (s:=s2) (k:=t.kind) (bv:=bv) (bd:=bd) hx
    have g2:=dK_get (o:=putOp 0 [e2 1 2]) (k:=t.kind) (bd:=bd) g1
    have g3:=dK_get (o:=dropOp 0) (k:=t.kind) (bd:=bd) g2
    have g4:=dK_get (o:=putOp 0 [top0]) (k:=t.kind) (bd:=bd+1) g3
    have g5:=dK_get (o:=dropOp 0) (k:=t.kind) (bd:=bd+1) g4
    rw [g5]
    have ih:=chain_T n x (bv+bvK t.kind i) (bd+bdK t.kind i) _ _ _ _ (by have:=blk_kid hm;omega) (ok_kid hok hx) (hne.1 x hm) (r2 i x hx) (p2 i _ g1) (oK i _ g3)
    rw [show bd+1+bdK t.kind i=bd+bdK t.kind i+1 by omega]
    rw [ih]
  have fin:∀ b∈t.sys,rightA ((putRow ptA 0 [e2 1 2] (rowP s2 bd b.1).1 bd).1.map (drC (bd:Int)))=true→_:=fun b hb h=>chain_A (d:=bd) (ok_face hok hb) (r3 b hb).1 (p3 _ (List.mem_map_of_mem (f:=fun b=>liB s2 t.kind b bv bd) hb)).1 h
  have s1:dS (putOp 0 [e2 1 2]) t.kind (t.sys.map fun b=>liB s2 t.kind b bv bd) bd=(t.sys.map fun b=>liB s2 t.kind b bv bd).map fun b=>dB (putOp 0 [e2 1 2]) t.kind b bd:=by
   refine dS_all fun b hb=>?_
   obtain⟨b0,hb0,rfl⟩:=List.mem_map.1 hb
   show (putRow ptA 0 [e2 1 2] (rowP s2 bd b0.1).1 bd).1≠[]
   have h1:=(r3 b0 hb0).1
   have h2:(putRow ptA 0 [e2 1 2] (rowP s2 bd b0.1).1 bd).2=0:=(p3 _ (List.mem_map_of_mem (f:=fun b=>liB s2 t.kind b bv bd) hb0)).1
   exact face_stays (ok_face hok hb0) h1 h2 (hne.2 b0 hb0).1
  have s2':dS (dropOp 0) t.kind (dS (putOp 0 [e2 1 2]) t.kind (t.sys.map fun b=>liB s2 t.kind b bv bd) bd) bd=((t.sys.map fun b=>liB s2 t.kind b bv bd).map fun b=>dB (putOp 0 [e2 1 2]) t.kind b bd).map fun b=>dB (dropOp 0) t.kind b bd:=by
   rw [s1]
   refine dS_all fun b hb=>?_
   obtain⟨b1,hb1,rfl⟩:=List.mem_map.1 hb
   obtain⟨b0,hb0,rfl⟩:=List.mem_map.1 hb1
   show (putRow ptA 0 [e2 1 2] (rowP s2 bd b0.1).1 bd).1.map _≠[]
   have h1:=(r3 b0 hb0).1
   have h2:(putRow ptA 0 [e2 1 2] (rowP s2 bd b0.1).1 bd).2=0:=(p3 _ (List.mem_map_of_mem (f:=fun b=>liB s2 t.kind b bv bd) hb0)).1
   intro e
   exact face_stays (ok_face hok hb0) h1 h2 (hne.2 b0 hb0).1 (List.map_eq_nil_iff.1 e)
  have all:∀ b∈t.sys,(putRow ptA 0 [top0] ((putRow ptA 0 [e2 1 2] (rowP s2 bd b.1).1 bd).1.map (drC ((0:Int) + (bd:Int)))) (bd+1)).1≠[]∧((putRow ptA 0 [top0] ((putRow ptA 0 [e2 1 2] (rowP s2 bd b.1).1 bd).1.map (drC ((0:Int) + (bd:Int)))) (bd+1)).1.map (drC ((0:Int) + ((bd+1:Nat):Int))))=b.1:=fun b hb=>by
   have m1:=List.mem_map_of_mem (f:=fun b=>liB s2 t.kind b bv bd) hb
   have m2:=List.mem_map_of_mem (f:=fun b=>dB (putOp 0 [e2 1 2]) t.kind b bd) m1
   have m3:=List.mem_map_of_mem (f:=fun b=>dB (dropOp 0) t.kind b bd) m2
   rw [← s2'] at m3
   have hA:=oFc _ m3
   have hA:rightA ((putRow ptA 0 [e2 1 2] (rowP s2 bd b.1).1 bd).1.map (drC ((0:Int) + (bd:Int))))=true:=hA
   rw [Int.zero_add] at hA ⊢
   rw [Int.zero_add]
   have hc:=fin b hb hA
   exact⟨(hc.2 (hne.2 b hb).1).2.2,hc.1⟩
  have e3':dS (dropOp 0) t.kind (dS (putOp 0 [top0]) t.kind (dS (dropOp 0) t.kind (dS (putOp 0 [e2 1 2]) t.kind (t.sys.map fun b=>liB s2 t.kind b bv bd) bd) bd) (bd+1)) (bd+1)=t.sys:=by
   rw [s2']
   rw [dS_all (o:=putOp 0 [top0]) (bd:=bd+1) (l:=((t.sys.map fun b=>liB s2 t.kind b bv bd).map fun b=>dB (putOp 0 [e2 1 2]) t.kind b bd).map fun b=>dB (dropOp 0) t.kind b bd) (fun b hb=>by
    obtain⟨b2,hb2,rfl⟩:=List.mem_map.1 hb
    obtain⟨b1,hb1,rfl⟩:=List.mem_map.1 hb2
    obtain⟨b0,hb0,rfl⟩:=List.mem_map.1 hb1
    exact (all b0 hb0).1)]
   rw [dS_all (o:=dropOp 0) (bd:=bd+1) (fun b hb=>by
    obtain⟨b3,hb3,rfl⟩:=List.mem_map.1 hb
    obtain⟨b2,hb2,rfl⟩:=List.mem_map.1 hb3
    obtain⟨b1,hb1,rfl⟩:=List.mem_map.1 hb2
    obtain⟨b0,hb0,rfl⟩:=List.mem_map.1 hb1
    intro e
    exact (all b0 hb0).1 (List.map_eq_nil_iff.1 e))]
   rw [List.map_map,List.map_map,List.map_map,List.map_map]
   conv=>rhs;rw [← List.map_id t.sys]
   refine List.map_congr_left fun b hb=>?_
   refine Prod.ext (all b hb).2 ?_
   have m1:=List.mem_map_of_mem (f:=fun b=>liB s2 t.kind b bv bd) hb
   have m2:=List.mem_map_of_mem (f:=fun b=>dB (putOp 0 [e2 1 2]) t.kind b bd) m1
   have m3:=List.mem_map_of_mem (f:=fun b=>dB (dropOp 0) t.kind b bd) m2
   rw [← s2'] at m3
   have hst:stayB (putOp 0 [e2 1 2]) bd (liB s2 t.kind b bv bd).1=true:=by
    have h2:(putRow ptA 0 [e2 1 2] (rowP s2 bd b.1).1 bd).2=0:=(p3 _ m1).1
    have:=face_stays (ok_face hok hb) (r3 b hb).1 h2 (hne.2 b hb).1
    unfold stayB
    show (!(putRow ptA 0 [e2 1 2] (rowP s2 bd b.1).1 bd).1.isEmpty)=true
    cases hc:(putRow ptA 0 [e2 1 2] (rowP s2 bd b.1).1 bd).1 with
    | nil=>exact absurd hc this
    | cons _ _=>rfl
   show ((((b.2.map fun x=>liT s2 x bv (bd+moreK t.kind)).map fun x=>dT (putOp 0 [e2 1 2]) x (bd+moreK t.kind)).map fun x=>dT (dropOp 0) x (bd+moreK t.kind)).map fun x=>dT (putOp 0 [top0]) x (bd+1+moreK t.kind)).map (fun x=>dT (dropOp 0) x (bd+1+moreK t.kind))=b.2
   rw [List.map_map,List.map_map,List.map_map,List.map_map]
   conv=>rhs;rw [← List.map_id b.2]
   refine List.map_congr_left fun x hx=>?_
   have q1:=List.mem_map_of_mem (f:=fun x=>liT s2 x bv (bd+moreK t.kind)) hx
   have q2:=List.mem_map_of_mem (f:=fun x=>dT (putOp 0 [e2 1 2]) x (bd+moreK t.kind)) q1
   have q3:=List.mem_map_of_mem (f:=fun x=>dT (dropOp 0) x (bd+moreK t.kind)) q2
   have ih:=chain_T n x bv (bd+moreK t.kind) _ _ _ _ (by have:=blk_sub hb hx;omega) (ok_sub hok hb hx) ((hne.2 b hb).2 x hx) ((r3 b hb).2 x hx) ((p3 _ m1).2 hst _ q1) (oS _ _ m3 q3)
   show dT (dropOp 0) (dT (putOp 0 [top0]) (dT (dropOp 0) (dT (putOp 0 [e2 1 2]) (liT s2 x bv (bd+moreK t.kind)) (bd+moreK t.kind)) (bd+moreK t.kind)) (bd+1+moreK t.kind)) (bd+1+moreK t.kind)=x
   rw [show bd+1+moreK t.kind=bd+moreK t.kind+1 by omega]
   exact ih
  rw [e1,e2',e3',numV_s2]
  cases t;rfl
end Go.Proofs.YtmblbmdchinflaaGreat
