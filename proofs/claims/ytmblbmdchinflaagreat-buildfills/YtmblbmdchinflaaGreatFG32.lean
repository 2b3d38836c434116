/- Lines within lines, and their ends: terms. -/
import Derived.Test.YtmblbmdchinflaaGreatFYBdP
import Derived.Test.YtmblbmdchinflaaGreatFYBdR
import Derived.Test.YtmblbmdchinflaaGreatFG27
import Derived.Test.YtmblbmdchinflaaGreatEG5
import Derived.Deep.RegionHeld3
import Derived.Test.YtmblbmdchinflaaGreatEG20
import Derived.Test.YtmblbmdchinflaaGreatEG12
set_option linter.unusedVariables false
set_option linter.unusedSimpArgs false
set_option maxRecDepth 100000
set_option maxHeartbeats 4000000
namespace Go.Proofs.YtmblbmdchinflaaGreat
open Go.RowKit
theorem e_parts {o:DOp} {t:Tm} {bd:Nat} (h:eT o t bd=0):(ownP o t.kind t.r bd).2=0∧(∀ k x,t.kids[k]? = some x→eT o x (bd+bdK t.kind k)=0)∧∀ b∈t.sys,(o.fc b.1 bd).2=0∧(stayB o bd b.1=true→∀ x∈b.2,eT o x (bd+moreK t.kind)=0):=by
 rw [e_eq] at h
 have hz:=firstE_zero.1 h
 refine⟨hz _ (by simp),fun k x hx=>?_,fun b hb=>?_⟩
 ·exact hz _ (List.mem_cons_of_mem _ (List.mem_append_left _ (List.mem_of_getElem? (eK_get hx))))
 ·have hB:=hz (eB o t.kind b bd) (List.mem_cons_of_mem _ (List.mem_append_right _ (List.mem_map_of_mem hb)))
  unfold eB at hB
  have hz2:=firstE_zero.1 hB
  refine⟨hz2 _ (by simp),fun hs x hx=>?_⟩
  rw [if_pos hs] at hz2
  exact hz2 _ (List.mem_cons_of_mem _ (List.mem_map_of_mem (f:=fun x=>eT o x (bd+moreK t.kind)) hx))
theorem dS_all {o:DOp} {k:Int} {l:List (List C × List Tm)} {bd:Nat} (h:∀ b∈l,(o.fc b.1 bd).1≠[]):dS o k l bd=l.map fun b=>dB o k b bd:=by
 unfold dS
 rw [List.filter_eq_self.2 fun b hb=>by
  unfold stayB
  have:=h b hb
  cases hc:(o.fc b.1 bd).1 with
  | nil=>exact absurd hc this
  | cons _ _=>rfl]
theorem ok_rowA {o:Bool} {V:Int} {D:Nat} {t:Tm} {bv bd:Nat} (h:okT o V D t bv bd=true) (hk:t.kind=14):rightA t.r=true:=by
 rw [ok_eq,Bool.and_eq_true] at h
 have h1:=h.1
 unfold Tm.node nodeB at h1
 simp only [Bool.and_eq_true] at h1
 have h2:=h1.1.2
 unfold rowB at h2
 rw [hk] at h2
 simp at h2;exact h2.1
theorem numV_s2 (bv:Nat) (k n:Int):numV s2 bv k n=n:=by
 unfold numV s2
 split <;> simp
theorem chain_own {k:Int} {r:List C} {bd:Nat} (hF:rightF r=true) (hA:k=14→rightA r=true) (h1:(rowP s2 bd r).2=0) (h2:(ownP (putOp 0 [e2 1 2]) k (rowP s2 bd r).1 bd).2=0)
  (h3:rightF (ownP (dropOp 0) k (ownP (putOp 0 [e2 1 2]) k (rowP s2 bd r).1 bd).1 bd).1=true) (h4:k=14→rightA (ownP (dropOp 0) k (ownP (putOp 0 [e2 1 2]) k (rowP s2 bd r).1 bd).1 bd).1=true) :
  (ownP (dropOp 0) k (ownP (putOp 0 [top0]) k (ownP (dropOp 0) k (ownP (putOp 0 [e2 1 2]) k (rowP s2 bd r).1 bd).1 bd).1 (bd+1)).1 (bd+1)).1=r:=by
 unfold ownP at h2 h3 h4 ⊢
 by_cases hk:k=14
 ·have h4:=h4 hk
  rw [if_pos hk] at h2
  simp only [if_pos hk] at h4 ⊢
  have e:=(chain_A (d:=bd) (hA hk) h1 h2 (by
   have h5:rightA ((putRow ptA 0 [e2 1 2] (rowP s2 bd r).1 bd).1.map (drC ((0:Int) + (bd:Int))))=true:=h4
   rwa [Int.zero_add] at h5)).1
  show ((putRow ptA 0 [top0] ((putRow ptA 0 [e2 1 2] (rowP s2 bd r).1 bd).1.map (drC ((0:Int) + (bd:Int)))) (bd+1)).1.map (drC ((0:Int) + ((bd+1:Nat):Int))))=r
  rw [Int.zero_add,Int.zero_add]
  exact e
 ·rw [if_neg hk] at h2
  simp only [if_neg hk] at h3 ⊢
  have e:=chain_F (d:=bd) hF h1 h2 (by
   have h5:rightF ((putRow putF 0 [e2 1 2] (rowP s2 bd r).1 bd).1.map (drC ((0:Int) + (bd:Int))))=true:=h3
   rwa [Int.zero_add] at h5)
  show ((putRow putF 0 [top0] ((putRow putF 0 [e2 1 2] (rowP s2 bd r).1 bd).1.map (drC ((0:Int) + (bd:Int)))) (bd+1)).1.map (drC ((0:Int) + ((bd+1:Nat):Int))))=r
  rw [Int.zero_add,Int.zero_add]
  exact e
theorem chain_T:∀ (n:Nat) (t:Tm) (bv bd a1 a2 b1 b2:Nat),blk t≤n→okT true 0 0 t a1 a2=true→neT t→erT s2 t bv bd=0→eT (putOp 0 [e2 1 2]) (liT s2 t bv bd) bd=0 →
  okT true 0 0 (dT (dropOp 0) (dT (putOp 0 [e2 1 2]) (liT s2 t bv bd) bd) bd) b1 b2=true →
  dT (dropOp 0) (dT (putOp 0 [top0]) (dT (dropOp 0) (dT (putOp 0 [e2 1 2]) (liT s2 t bv bd) bd) bd) (bd+1)) (bd+1)=t
 | 0,t,bv,bd,a1,a2,b1,b2,hn,_,_,_,_,_=>by have:=blk_pos t;omega
 | n+1,t,bv,bd,a1,a2,b1,b2,hn,hok,hne,he,hp,hok1=>by
  rw [ne_eq] at hne
  obtain⟨r1,r2,r3⟩:=er_parts he
  obtain⟨p1,p2,p3⟩:=e_parts hp
  have E0:=li_eq s2 t bv bd
  rw [E0] at p1 p2 p3
  dsimp only at p1 p2 p3
  have E1:dT (putOp 0 [e2 1 2]) (liT s2 t bv bd) bd=.mk t.kind (numV s2 bv t.kind t.n) t.name (ownP (putOp 0 [e2 1 2]) t.kind (rowP s2 bd t.r).1 bd).1 (dK (putOp 0 [e2 1 2]) t.kind (liK s2 t.kind t.kids bv bd) bd) (dS (putOp 0 [e2 1 2]) t.kind (t.sys.map fun b=>liB s2 t.kind b bv bd) bd):=by
   rw [E0];exact d_eq _ _ _
  have E2:dT (dropOp 0) (dT (putOp 0 [e2 1 2]) (liT s2 t bv bd) bd) bd=.mk t.kind (numV s2 bv t.kind t.n) t.name (ownP (dropOp 0) t.kind (ownP (putOp 0 [e2 1 2]) t.kind (rowP s2 bd t.r).1 bd).1 bd).1 (dK (dropOp 0) t.kind (dK (putOp 0 [e2 1 2]) t.kind (liK s2 t.kind t.kids bv bd) bd) bd) (dS (dropOp 0) t.kind (dS (putOp 0 [e2 1 2]) t.kind (t.sys.map fun b=>liB s2 t.kind b bv bd) bd) bd):=by
   rw [E1];exact d_eq _ _ _
  have E3:dT (putOp 0 [top0]) (dT (dropOp 0) (dT (putOp 0 [e2 1 2]) (liT s2 t bv bd) bd) bd) (bd+1)=.mk t.kind (numV s2 bv t.kind t.n) t.name (ownP (putOp 0 [top0]) t.kind (ownP (dropOp 0) t.kind (ownP (putOp 0 [e2 1 2]) t.kind (rowP s2 bd t.r).1 bd).1 bd).1 (bd+1)).1 (dK (putOp 0 [top0]) t.kind (dK (dropOp 0) t.kind (dK (putOp 0 [e2 1 2]) t.kind (liK s2 t.kind t.kids bv bd) bd) bd) (bd+1)) (dS (putOp 0 [top0]) t.kind (dS (dropOp 0) t.kind (dS (putOp 0 [e2 1 2]) t.kind (t.sys.map fun b=>liB s2 t.kind b bv bd) bd) bd) (bd+1)):=by
   rw [E2];exact d_eq _ _ _
  have E4:dT (dropOp 0) (dT (putOp 0 [top0]) (dT (dropOp 0) (dT (putOp 0 [e2 1 2]) (liT s2 t bv bd) bd) bd) (bd+1)) (bd+1)=.mk t.kind (numV s2 bv t.kind t.n) t.name (ownP (dropOp 0) t.kind (ownP (putOp 0 [top0]) t.kind (ownP (dropOp 0) t.kind (ownP (putOp 0 [e2 1 2]) t.kind (rowP s2 bd t.r).1 bd).1 bd).1 (bd+1)).1 (bd+1)).1 (dK (dropOp 0) t.kind (dK (putOp 0 [top0]) t.kind (dK (dropOp 0) t.kind (dK (putOp 0 [e2 1 2]) t.kind (liK s2 t.kind t.kids bv bd) bd) bd) (bd+1)) (bd+1)) (dS (dropOp 0) t.kind (dS (putOp 0 [top0]) t.kind (dS (dropOp 0) t.kind (dS (putOp 0 [e2 1 2]) t.kind (t.sys.map fun b=>liB s2 t.kind b bv bd) bd) bd) (bd+1)) (bd+1)):=by
   rw [E3];exact d_eq _ _ _
  rw [E4]
  rw [E2] at hok1
  have oF:=ok_row hok1
  have oA:=fun hk=>ok_rowA hok1 hk
  have oK:=fun i x hx=>ok_kid (i:=i) (x:=x) hok1 hx
  have oS:=fun b x hb hx=>ok_sub (b:=b) (x:=x) hok1 hb hx
  have oFc:=fun b hb=>ok_face (b:=b) hok1 hb
  dsimp only at oF oA oK oS oFc
  have e1:=chain_own (k:=t.kind) (ok_row hok) (fun hk=>ok_rowA hok hk) r1 p1 oF oA
  have e2':dK (dropOp 0) t.kind (dK (putOp 0 [top0]) t.kind (dK (dropOp 0) t.kind (dK (putOp 0 [e2 1 2]) t.kind (liK s2 t.kind t.kids bv bd) bd) bd) (bd+1)) (bd+1)=t.kids:=by
   refine List.ext_getElem? fun i=>?_
   cases hx:t.kids[i]? with
   | none =>
    rw [List.getElem?_eq_none_iff] at hx ⊢
    rw [dK_len,dK_len,dK_len,dK_len,liK_len];exact hx
   | some x =>
    have hm:=List.mem_of_getElem? hx
    have g1:=liK_get (s:=s2) (k:=t.kind) (bv:=bv) (bd:=bd) hx
    have g2:=dK_get (o:=putOp 0 [e2 1 2]) (k:=t.kind) (bd:=bd) g1
    have g3:=dK_get (o:=dropOp 0) (k:=t.kind) (bd:=bd) g2
    have g4:=dK_get (o:=putOp 0 [top0]) (k:=t.kind) (bd:=bd+1) g3
    have g5:=dK_get (o:=dropOp 0) (k:=t.kind) (bd:=bd+1) g4
    rw [g5]
    have ih:=chain_T n x (bv+bvK t.kind i) (bd+bdK t.kind i) _ _ _ _ (by have:=blk_kid hm;omega) (ok_kid hok hx) (hne.1 x hm) (r2 i x hx) (p2 i _ g1) (oK i _ g3)
    rw [show bd+1+bdK t.kind i=bd+bdK t.kind i+1 by omega]
    rw [ih]
  have fin:∀ b∈t.sys,rightA ((putRow ptA 0 [e2 1 2] (rowP s2 bd b.1).1 bd).1.map (drC (bd:Int)))=true→_:=fun b hb h=>chain_A (d:=bd) (ok_face hok hb) (r3 b hb).1 (p3 _ (List.mem_map_of_mem (f:=fun b=>liB s2 t.kind b bv bd) hb)).1 h
  have s1:dS (putOp 0 [e2 1 2]) t.kind (t.sys.map fun b=>liB s2 t.kind b bv bd) bd=(t.sys.map fun b=>liB s2 t.kind b bv bd).map fun b=>dB (putOp 0 [e2 1 2]) t.kind b bd:=by
   refine dS_all fun b hb=>?_
   obtain⟨b0,hb0,rfl⟩:=List.mem_map.1 hb
   show (putRow ptA 0 [e2 1 2] (rowP s2 bd b0.1).1 bd).1≠[]
   have h1:=(r3 b0 hb0).1
   have h2:(putRow ptA 0 [e2 1 2] (rowP s2 bd b0.1).1 bd).2=0:=(p3 _ (List.mem_map_of_mem (f:=fun b=>liB s2 t.kind b bv bd) hb0)).1
   exact face_stays (ok_face hok hb0) h1 h2 (hne.2 b0 hb0).1
  have s2':dS (dropOp 0) t.kind (dS (putOp 0 [e2 1 2]) t.kind (t.sys.map fun b=>liB s2 t.kind b bv bd) bd) bd=((t.sys.map fun b=>liB s2 t.kind b bv bd).map fun b=>dB (putOp 0 [e2 1 2]) t.kind b bd).map fun b=>dB (dropOp 0) t.kind b bd:=by
   rw [s1]
   refine dS_all fun b hb=>?_
   obtain⟨b1,hb1,rfl⟩:=List.mem_map.1 hb
   obtain⟨b0,hb0,rfl⟩:=List.mem_map.1 hb1
   show (putRow ptA 0 [e2 1 2] (rowP s2 bd b0.1).1 bd).1.map _≠[]
   have h1:=(r3 b0 hb0).1
   have h2:(putRow ptA 0 [e2 1 2] (rowP s2 bd b0.1).1 bd).2=0:=(p3 _ (List.mem_map_of_mem (f:=fun b=>liB s2 t.kind b bv bd) hb0)).1
   intro e
   exact face_stays (ok_face hok hb0) h1 h2 (hne.2 b0 hb0).1 (List.map_eq_nil_iff.1 e)
  have all:∀ b∈t.sys,(putRow ptA 0 [top0] ((putRow ptA 0 [e2 1 2] (rowP s2 bd b.1).1 bd).1.map (drC ((0:Int) + (bd:Int)))) (bd+1)).1≠[]∧((putRow ptA 0 [top0] ((putRow ptA 0 [e2 1 2] (rowP s2 bd b.1).1 bd).1.map (drC ((0:Int) + (bd:Int)))) (bd+1)).1.map (drC ((0:Int) + ((bd+1:Nat):Int))))=b.1:=fun b hb=>by
   have m1:=List.mem_map_of_mem (f:=fun b=>liB s2 t.kind b bv bd) hb
   have m2:=List.mem_map_of_mem (f:=fun b=>dB (putOp 0 [e2 1 2]) t.kind b bd) m1
   have m3:=List.mem_map_of_mem (f:=fun b=>dB (dropOp 0) t.kind b bd) m2
   rw [← s2'] at m3
   have hA:=oFc _ m3
   have hA:rightA ((putRow ptA 0 [e2 1 2] (rowP s2 bd b.1).1 bd).1.map (drC ((0:Int) + (bd:Int))))=true:=hA
   rw [Int.zero_add] at hA ⊢
   rw [Int.zero_add]
   have hc:=fin b hb hA
   exact⟨(hc.2 (hne.2 b hb).1).2.2,hc.1⟩
  have e3':dS (dropOp 0) t.kind (dS (putOp 0 [top0]) t.kind (dS (dropOp 0) t.kind (dS (putOp 0 [e2 1 2]) t.kind (t.sys.map fun b=>liB s2 t.kind b bv bd) bd) bd) (bd+1)) (bd+1)=t.sys:=by
   rw [s2']
   rw [dS_all (o:=putOp 0 [top0]) (bd:=bd+1) (l:=((t.sys.map fun b=>liB s2 t.kind b bv bd).map fun b=>dB (putOp 0 [e2 1 2]) t.kind b bd).map fun b=>dB (dropOp 0) t.kind b bd) (fun b hb=>by
    obtain⟨b2,hb2,rfl⟩:=List.mem_map.1 hb
    obtain⟨b1,hb1,rfl⟩:=List.mem_map.1 hb2
    obtain⟨b0,hb0,rfl⟩:=List.mem_map.1 hb1
    exact (all b0 hb0).1)]
   rw [dS_all (o:=dropOp 0) (bd:=bd+1) (fun b hb=>by
    obtain⟨b3,hb3,rfl⟩:=List.mem_map.1 hb
    obtain⟨b2,hb2,rfl⟩:=List.mem_map.1 hb3
    obtain⟨b1,hb1,rfl⟩:=List.mem_map.1 hb2
    obtain⟨b0,hb0,rfl⟩:=List.mem_map.1 hb1
    intro e
    exact (all b0 hb0).1 (List.map_eq_nil_iff.1 e))]
   rw [List.map_map,List.map_map,List.map_map,List.map_map]
   conv=>rhs;rw [← List.map_id t.sys]
   refine List.map_congr_left fun b hb=>?_
   refine Prod.ext (all b hb).2 ?_
   have m1:=List.mem_map_of_mem (f:=fun b=>liB s2 t.kind b bv bd) hb
   have m2:=List.mem_map_of_mem (f:=fun b=>dB (putOp 0 [e2 1 2]) t.kind b bd) m1
   have m3:=List.mem_map_of_mem (f:=fun b=>dB (dropOp 0) t.kind b bd) m2
   rw [← s2'] at m3
   have hst:stayB (putOp 0 [e2 1 2]) bd (liB s2 t.kind b bv bd).1=true:=by
    have h2:(putRow ptA 0 [e2 1 2] (rowP s2 bd b.1).1 bd).2=0:=(p3 _ m1).1
    have:=face_stays (ok_face hok hb) (r3 b hb).1 h2 (hne.2 b hb).1
    unfold stayB
    show (!(putRow ptA 0 [e2 1 2] (rowP s2 bd b.1).1 bd).1.isEmpty)=true
    cases hc:(putRow ptA 0 [e2 1 2] (rowP s2 bd b.1).1 bd).1 with
    | nil=>exact absurd hc this
    | cons _ _=>rfl
   show ((((b.2.map fun x=>liT s2 x bv (bd+moreK t.kind)).map fun x=>dT (putOp 0 [e2 1 2]) x (bd+moreK t.kind)).map fun x=>dT (dropOp 0) x (bd+moreK t.kind)).map fun x=>dT (putOp 0 [top0]) x (bd+1+moreK t.kind)).map (fun x=>dT (dropOp 0) x (bd+1+moreK t.kind))=b.2
   rw [List.map_map,List.map_map,List.map_map,List.map_map]
   conv=>rhs;rw [← List.map_id b.2]
   refine List.map_congr_left fun x hx=>?_
   have q1:=List.mem_map_of_mem (f:=fun x=>liT s2 x bv (bd+moreK t.kind)) hx
   have q2:=List.mem_map_of_mem (f:=fun x=>dT (putOp 0 [e2 1 2]) x (bd+moreK t.kind)) q1
   have q3:=List.mem_map_of_mem (f:=fun x=>dT (dropOp 0) x (bd+moreK t.kind)) q2
   have ih:=chain_T n x bv (bd+moreK t.kind) _ _ _ _ (by have:=blk_sub hb hx;omega) (ok_sub hok hb hx) ((hne.2 b hb).2 x hx) ((r3 b hb).2 x hx) ((p3 _ m1).2 hst _ q1) (oS _ _ m3 q3)
   show dT (dropOp 0) (dT (putOp 0 [top0]) (dT (dropOp 0) (dT (putOp 0 [e2 1 2]) (liT s2 x bv (bd+moreK t.kind)) (bd+moreK t.kind)) (bd+moreK t.kind)) (bd+1+moreK t.kind)) (bd+1+moreK t.kind)=x
   rw [show bd+1+moreK t.kind=bd+moreK t.kind+1 by omega]
   exact ih
  rw [e1,e2',e3',numV_s2]
  cases t;rfl
def runE (line:Tm) (phi:List C) (a:Tm):Int:=alongE line phi a [negB 0] [e2 0 1]
def runT (line:Tm) (phi:List C) (a:Tm):Tm:=alongT line phi a [negB 0] [e2 0 1]
theorem run_any (hLA:LAll) (line:Tm) (v1:Value) (phi:List C) (vp:Value) (a:Tm) (v2:Value) (w:World) (h1:TmIn Tt w line v1) (h2:TmIn Tt w a v2) (hp:ClRow Tt w phi vp) (hb1:blk line≤150) (hb2:blk a≤150) (hpl:phi.length≤40000) :
  Calls Tryz.prog 16 #[v1,vp,v2] w fun e w'=>∃ v',e=.returned (.tuple #[v',.int .i64 (runE line phi a)])∧TmIn (fun q=>w.heap.size≤q) w' (runT line phi a) v'∧Below w.heap.size w w':=by
 have HE:Hid (runE line phi a=alongE line phi a [negB 0] [e2 0 1]∧runT line phi a=alongT line phi a [negB 0] [e2 0 1]):=⟨rfl,rfl⟩
 have htm:meetF [posB 1] [posB 0]=([e2 0 1],0):=by decide +kernel
 obtain⟨pa,pc,e3,_⟩:=id hp
 subst e3
 obtain⟨ra1,rc1,ka1,kc1,sa1,sc1,rfl,ht1⟩:=h1.form
 obtain⟨ra2,rc2,ka2,kc2,sa2,sc2,rfl,ht2⟩:=h2.form
 obtain⟨w1,hw1⟩:∃ W,W=((w.alloc (.cells #[.int .i64 line.kind,.int .i64 line.n,.string line.name,.slice ra1 line.r.length rc1,.slice ka1 line.kids.length kc1,.slice sa1 line.sys.length sc1] 26)).alloc (.cells #[.int .i64 a.kind,.int .i64 a.n,.string a.name,.slice ra2 a.r.length rc2,.slice ka2 a.kids.length kc2,.slice sa2 a.sys.length sc2] 26)).alloc (.cells #[.int .i64 0,.int .i64 0,.string ⟨#[]⟩,.slice none 0 0,.slice none 0 0,.slice none 0 0] 26):=⟨_,rfl⟩
 have b1:Below w.heap.size w w1:=by rw [hw1];exact bchain (bchain (belowA _ _) (belowA _ _)) (belowA _ _)
 obtain⟨X,hX⟩:∃ X,X=w.heap.size:=⟨_,rfl⟩
 have s1:w1.heap.size=X+3:=by rw [hw1,hX];simp
 have x1:Six w1 (X) (.int .i64 line.kind) (.int .i64 line.n) (.string line.name) (.slice ra1 line.r.length rc1) (.slice ka1 line.kids.length kc1) (.slice sa1 line.sys.length sc1):=⟨by
  rw [hX,hw1]
  have q:=heapNew w (.cells #[.int .i64 line.kind,.int .i64 line.n,.string line.name,.slice ra1 line.r.length rc1,.slice ka1 line.kids.length kc1,.slice sa1 line.sys.length sc1] 26)
  try simp only [World.size_alloc] at q
  exact heapBox _ (heapBox _ (q))⟩
 have x2:Six w1 (X+1) (.int .i64 a.kind) (.int .i64 a.n) (.string a.name) (.slice ra2 a.r.length rc2) (.slice ka2 a.kids.length kc2) (.slice sa2 a.sys.length sc2):=⟨by
  rw [hX,hw1]
  have q:=heapNew (w.alloc (.cells #[.int .i64 line.kind,.int .i64 line.n,.string line.name,.slice ra1 line.r.length rc1,.slice ka1 line.kids.length kc1,.slice sa1 line.sys.length sc1] 26)) (.cells #[.int .i64 a.kind,.int .i64 a.n,.string a.name,.slice ra2 a.r.length rc2,.slice ka2 a.kids.length kc2,.slice sa2 a.sys.length sc2] 26)
  try simp only [World.size_alloc] at q
  exact heapBox _ (q)⟩
 have x3:Six w1 (X+2) (.int .i64 0) (.int .i64 0) (.string ⟨#[]⟩) (.slice none 0 0) (.slice none 0 0) (.slice none 0 0):=⟨by
  rw [hX,hw1]
  have q:=heapNew ((w.alloc (.cells #[.int .i64 line.kind,.int .i64 line.n,.string line.name,.slice ra1 line.r.length rc1,.slice ka1 line.kids.length kc1,.slice sa1 line.sys.length sc1] 26)).alloc (.cells #[.int .i64 a.kind,.int .i64 a.n,.string a.name,.slice ra2 a.r.length rc2,.slice ka2 a.kids.length kc2,.slice sa2 a.sys.length sc2] 26)) (.cells #[.int .i64 0,.int .i64 0,.string ⟨#[]⟩,.slice none 0 0,.slice none 0 0,.slice none 0 0] 26)
  try simp only [World.size_alloc] at q
  exact q⟩
 obtain⟨w2,hw2⟩:∃ W,W=w1.alloc (.cells #[.int .i64 0] 59):=⟨_,rfl⟩
 have b2:Below w1.heap.size w1 w2:=by rw [hw2];exact belowA _ _
 have s2:w2.heap.size=X+4:=by rw [hw2];simp [s1]
 obtain⟨g,hg⟩:∃ g,g=X+3:=⟨_,rfl⟩
 have hM:Mk w2 g 0:=⟨⟨_,by rw [hg,hw2,← s1];exact heapNew _ _⟩⟩
 have b12:=bchain b1 b2
 have hgn:∀ q,q<w.heap.size→q≠g:=fun q hq=>by rw [hg,hX];omega
 have h1:=(h1.lt' (ok':=Ng g) (fun q _ hs=>hgn q hs)).blw b12
 have h2:=(h2.lt' (ok':=Ng g) (fun q _ hs=>hgn q hs)).blw b12
 have hp:=(hp.lt' (ok':=Ng g) (fun q _ hs=>hgn q hs)).blw b12
 have x1:=x1.blw b2
 have x2:=x2.blw b2
 have x3:=x3.blw b2
 obtain⟨PL,hPL⟩:∃ L,L=phi.length:=⟨_,rfl⟩
 rw [← hPL] at hp ⊢
 have cA:Hid (∀ V v v' ve vr,Mk V g 0→TmIn (Ng g) V line v→TmIn (Ng g) V a v'→ClRow (Ng g) V phi (.slice pa PL pc)→ClRow (Ng g) V [negB 0] ve→ClRow (Ng g) V [e2 0 1] vr→Calls Tryz.prog 50 #[.pointer (some ⟨g,0,none⟩),v,.slice pa PL pc,v',ve,vr] V fun e w'=>∃ v',e=.returned (.tuple #[v',.int .i64 (runE line phi a)])∧TmIn (Bt g V.heap.size w'.heap.size) w' (runT line phi a) v'∧Kn (Ng g) V w'):=fun V v v' ve vr q1 q2 q3 q4 q5 q6=>malong_any hLA g line v phi _ a v' _ ve _ vr V q1 q2 q3 q4 q5 q6 hb1 hb2 hpl (by decide) (by decide)
 obtain⟨RE,hRE⟩:∃ e,e=runE line phi a:=⟨_,rfl⟩
 obtain⟨RT,hRT⟩:∃ e,e=runT line phi a:=⟨_,rfl⟩
 rw [← hRE,← hRT] at cA ⊢
 have HW:Hid (_=_):=hw1
 have H2:Hid (_=_):=hw2
 have HX:Hid (X=w.heap.size):=hX
 have Hg:Hid (g=X+3):=hg
 have hgX:X+3≤g∧g<X+4:=by omega
 have Hb:Hid (Below w.heap.size w w2):=b12
 clear hw1 hw2 hX hg b1 b2 b12 hgn HE hRE hRT hPL hb1 hb2 hpl ht1 ht2
 go_enter Tryz.func16,Tryz.ntmps16
 go_upto_region 1 with fail
 rw [← HW.out]
 simp only [← HX.out]
 clear HW
 go_upto_region 2 with fail
 rw [← H2.out]
 simp only [← Hg.out]
 clear H2
 refine wp_region_held_drew (S:=fun V=>Six V X (.int .i64 line.kind) (.int .i64 line.n) (.string line.name) (.slice ra1 line.r.length rc1) (.slice ka1 line.kids.length kc1) (.slice sa1 line.sys.length sc1)∧Six V (X+1) (.int .i64 a.kind) (.int .i64 a.n) (.string a.name) (.slice ra2 a.r.length rc2) (.slice ka2 a.kids.length kc2) (.slice sa2 a.sys.length sc2)) (by kernel_rfl) ⟨⟨x1.blk⟩,⟨x2.blk⟩⟩ (fun hS=>?_)
 obtain⟨wd,hwd⟩:∃ V,V=w2.drew:=⟨_,rfl⟩
 have hkd:Kn (Ng g) w2 wd:=by rw [hwd];exact (Kn.refl _ _).drew
 have hszd:w2.heap.size≤wd.heap.size:=hkd.size
 have hbd:Below w2.heap.size w2 wd:=by rw [hwd];exact (Below.refl _ _).drew
 have hK:Kn (Ng g) w2 w2:=Kn.refl _ _
 rw [← hwd] at hS ⊢
 clear hwd
 have hK:=hK.trans hkd
 have hM:=hM.blw hbd
 have h1:=h1.kn hkd (fun _ q=>q)
 have h2:=h2.kn hkd (fun _ q=>q)
 have hp:=hp.kn hkd (fun _ q=>q)
 have x1:=x1.kn hkd (by omega)
 have x2:=x2.kn hkd (by omega)
 have x3:=x3.kn hkd (by omega)
 clear hkd hbd
 refine zk 0 (.agg #[.int .i64 line.kind,.int .i64 line.n,.string line.name,.slice ra1 line.r.length rc1,.slice ka1 line.kids.length kc1,.slice sa1 line.sys.length sc1]) rfl (by rfl) (fun w hS=>by obtain⟨y0,y1,y2,y3,y4,y5,_⟩:=hS.1.cells;go_simp) hS ?_
 try simp only [Act.put,zg1,zg2,zg3,zs1,zs2,zs3]
 refine zk 1 (.slice pa PL pc) rfl (by rfl) (fun w hS=>by go_simp) hS ?_
 try simp only [Act.put,zg1,zg2,zg3,zs1,zs2,zs3]
 refine zk 2 (.agg #[.int .i64 a.kind,.int .i64 a.n,.string a.name,.slice ra2 a.r.length rc2,.slice ka2 a.kids.length kc2,.slice sa2 a.sys.length sc2]) rfl (by rfl) (fun w hS=>by obtain⟨y0,y1,y2,y3,y4,y5,_⟩:=hS.2.cells;go_simp) hS ?_
 try simp only [Act.put,zg1,zg2,zg3,zs1,zs2,zs3]
 refine zk 4 (.pointer (some ⟨g,0,none⟩)) rfl (by rfl) (fun w hS=>by go_simp) hS ?_
 try simp only [Act.put,zg1,zg2,zg3,zs1,zs2,zs3]
 refine zr 3 rfl (fun KK hKK=>?_)
 refine⟨?_⟩
 have cc:=misZero_any g 0 wd hM
 go_simp
 refine cc.mono ?_
 rintro e u1 ⟨vu1,rfl,hRu1,hMu1,hk⟩
 obtain⟨au1,cu1,eu1,_⟩:=id hRu1
 simp only [List.length_cons,List.length_nil,Nat.zero_add] at eu1
 subst eu1
 have hK:=hK.trans hk
 have h1:=h1.kn hk (fun _ q=>q)
 have h2:=h2.kn hk (fun _ q=>q)
 have hp:=hp.kn hk (fun _ q=>q)
 have x1:=x1.kn hk (by omega)
 have x2:=x2.kn hk (by omega)
 have x3:=x3.kn hk (by omega)
 have hM:=hMu1
 have hszu1:=hk.size
 clear cc
 refine hKK.out _ _ (⟨x1,x2⟩) (fun hS=>?_)
 clear hKK KK
 try simp only [Act.put,zg1,zg2,zg3,zs1,zs2,zs3]
 clear hk
 refine zr 5 rfl (fun KK hKK=>?_)
 refine⟨?_⟩
 have cc:=mi_any g 0 u1 hM
 go_simp
 refine cc.mono ?_
 rintro e u2 ⟨vu2,rfl,hRu2,hMu2,hk⟩
 obtain⟨au2,cu2,eu2,_⟩:=id hRu2
 simp only [List.length_cons,List.length_nil,Nat.zero_add] at eu2
 subst eu2
 have hK:=hK.trans hk
 have h1:=h1.kn hk (fun _ q=>q)
 have h2:=h2.kn hk (fun _ q=>q)
 have hp:=hp.kn hk (fun _ q=>q)
 have x1:=x1.kn hk (by omega)
 have x2:=x2.kn hk (by omega)
 have x3:=x3.kn hk (by omega)
 have hRu1:=hRu1.kn hk (fun _ q=>q.1)
 have hM:=hMu2
 have hszu2:=hk.size
 clear cc
 refine hKK.out _ _ (⟨x1,x2⟩) (fun hS=>?_)
 clear hKK KK
 try simp only [Act.put,zg1,zg2,zg3,zs1,zs2,zs3]
 clear hk
 refine zr 6 rfl (fun KK hKK=>?_)
 refine⟨?_⟩
 have cc:=mj_any g 0 u2 hM
 go_simp
 refine cc.mono ?_
 rintro e u3 ⟨vu3,rfl,hRu3,hMu3,hk⟩
 obtain⟨au3,cu3,eu3,_⟩:=id hRu3
 simp only [List.length_cons,List.length_nil,Nat.zero_add] at eu3
 subst eu3
 have hK:=hK.trans hk
 have h1:=h1.kn hk (fun _ q=>q)
 have h2:=h2.kn hk (fun _ q=>q)
 have hp:=hp.kn hk (fun _ q=>q)
 have x1:=x1.kn hk (by omega)
 have x2:=x2.kn hk (by omega)
 have x3:=x3.kn hk (by omega)
 have hRu1:=hRu1.kn hk (fun _ q=>q.1)
 have hRu2:=hRu2.kn hk (fun _ q=>q.1)
 have hM:=hMu3
 have hszu3:=hk.size
 clear cc
 refine hKK.out _ _ (⟨x1,x2⟩) (fun hS=>?_)
 clear hKK KK
 try simp only [Act.put,zg1,zg2,zg3,zs1,zs2,zs3]
 clear hk
 refine zr 7 rfl (fun KK hKK=>?_)
 refine⟨?_⟩
 have cc:=Meet_any [posB 1] [posB 0] _ _ u3 hRu2.tt.frow hRu3.tt.frow (by decide) (by decide)
 rw [htm] at cc
 dsimp only at cc
 go_simp
 refine cc.mono ?_
 rintro e u4 ⟨vu4,rfl,hOu4,bu4⟩
 obtain⟨au4,cu4,eu4⟩:=OwnsC.len hOu4
 simp only [List.length_cons,List.length_nil,Nat.zero_add] at eu4
 subst eu4
 have hRu4:ClRow (Bt g u3.heap.size u4.heap.size) u4 ([e2 0 1]) (.slice au4 1 cu4):=(OwnsC.okn hOu4).bt (g:=g) (by have:=hM.lt;omega)
 have hk:Kn (Ng g) u3 u4:=Kn.of_below bu4
 have hszu4:=hk.size
 have hK:=hK.trans hk
 have hM:=hM.blw bu4
 have h1:=h1.kn hk (fun _ q=>q)
 have h2:=h2.kn hk (fun _ q=>q)
 have hp:=hp.kn hk (fun _ q=>q)
 have x1:=x1.kn hk (by omega)
 have x2:=x2.kn hk (by omega)
 have x3:=x3.kn hk (by omega)
 have hRu1:=hRu1.kn hk (fun _ q=>q.1)
 have hRu2:=hRu2.kn hk (fun _ q=>q.1)
 have hRu3:=hRu3.kn hk (fun _ q=>q.1)
 clear cc hOu4
 refine hKK.out _ _ (⟨x1,x2⟩) (fun hS=>?_)
 clear hKK KK
 try simp only [Act.put,zg1,zg2,zg3,zs1,zs2,zs3]
 clear hk
 refine zk 8 (.slice au4 1 cu4) rfl (by rfl) (fun w hS=>by go_simp) hS ?_
 try simp only [Act.put,zg1,zg2,zg3,zs1,zs2,zs3]
 refine zk 9 (.int .i64 0) rfl (by rfl) (fun w hS=>by go_simp) hS ?_
 try simp only [Act.put,zg1,zg2,zg3,zs1,zs2,zs3]
 refine zr 10 rfl (fun KK hKK=>?_)
 refine⟨?_⟩
 have cc:=mrow_any g 0 0 au4 1 cu4 u4 hM
 rw [fstE_none] at cc
 go_simp
 refine cc.mono ?_
 rintro e u5 ⟨rfl,hMu5,hk⟩
 have hK:=hK.trans hk
 have h1:=h1.kn hk (fun _ q=>q)
 have h2:=h2.kn hk (fun _ q=>q)
 have hp:=hp.kn hk (fun _ q=>q)
 have x1:=x1.kn hk (by omega)
 have x2:=x2.kn hk (by omega)
 have x3:=x3.kn hk (by omega)
 have hRu1:=hRu1.kn hk (fun _ q=>q.1)
 have hRu2:=hRu2.kn hk (fun _ q=>q.1)
 have hRu3:=hRu3.kn hk (fun _ q=>q.1)
 have hRu4:=hRu4.kn hk (fun _ q=>q.1)
 have hM:=hMu5
 have hszu5:=hk.size
 clear cc
 refine hKK.out _ _ (⟨x1,x2⟩) (fun hS=>?_)
 clear hKK KK
 try simp only [Act.put,zg1,zg2,zg3,zs1,zs2,zs3]
 clear hk
 refine zr 11 rfl (fun KK hKK=>?_)
 refine⟨?_⟩
 have cc:=cA.out u5 _ _ _ _ hM h1 h2 hp (hRu1.lt' fun q h _=>h.1) (hRu4.lt' fun q h _=>h.1)
 go_simp
 refine cc.mono ?_
 rintro e u6 ⟨vu6,rfl,hvu6,hk⟩
 obtain⟨ra8,rc8,ka8,kc8,sa8,sc8,rfl,ht8⟩:=hvu6.form
 have hT8:=ht8.value
 have hK:=hK.trans hk
 have x1:=x1.kn hk (by omega)
 have x2:=x2.kn hk (by omega)
 have x3:=x3.kn hk (by omega)
 have hszu6:=hk.size
 clear cc hvu6 ht8
 refine hKK.out _ _ (⟨x1,x2⟩) (fun hS=>?_)
 clear hKK KK
 try simp only [Act.put,zg1,zg2,zg3,zs1,zs2,zs3]
 clear hk
 refine zk 12 (.agg #[.int .i64 RT.kind,.int .i64 RT.n,.string RT.name,.slice ra8 RT.r.length rc8,.slice ka8 RT.kids.length kc8,.slice sa8 RT.sys.length sc8]) rfl (by rfl) (fun w hS=>by go_simp) hS ?_
 try simp only [Act.put,zg1,zg2,zg3,zs1,zs2,zs3]
 refine zk 13 (.int .i64 RE) rfl (by rfl) (fun w hS=>by go_simp) hS ?_
 try simp only [Act.put,zg1,zg2,zg3,zs1,zs2,zs3]
 refine zr 14 rfl (fun KK hKK=>?_)
 obtain⟨w97,hwz,zz2,kz,o0,o1,o2,o3,o4,o5,f0,f1,f2,f3,f4,f5⟩:=zst x3 (.int .i64 RT.kind) (.int .i64 RT.n) (.string RT.name) (.slice ra8 RT.r.length rc8) (.slice ka8 RT.kids.length kc8) (.slice sa8 RT.sys.length sc8)
 have Hwz:Hid (_=_):=hwz
 clear hwz
 have hTf:Hid (TmIn (fun q=>X≤q) w97 RT (.agg #[.int .i64 RT.kind,.int .i64 RT.n,.string RT.name,.slice ra8 RT.r.length rc8,.slice ka8 RT.kids.length kc8,.slice sa8 RT.sys.length sc8])):=(hT8.kn kz (fun _ q=>by have:=q.2.1;omega)).up fun q h=>by have:=h.2.1;omega
 have hKf:Below X w w97:=by
  have q1:Kn (fun q=>q<X) w2 w97:=(hK.sub (fun q h=>by show q≠g;omega)).trans (kz.sub (fun q h=>by omega))
  have q2:=(Kn.of_below (No:=fun q=>q<X) Hb.out).trans q1
  exact q2.below (fun q h=>h) (by rw [HX.out];exact Nat.le_refl _)
 have x1:=x1.kn kz (by omega)
 have x2:=x2.kn kz (by omega)
 obtain⟨g0,g1,g2,g3,g4,g5,_⟩:=zz2.cells
 refine⟨?_⟩
 go_simp
 rw [← Hwz.out]
 refine hKK.out _ _ (⟨x1,x2⟩) (fun hS=>?_)
 clear hKK KK
 try simp only [Act.put,zg1,zg2,zg3,zs1,zs2,zs3]
 refine zk 15 (.int .i64 RE) rfl (by rfl) (fun w hS=>by go_simp) hS ?_
 try simp only [Act.put,zg1,zg2,zg3,zs1,zs2,zs3]
 refine wpAnyH_done (by kernel_rfl) ?_ _
 go_wp2_with fail
 exact bodyPost_ret (v:=.tuple #[.agg #[.int .i64 RT.kind,.int .i64 RT.n,.string RT.name,.slice ra8 RT.r.length rc8,.slice ka8 RT.kids.length kc8,.slice sa8 RT.sys.length sc8],.int .i64 RE]) (by simp only [results,Tryz.results16];simp [go_sem,g0,g1,g2,g3,g4,g5]) rfl ⟨_,rfl,by rw [← HX.out];exact hTf.out,by rw [← HX.out];exact hKf⟩
theorem wr_ok {t:Tm} (h:wrongN true 0 0 t=0):okT true 0 0 t 0 0=true:=by
 unfold wrongN at h
 split at h
 ·cases h
 ·split at h
  ·assumption
  ·cases h
theorem take_ok {T:Tm} (hw:wrongN true 0 0 T=0) {r:List C} (hr:r=[top0]∨r=[]):takE 0 r T=0∧takT 0 r T=dT (dropOp 0) (dT (putOp 0 r) T 0) 0:=by
 have hl:(liftFF r 0 1).2=0∧(liftFF r 0 1).1=r∧rightF r=true:=by
  rcases hr with rfl|rfl <;> decide +kernel
 have hs:DStp.ok ⟨0,r,if r=[] then negB 0 else posB 0⟩:=by
  rcases hr with rfl|rfl
  ·exact⟨by decide,.inl ⟨rfl,rfl⟩⟩
  ·exact⟨by decide,.inr ⟨rfl,rfl⟩⟩
 have he:eT (putOp 0 r) T 0=0:=e_ok hs _ T 0 0 0 (Nat.le_refl _) (wr_ok hw)
 have hd:wrD 0 r T=0:=by
  unfold wrD
  rw [if_pos hw,if_pos ⟨by decide,hl.2.2⟩]
 have hx:eT (dropOp 0) (dT (putOp 0 r) T 0) 0=0:=e_drop _
 unfold takE takT ansD
 rw [if_pos hd,if_pos hd,if_pos hl.1,if_pos hl.1,hl.2.1,if_pos he,if_pos he,if_pos he,if_pos hx]
 exact⟨hx,rfl⟩
theorem dims_ok {t:Tm} (h:dimsE 1 2 t=0):erT s2 t 0 0=0∧dimsT 1 2 t=liT s2 t 0 0:=by
 unfold dimsE apE at h
 unfold dimsT apT
 by_cases hw:wrL 1 2 t=0
 ·rw [if_pos hw] at h
  refine⟨h,?_⟩
  rw [if_pos hw]
  unfold ansL
  rw [if_pos (show erT ⟨0,0,1,2⟩ t 0 0=0 from h)]
  rfl
 ·rw [if_neg hw] at h
  exact absurd h hw
theorem both_ok {t:Tm} (h:bothE 0 1 t=0):erT (sd (0:Int)) t 0 0=0∧bothT 0 1 t=liT (sd (0:Int)) t 0 0:=by
 have e:bothT 0 1 t=liT ⟨0,0,0,1⟩ (liT ⟨0,0,0,0⟩ t 0 0) 0 0:=by unfold bothT;rw [if_pos h]
 have hz:liT ⟨0,0,0,0⟩ t 0 0=t:=li_zero _ t 0 0 (Nat.le_refl _)
 rw [hz] at e
 unfold bothE at h
 split at h
 ·split at h
  ·split at h
   ·cases h
   ·rw [hz] at h;exact⟨h,e⟩
  ·exact absurd h ‹_›
 ·exact absurd h ‹_›
theorem both_end {t:Tm} (hne:neT t) (h:bothE 0 1 t=0):dT (dropOp 0) (dT (putOp 0 [top0]) (bothT 0 1 t) 0) 0=t:=by
 obtain⟨h1,h2⟩:=both_ok h
 rw [h2]
 have hhs:hsT (liT (sd (0:Int)) t 0 0) 0=false:=hs_sd (p:=0) (by omega) (by omega) _ t 0 0 (Nat.le_refl _)
 have hn:neT (liT (sd (0:Int)) t 0 0):=ne_li (i:=0) (by decide) _ t 0 0 (Nat.le_refl _) hne h1
 have d1:dT (putOp 0 [top0]) (liT (sd (0:Int)) t 0 0) 0=liT (sd (0:Int)) t 0 0:=d_same (s:=⟨0,[top0],top0⟩) _ (liT (sd (0:Int)) t 0 0) 0 (Nat.le_refl _) hn hhs
 rw [d1]
 exact drop_li (i:=0) (by decide) _ t 0 0 (Nat.le_refl _) hne h1
theorem lift0 {phi:List C} (hA:rightA phi=true) (h:(liftFF phi 0 1).2=0):rightA (liftFF phi 0 1).1=true∧∀ c∈(liftFF phi 0 1).1,c.1.val.testBit 0=false∧c.2.val.testBit 0=false:=by
 have e:rowP (sd (0:Int)) 0 phi=liftFF phi 0 1:=rowP_sd (i:=0) (by decide) 0 phi
 refine⟨by rw [← e];exact rowP_rightA (s:=sd (0:Int)) (by show (0:Int)≤1;decide) 0 hA,fun c hc=>?_⟩
 obtain⟨_,hall,m1,_,_⟩:=liftFF_facts (fr:=0) (by_:=1) h
 obtain⟨c0,hc0,rfl⟩:=m1 c hc
 have hb:=liftC_bits (j:=0) (m:=1) (hall c0 hc0) 0
 exact⟨by have:=hb.1;simpa using this,by have:=hb.2;simpa using this⟩
theorem cl_nil0 (w:World):ClRow Tt w [] (.slice none 0 0):=⟨none,0,rfl,Nat.le_refl _,fun j c h=>by simp at h⟩
theorem kd_nil0 (w:World):KdT Tt w (TmIn Tt w) [] (.slice none 0 0):=⟨none,0,rfl,Nat.le_refl _,fun j c h=>by simp at h⟩
theorem sy_nil0 (w:World):SyT Tt w (TmIn Tt w) [] (.slice none 0 0):=⟨none,0,rfl,Nat.le_refl _,fun j c h=>by simp at h⟩
end Go.Proofs.YtmblbmdchinflaaGreat
