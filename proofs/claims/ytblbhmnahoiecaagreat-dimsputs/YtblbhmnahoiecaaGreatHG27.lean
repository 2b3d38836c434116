/- A part of the proof. -/
import Derived.Test.YtblbhmnahoiecaaGreatHG26
set_option linter.unusedVariables false
set_option linter.unusedSimpArgs false
set_option maxRecDepth 100000
set_option maxHeartbeats 8000000
namespace Go.Proofs.YtblbhmnahoiecaaGreat
open Go.RowKit
def capT:Tm->Nat:=Tm.fold fun _ _ s r ks sys=>1+max r.length 64+s.size+ks.sum+(sys.map fun b=>1+max b.1.length 64+b.2.sum).sum
def capL (l:List Tm):Nat:=(l.map capT).sum
def capS (l:List (List C × List Tm)):Nat:=(l.map fun b=>1+max b.1.length 64+capL b.2).sum
theorem cap_eq (t:Tm):capT t=1+max t.r.length 64+t.name.size+capL t.kids+capS t.sys:=by
 unfold capT;rw [fold_mk];simp only [List.map_map,Function.comp_def];rfl
def DOp.len64 (o:DOp):Prop:=∀ l bd,(o.fn l bd).1.length<=max l.length 64/\(o.fc l bd).1.length<=max l.length 64
theorem capK_le {o:DOp} {k:Int} {bd:Nat}:∀ (l:List Tm) (k0:Nat),(∀ x∈l,∀ d,capT (dT o x d)<=capT x)->((l.zipIdx k0).map fun p=>capT (dT o p.1 (bd+bdK k p.2))).sum<=(l.map capT).sum
 | [],_,_=>by simp
 | x :: l,k0,h=>by
  have h1:=h x (by simp) (bd+bdK k k0)
  have h2:=capK_le (o:=o) (k:=k) (bd:=bd) l (k0+1) (fun y hy=>h y (List.mem_cons_of_mem _ hy))
  simp only [List.zipIdx_cons,List.map_cons,List.sum_cons]
  omega
theorem capM_le {o:DOp} {d:Nat}:∀ (l:List Tm),(∀ x∈l,∀ d,capT (dT o x d)<=capT x)->capL (l.map fun x=>dT o x d)<=capL l
 | [],_=>by simp [capL]
 | x :: l,h=>by
  have h1:=h x (by simp) d
  have h2:=capM_le (o:=o) (d:=d) l (fun y hy=>h y (List.mem_cons_of_mem _ hy))
  unfold capL at h2 ⊢
  simp only [List.map_cons,List.sum_cons]
  omega
theorem capB_le {o:DOp} (ho:o.len64) {k:Int} {bd:Nat}:∀ (l:List (List C × List Tm)),(∀ b∈l,∀ x∈b.2,∀ d,capT (dT o x d)<=capT x)->capS (dS o k l bd)<=capS l
 | [],_=>by simp [capS,dS]
 | b :: l,h=>by
  have h2:=capB_le ho (k:=k) (bd:=bd) l (fun y hy=>h y (List.mem_cons_of_mem _ hy))
  have h1:=(ho b.1 bd).2
  have h3:=capM_le (o:=o) (d:=bd+moreK k) b.2 (h b (by simp))
  have e:capS (b :: l)=(1+max b.1.length 64+capL b.2) + capS l:=by simp [capS]
  rw [e]
  unfold dS at h2 ⊢
  rw [List.filter_cons]
  split
  ·have e2:∀ m,capS (dB o k b bd :: m)=(1+max (o.fc b.1 bd).1.length 64+capL (b.2.map fun x=>dT o x (bd+moreK k))) + capS m:=fun m=>by simp [capS,dB]
   rw [List.map_cons,e2]
   omega
  ·omega
theorem cap_d {o:DOp} (ho:o.len64):∀ (n:Nat) (t:Tm) (bd:Nat),blk t<=n->capT (dT o t bd)<=capT t
 | 0,t,bd,hn=>by have:=blk_pos t;omega
 | n+1,t,bd,hn=>by
  have h1:(ownP o t.kind t.r bd).1.length<=max t.r.length 64:=by
   unfold ownP
   split
   ·exact (ho _ _).2
   ·exact (ho _ _).1
  have h2:capL (dK o t.kind t.kids bd)<=capL t.kids:=by
   have:=capK_le (o:=o) (k:=t.kind) (bd:=bd) t.kids 0 (fun x hx d=>cap_d ho n x d (by have:=blk_kid hx;omega))
   unfold capL dK
   rw [List.map_map]
   exact this
  have h3:=capB_le ho (k:=t.kind) (bd:=bd) t.sys (fun b hb x hx d=>cap_d ho n x d (by have:=blk_sub hb hx;omega))
  have e:=cap_eq (dT o t bd)
  rw [d_eq o t bd] at e ⊢
  rw [e,cap_eq t]
  show 1+max (ownP o t.kind t.r bd).1.length 64+t.name.size+capL (dK o t.kind t.kids bd) + capS (dS o t.kind t.sys bd)<=_
  omega
theorem cap_dT {o:DOp} (ho:o.len64) (t:Tm) (bd:Nat):capT (dT o t bd)<=capT t:=cap_d ho _ t bd (Nat.le_refl _)
theorem capL_ge:∀ (l:List Tm),(∀ x∈l,blk x<=capT x/\capT x<=65*blk x)->blkL l<=capL l/\capL l<=65*blkL l
 | [],_=>by simp [capL,blkL]
 | x :: l,h=>by
  have h1:=h x (by simp)
  have h2:=capL_ge l (fun y hy=>h y (List.mem_cons_of_mem _ hy))
  unfold capL blkL at h2 ⊢
  simp only [List.map_cons,List.sum_cons]
  omega
theorem capS_ge:∀ (l:List (List C × List Tm)),(∀ b∈l,∀ x∈b.2,blk x<=capT x/\capT x<=65*blk x)->blkS l<=capS l/\capS l<=65*blkS l
 | [],_=>by simp [capS,blkS]
 | b :: l,h=>by
  have h1:=capL_ge b.2 (h b (by simp))
  have h2:=capS_ge l (fun y hy=>h y (List.mem_cons_of_mem _ hy))
  unfold capS blkS at h2 ⊢
  simp only [List.map_cons,List.sum_cons]
  omega
theorem cap_ge':∀ (n:Nat) (t:Tm),blk t<=n->blk t<=capT t/\capT t<=65*blk t
 | 0,t,hn=>by have:=blk_pos t;omega
 | n+1,t,hn=>by
  have h2:=capL_ge t.kids (fun x hx=>cap_ge' n x (by have:=blk_kid hx;omega))
  have h3:=capS_ge t.sys (fun b hb x hx=>cap_ge' n x (by have:=blk_sub hb hx;omega))
  rw [cap_eq,blk_eq]
  omega
theorem cap_ge (t:Tm):blk t<=capT t/\capT t<=65*blk t:=cap_ge' _ t (Nat.le_refl _)
theorem noT_cap:capT noT<=65:=by
 rw [cap_eq]
 simp [noT,capL,capS]
 exact Nat.le_refl 65
theorem putOp_len (i:Int) (r:List C):(putOp i r).len64:=fun l bd=>by
 refine⟨?_,?_⟩ <;> (show (putRow _ i r l bd).1.length<=_;unfold putRow;split)
 ·split
  ·have:=putF_len l (i+bd) (liftFF r 0 bd).1;omega
  ·simp
 ·simp;omega
 ·split
  ·have:=rightA_len (ptA_right l (i+bd) (liftFF r 0 bd).1);omega
  ·simp
 ·simp;omega
theorem dropOp_len (i:Int):(dropOp i).len64:=fun l bd=>by
 refine⟨?_,?_⟩ <;> (show (l.map (drC (i+bd))).length<=_;simp;omega)
theorem cap_ans {o:DOp} (ho:o.len64) (t:Tm):capT (ansD o t)<=capT t:=by
 unfold ansD
 split
 ·exact cap_dT ho t 0
 ·have h1:=noT_cap
  have h2:65<=capT t:=by rw [cap_eq];omega
  omega
def pallS (r:List C) (a:Tm × Int) (i:Nat):Tm × Int:=if a.2=0 then (if eT (putOp i r) a.1 0=0 then (ansD (putOp i r) a.1,0) else (noT,eT (putOp i r) a.1 0)) else a
def pall (r:List C) (l:List Nat) (t:Tm):Tm × Int:=l.foldl (pallS r) (t,0)
theorem pall_step {r:List C} {l:List Nat} {t:Tm} {k i:Nat} (h:l[k]? = some i):pall r (l.take (k+1)) t=pallS r (pall r (l.take k) t) i:=by
 unfold pall;rw [List.take_add_one,h];simp
theorem pallS_stuck {r:List C}:∀ (l:List Nat) (a:Tm × Int),a.2≠0->l.foldl (pallS r) a=a
  | [],a,_=>rfl
  | i :: l, a, h => by rw [List.foldl_cons]; have e : pallS r a i = a := by unfold pallS; rw [if_neg h]
                       rw [e];exact pallS_stuck l a h
theorem pall_stuck {r:List C} {l:List Nat} {t:Tm} (k:Nat) (h:(pall r (l.take k) t).2≠0):pall r l t=pall r (l.take k) t:=by
 have e:=List.take_append_drop k l
 conv=>lhs;rw [<- e]
 unfold pall at h ⊢
 rw [List.foldl_append]
 exact pallS_stuck _ _ h
theorem pall_any (P:Nat->Prop) (t:Tm) (v:Value) (w:World) (hvv:∀ V,Kn P w V->TmIn Tt V t v) (hb:capT t<=40000) (d:Nat) (hd:d<4294967296) (r:List C) (vr:Value) (hr:ClRow Tt w r vr) (hrl:r.length<=40000):Calls Tryz.prog 97 #[v,.int .u32 (d:Int),vr] w fun e w'=>∃ v',e=.returned (.tuple #[v',.int .i64 (pall r (dimsOf d) t).2])/\(∀ V,Kn (fun q=>P q\/w.heap.size<=q) w' V->TmIn Tt V (pall r (dimsOf d) t).1 v')/\Below w.heap.size w w':=by
 have hv:=hvv w (Kn.refl _ _)
 obtain⟨ra,rc,ka,kc,sa,sc,rfl,ht⟩:=hv.form
 obtain⟨w1,hw1⟩:∃ W,W=(w.alloc (.cells #[.int .i64 t.kind,.int .i64 t.n,.string t.name,.slice ra t.r.length rc,.slice ka t.kids.length kc,.slice sa t.sys.length sc] 26)).alloc (.cells #[.int .i64 0,.int .i64 0,.string ⟨#[]⟩,.slice none 0 0,.slice none 0 0,.slice none 0 0] 26):=⟨_,rfl⟩
 have b1:Below w.heap.size w w1:=by rw [hw1];exact bchain (belowA _ _) (belowA _ _)
 obtain⟨X,hX⟩:∃ X,X=w.heap.size:=⟨_,rfl⟩
 have s1:w1.heap.size=X+2:=by rw [hw1,hX];simp
 have x1:Six w1 X (.int .i64 t.kind) (.int .i64 t.n) (.string t.name) (.slice ra t.r.length rc) (.slice ka t.kids.length kc) (.slice sa t.sys.length sc):=⟨by rw [hX,hw1];exact (Below.heap_alloc _ _ _ (by simp)).trans (heapNew w _)⟩
 have x2:Six w1 (X+1) (.int .i64 0) (.int .i64 0) (.string ⟨#[]⟩) (.slice none 0 0) (.slice none 0 0) (.slice none 0 0):=⟨by
  rw [hX,hw1];have:=heapNew (w.alloc (.cells #[.int .i64 t.kind,.int .i64 t.n,.string t.name,.slice ra t.r.length rc,.slice ka t.kids.length kc,.slice sa t.sys.length sc] 26)) (.cells #[.int .i64 0,.int .i64 0,.string ⟨#[]⟩,.slice none 0 0,.slice none 0 0,.slice none 0 0] 26);rwa [World.size_alloc] at this⟩
 have HC:Hid (∀ W,Below w1.heap.size w1 W->Six W X (.int .i64 t.kind) (.int .i64 t.n) (.string t.name) (.slice ra t.r.length rc) (.slice ka t.kids.length kc) (.slice sa t.sys.length sc)):=fun W q=>x1.blw q
 have HZ:Hid (∀ W,Below w1.heap.size w1 W->Six W (X+1) (.int .i64 0) (.int .i64 0) (.string ⟨#[]⟩) (.slice none 0 0) (.slice none 0 0) (.slice none 0 0)):=fun W q=>x2.blw q
 have HT:Hid (∀ W,Below w1.heap.size w1 W->TmIn Tt W t (.agg #[.int .i64 t.kind,.int .i64 t.n,.string t.name,.slice ra t.r.length rc,.slice ka t.kids.length kc,.slice sa t.sys.length sc])):=fun W q=>((ht.blw b1).blw q).value
 have HB:Hid (∀ W,Below w1.heap.size w1 W->Below X w W):=fun W q=>by rw [hX];exact bchain b1 q
 have HXs:Hid (X=w.heap.size):=hX
 have Hs1:Hid (w1.heap.size=X+2):=s1
 have HW:Hid (_=_):=hw1
 have HR:Hid (∀ W,Below X w W->ClRow Tt W r vr):=fun W q=>hr.blw (by rw [<- hX];exact q)
 have HT0:Hid (∀ W W',Below X w W->Kn (fun q=>(P q\/X<=q)/\q≠X/\q≠X+1) W W'->TmIn Tt W' t (.agg #[.int .i64 t.kind,.int .i64 t.n,.string t.name,.slice ra t.r.length rc,.slice ka t.kids.length kc,.slice sa t.sys.length sc])):=fun W W' q q2=>hvv W' ⟨q2.os.trans q.os,q2.tape.trans q.tape,q2.output.trans q.output,Nat.le_trans q.size q2.size,fun k hk hs=>(q2.block k ⟨.inl hk,by omega,by omega⟩ (Nat.lt_of_lt_of_le hs q.size)).trans (q.block k (by omega))⟩
 have cl:=list_any d w1 hd
 obtain⟨ds,hds⟩:∃ l,l=dimsOf d:=⟨_,rfl⟩
 have HD:Hid (∀ k∈ds,k<24):=fun k hk=>dimsOf_lt k (by rw [<- hds];exact hk)
 have hL24:ds.length<=24:=by rw [hds];exact Nat.le_trans (List.length_filter_le _ _) (by simp)
 rw [<- hds] at cl ⊢
 obtain⟨va,vc,rfl,_⟩:=id hr
 obtain⟨LR,hLR⟩:∃ L,L=r.length:=⟨_,rfl⟩
 rw [<- hLR] at HR
 simp only [<- hLR]
 rw [<- hX]
 have Hrl:Hid (r.length<=40000):=hrl
 have Hbt:Hid (capT t<=40000):=hb
 have x1':Six w1 X (.int .i64 t.kind) (.int .i64 t.n) (.string t.name) (.slice ra t.r.length rc) (.slice ka t.kids.length kc) (.slice sa t.sys.length sc):=x1
 clear hw1 hX s1 x2 hv hvv ht b1 hr hLR hds HT hrl hb x1
 go_enter Tryz.func97,Tryz.ntmps97
 go_upto_region 1 with fail
 rw [<- HW.out]
 simp only [<- HXs.out]
 clear HW
 go_wp2_with fail
 refine cl.mono ?_
 rintro e w2 ⟨vl,rfl,hOl,b2⟩
 clear cl
 have hs1:=Hs1.out
 obtain⟨L,hL⟩:∃ L,L=ds.length:=⟨_,rfl⟩
 have HL:Hid (L=ds.length):=hL
 rw [<- hL] at hL24
 have hrow:∃ la lc,vl=.slice la L lc/\(∀ (k i:Nat),ds[k]? = some i->∃ g,la=some ⟨g,0,none⟩/\X+2<=g/\g<w2.heap.size/\w2.cell? ⟨g,k,none⟩=some (.int .i64 (i:Int))):=by
  rcases hOl.rowAt with ⟨rfl,hz⟩|⟨g,cap,rfl,hg,hc⟩
  ·subst hz;exact⟨none,0,by rw [hL];rfl,fun k i h=>by simp at h⟩
  ·refine⟨_,_,by rw [hL],fun k i h=>⟨g,rfl,?_,hg,?_⟩⟩
   ·have:=(World.ownsRow.lt hOl g rfl).1;omega
   ·have:=hc k (List.getElem?_eq_some_iff.1 h).1
    rw [h] at this
    simpa using this
 obtain⟨la,lc,rfl,hrow⟩:=hrow
 have Hrow:Hid (_):=hrow
 have hS0:Below X w w2:=HB.out w2 b2
 have hC2:=HC.out w2 b2
 have hZ2:=HZ.out w2 b2
 have hs2:X+2<=w2.heap.size:=by have:=b2.size;omega
 have HBk:Hid (∀ V,Kn (fun q=>q≠X) w2 V->Below X w V):=fun V q=>hS0.trans (q.below (fun q hq=>by omega) (by omega))
 have HZk:Hid (∀ V,Kn (fun q=>q≠X) w2 V->Six V (X+1) (.int .i64 0) (.int .i64 0) (.string ⟨#[]⟩) (.slice none 0 0) (.slice none 0 0) (.slice none 0 0)):=fun V q=>hZ2.kn q (by omega)
 have HX2:Hid (X+2<=w2.heap.size):=hs2
 clear hOl hrow HB HC HZ hL
 go_wp2_with fail
 go_loopw [14] (fun s wr=>∃ (k:Nat) (T:Tm) (ra2:Option Addr) (rc2:Nat) (ka2:Option Addr) (kc2:Nat) (sa2:Option Addr) (sc2:Nat),k<=L/\s=.int .i64 k/\Six wr X (.int .i64 T.kind) (.int .i64 T.n) (.string T.name) (.slice ra2 T.r.length rc2) (.slice ka2 T.kids.length kc2) (.slice sa2 T.sys.length sc2)/\(∀ V,Kn (fun q=>(P q\/X<=q)/\q≠X/\q≠X+1) wr V->TmIn Tt V T (.agg #[.int .i64 T.kind,.int .i64 T.n,.string T.name,.slice ra2 T.r.length rc2,.slice ka2 T.kids.length kc2,.slice sa2 T.sys.length sc2]))/\Kn (fun q=>q≠X) w2 wr/\Hid (pall r (ds.take k) t=(T,0)/\capT T<=40000)) (fun s _=>L - (intOf s).toNat)
 case atStart=>exact⟨0,t,_,_,_,_,_,_,Nat.zero_le _,rfl,hC2,fun V q=>HT0.out w2 V hS0 q,Kn.refl _ _,⟨rfl,Hbt.out⟩⟩
 case round =>
  obtain⟨wq,hwq⟩:∃ wq,wq=wr:=⟨_,rfl⟩
  subst hwq
  clear hC2 hZ2 hs2
  obtain⟨k,T,ra2,rc2,ka2,kc2,sa2,sc2,hk,rfl,hO,hTm,hK,HP⟩:=hrel
  have hsq:X+2<=wq.heap.size:=by have:=HX2.out;have:=hK.size;omega
  by_cases hlt:k<L
  ·have hkI:(k:Int) < (L:Int):=by omega
   obtain⟨i,hi⟩:=someL (l:=ds) (k:=k) (by rw [<- HL.out];exact hlt)
   have hi24:=HD.out i (List.mem_of_getElem? hi)
   obtain⟨g,rfl,hgX,hgl,hgc⟩:=Hrow.out k i hi
   have cg:wq.cell? ⟨g,k,none⟩=some (.int .i64 (i:Int)):=by
    have:=hK.block g (by omega) hgl
    rw [World.cell?_of_block (w:=w2) (w':=wq) (a:=⟨g,k,none⟩) this];exact hgc
   have hok:(0:Int)<=(i:Int)/\(i:Int)<=1000000:=by omega
   have HTm:Hid (∀ V,Below wq.heap.size wq V->TmIn Tt V T (.agg #[.int .i64 T.kind,.int .i64 T.n,.string T.name,.slice ra2 T.r.length rc2,.slice ka2 T.kids.length kc2,.slice sa2 T.sys.length sc2])):=fun V q=>hTm V (Kn.of_below q)
   have cP:Hid (∀ V,Below wq.heap.size wq V->Calls Tryz.prog 40 #[.int .i64 (i:Int),.slice va LR vc] V fun e w'=>∃ fV cV,e=.returned (.agg #[fV,cV])/\RowC (putOp i r).fn fV w'/\RowC (putOp i r).fc cV w'/\Below V.heap.size V w'):=fun V q=>putting_any i r _ V (HR.out V (HBk.out V (hK.trans (Kn.of_below q)))) Hrl.out hok
   have cT:Hid (∀ V fV cV,Below wq.heap.size wq V->RowC (putOp i r).fn fV V->RowC (putOp i r).fc cV V->Calls Tryz.prog 41 #[.agg #[fV,cV],.agg #[.int .i64 T.kind,.int .i64 T.n,.string T.name,.slice ra2 T.r.length rc2,.slice ka2 T.kids.length kc2,.slice sa2 T.sys.length sc2]] V fun e w'=>∃ v',e=.returned (.tuple #[v',.int .i64 (eT (putOp i r) T 0)])/\TmIn (OkN V.heap.size w') w' (ansD (putOp i r) T) v'/\Below V.heap.size V w'):=fun V fV cV q h1 h2=>dterm_any T _ V (HTm.out V q) h1 h2 (by have:=(cap_ge T).1;have:=HP.out.2;omega)
   have HSt:Hid (_=_):=pall_step (r:=r) (t:=t) hi
   obtain⟨er,her⟩:∃ e,e=eT (putOp i r) T 0:=⟨_,rfl⟩
   obtain⟨T2,hT2⟩:∃ T2,T2=ansD (putOp i r) T:=⟨_,rfl⟩
   rw [<- her,<- hT2] at cT
   have HNx:Hid (er=0->pall r (ds.take (k+1)) t=(T2,0)/\capT T2<=40000):=fun h=>⟨by rw [HSt.out,HP.out.1];unfold pallS;rw [if_pos rfl,<- her,if_pos h,hT2],by rw [hT2];exact Nat.le_trans (cap_ans (putOp_len _ _) _) HP.out.2⟩
   have HBd:Hid (er≠0->pall r ds t=(noT,er)):=fun h=>by
    have e1:pall r (ds.take (k+1)) t=(noT,er):=by rw [HSt.out,HP.out.1];unfold pallS;rw [if_pos rfl,<- her,if_neg h]
    rw [pall_stuck (k+1) (by rw [e1];exact h),e1]
   clear her hT2 HSt hTm HTm hgc hi
   go_upto_region 5 with fail
   clear cg
   refine wp_region_held_drew (S:=fun V=>Kn (fun q=>q≠X) w2 V) (by kernel_rfl) hK.drew (fun hS=>?_)
   obtain⟨wd,hwd⟩:∃ V,V=wq.drew:=⟨_,rfl⟩
   have hbd:Below wq.heap.size wq wd:=by rw [hwd];exact (Below.refl _ _).drew
   rw [<- hwd] at hS ⊢
   clear hwd
   refine zk 0 (.int .i64 (i:Int)) rfl (by rfl) (fun w hS=>by go_simp) hS ?_
   try simp only [Act.put,zg1,zg2,zg3,zs1,zs2,zs3]
   refine zk 1 (.slice va LR vc) rfl (by rfl) (fun w hS=>by go_simp) hS ?_
   try simp only [Act.put,zg1,zg2,zg3,zs1,zs2,zs3]
   refine wpAnyH_ready (rs:=[2,3]) (by kernel_rfl) (by simp) ?_
   refine ready_cons rfl (fun KK hKK=>?_) (ready_cons rfl (fun KK hKK=>?_) AllReadyH.nil)
   ·skip
    refine⟨?_⟩
    have cc:=cP.out wd hbd
    go_simp
    refine cc.mono ?_
    rintro e w3 ⟨fV,cV,rfl,hF,hC,hbq⟩
    have hbd:Below wq.heap.size wq w3:=hbd.trans (hbq.mono hbd.size)
    clear cc hbq
    refine hKK.out _ _ (hK.trans (Kn.of_below hbd)) (fun hS=>?_)
    clear hKK KK
    try simp only [Act.put,zg1,zg2,zg3,zs1,zs2,zs3]
    refine zr 3 rfl (fun KK hKK=>?_)
    refine⟨?_⟩
    obtain⟨y0,y1,y2,y3,y4,y5,_⟩:=(hO.blw hbd).cells
    go_simp
    clear y0 y1 y2 y3 y4 y5
    refine hKK.out _ _ hS (fun hS=>?_)
    clear hKK KK
    try simp only [Act.put,zg1,zg2,zg3,zs1,zs2,zs3]
    refine zr 4 rfl (fun KK hKK=>?_)
    refine⟨?_⟩
    have cc:=cT.out w3 fV cV hbd hF hC
    go_simp
    refine cc.mono ?_
    rintro e w4 ⟨v3,rfl,hv3,hb3⟩
    obtain⟨ra2b,rc2b,ka2b,kc2b,sa2b,sc2b,rfl,ht2⟩:=hv3.form
    have htv:=ht2.value
    have hn3:=hbd.size
    have hbd:Below wq.heap.size wq w4:=hbd.trans (hb3.mono hbd.size)
    clear cc ht2 hv3
    refine hKK.out _ _ (hK.trans (Kn.of_below hbd)) (fun hS=>?_)
    clear hKK KK
    try simp only [Act.put,zg1,zg2,zg3,zs1,zs2,zs3]
    refine zk 5 (.tuple #[.agg #[.int .i64 T2.kind,.int .i64 T2.n,.string T2.name,.slice ra2b T2.r.length rc2b,.slice ka2b T2.kids.length kc2b,.slice sa2b T2.sys.length sc2b],.int .i64 er]) rfl (by rfl) (fun w hS=>by go_simp) hS ?_
    try simp only [Act.put,zg1,zg2,zg3,zs1,zs2,zs3]
    refine zk 6 (.agg #[.int .i64 T2.kind,.int .i64 T2.n,.string T2.name,.slice ra2b T2.r.length rc2b,.slice ka2b T2.kids.length kc2b,.slice sa2b T2.sys.length sc2b]) rfl (by rfl) (fun w hS=>by go_simp) hS ?_
    try simp only [Act.put,zg1,zg2,zg3,zs1,zs2,zs3]
    refine zk 7 (.int .i64 er) rfl (by rfl) (fun w hS=>by go_simp) hS ?_
    try simp only [Act.put,zg1,zg2,zg3,zs1,zs2,zs3]
    have zz:=hO.blw hbd
    have zz2:=zz.set6 (.int .i64 T2.kind) (.int .i64 T2.n) (.string T2.name) (.slice ra2b T2.r.length rc2b) (.slice ka2b T2.kids.length kc2b) (.slice sa2b T2.sys.length sc2b)
    obtain⟨o0,o1,o2,o3,o4,o5,ff⟩:=zz.cells
    have f0:=ff 0
    have f1:=ff 1
    have f2:=ff 2
    have f3:=ff 3
    have f4:=ff 4
    have f5:=ff 5
    obtain⟨w5,hwz⟩:∃ W,W=(((((w4.setCell ⟨X,0,none⟩ (.int .i64 T2.kind)).setCell ⟨X,1,none⟩ (.int .i64 T2.n)).setCell ⟨X,2,none⟩ (.string T2.name)).setCell ⟨X,3,none⟩ (.slice ra2b T2.r.length rc2b)).setCell ⟨X,4,none⟩ (.slice ka2b T2.kids.length kc2b)).setCell ⟨X,5,none⟩ (.slice sa2b T2.sys.length sc2b):=⟨_,rfl⟩
    rw [<- hwz] at zz2
    have kz:Kn (fun q=>q≠X) w4 w5:=by rw [hwz];exact kn_set6 _ _ _ _ _ _ _ _
    have HTm:Hid (∀ V,Kn (fun q=>(P q\/X<=q)/\q≠X/\q≠X+1) w5 V->TmIn Tt V T2 (.agg #[.int .i64 T2.kind,.int .i64 T2.n,.string T2.name,.slice ra2b T2.r.length rc2b,.slice ka2b T2.kids.length kc2b,.slice sa2b T2.sys.length sc2b])):=fun V qV=>htv.keep (Nat.le_trans kz.size qV.size) (fun _ _=>trivial) (fun q hq hs=>(qV.block q ⟨.inr (by have:=hq.1;omega),by have:=hq.1;omega,by have:=hq.1;omega⟩ (by have:=kz.size;omega)).trans (kz.block q (by have:=hq.1;omega) hs))
    have hS5:Kn (fun q=>q≠X) w2 w5:=(hK.trans (Kn.of_below hbd)).trans kz
    have Hwz:Hid (_=_):=hwz
    clear hwz ff zz kz htv
    refine zr 8 rfl (fun KK hKK=>?_)
    refine⟨?_⟩
    go_simp
    rw [<- Hwz.out]
    refine hKK.out _ _ hS5 (fun hS=>?_)
    clear hKK KK
    try simp only [Act.put,zg1,zg2,zg3,zs1,zs2,zs3]
    refine zk 9 (.int .i64 er) rfl (by rfl) (fun w hS=>by go_simp) hS ?_
    try simp only [Act.put,zg1,zg2,zg3,zs1,zs2,zs3]
    refine wpAnyH_done (by kernel_rfl) ?_ _
    clear cP cT
    by_cases hz:er=0
    ·subst hz
     go_wp2_with fail
     go_roundw
     case rel=>exact⟨k+1,T2,_,_,_,_,_,_,Nat.succ_le_of_lt hlt,by go_num,zz2,HTm.out,hS5,HNx.out rfl⟩
     case measure=>simp [intOf];omega
    ·have hz1:(er == 0)=false:=by simpa using hz
     have Hf:Hid (pall r ds t=(noT,er)):=HBd.out hz
     clear HBd HNx o0 o1 o2 o3 o4 o5 f0 f1 f2 f3 f4 f5 zz2
     have zz:=HZk.out w5 hS5
     obtain⟨wz,hwz,zz2,kz,o0,o1,o2,o3,o4,o5,f0,f1,f2,f3,f4,f5⟩:=zst zz (.int .i64 0) (.int .i64 0) (.string ⟨#[]⟩) (.slice none 0 0) (.slice none 0 0) (.slice none 0 0)
     obtain⟨h0,h1,h2,h3,h4,h5,_⟩:=zz2.cells
     have bz:Below X w wz:=(HBk.out w5 hS5).trans (kz.below (fun q hq=>by omega) (by have:=(HBk.out w5 hS5).size;have:=HXs.out;omega))
     have Hwz:Hid (_=_):=hwz
     clear hwz zz zz2 kz
     go_wp2_with fail
     rw [<- Hwz.out]
     exact bodyPost_ret (v:=.tuple #[.agg #[.int .i64 0,.int .i64 0,.string ⟨#[]⟩,.slice none 0 0,.slice none 0 0,.slice none 0 0],.int .i64 (er)]) (by simp only [results,Tryz.results97];simp [go_sem,h0,h1,h2,h3,h4,h5]) rfl ⟨_,by rw [Hf.out],fun V _=>by rw [Hf.out];exact noT_in _ _,bz⟩
   ·skip
    refine⟨?_⟩
    obtain⟨y0,y1,y2,y3,y4,y5,_⟩:=(hO.blw hbd).cells
    go_simp
    clear y0 y1 y2 y3 y4 y5
    refine hKK.out _ _ hS (fun hS=>?_)
    clear hKK KK
    try simp only [Act.put,zg1,zg2,zg3,zs1,zs2,zs3]
    refine zr 2 rfl (fun KK hKK=>?_)
    refine⟨?_⟩
    have cc:=cP.out wd hbd
    go_simp
    refine cc.mono ?_
    rintro e w3 ⟨fV,cV,rfl,hF,hC,hbq⟩
    have hbd:Below wq.heap.size wq w3:=hbd.trans (hbq.mono hbd.size)
    clear cc hbq
    refine hKK.out _ _ (hK.trans (Kn.of_below hbd)) (fun hS=>?_)
    clear hKK KK
    try simp only [Act.put,zg1,zg2,zg3,zs1,zs2,zs3]
    refine zr 4 rfl (fun KK hKK=>?_)
    refine⟨?_⟩
    have cc:=cT.out w3 fV cV hbd hF hC
    go_simp
    refine cc.mono ?_
    rintro e w4 ⟨v3,rfl,hv3,hb3⟩
    obtain⟨ra2b,rc2b,ka2b,kc2b,sa2b,sc2b,rfl,ht2⟩:=hv3.form
    have htv:=ht2.value
    have hn3:=hbd.size
    have hbd:Below wq.heap.size wq w4:=hbd.trans (hb3.mono hbd.size)
    clear cc ht2 hv3
    refine hKK.out _ _ (hK.trans (Kn.of_below hbd)) (fun hS=>?_)
    clear hKK KK
    try simp only [Act.put,zg1,zg2,zg3,zs1,zs2,zs3]
    refine zk 5 (.tuple #[.agg #[.int .i64 T2.kind,.int .i64 T2.n,.string T2.name,.slice ra2b T2.r.length rc2b,.slice ka2b T2.kids.length kc2b,.slice sa2b T2.sys.length sc2b],.int .i64 er]) rfl (by rfl) (fun w hS=>by go_simp) hS ?_
    try simp only [Act.put,zg1,zg2,zg3,zs1,zs2,zs3]
    refine zk 6 (.agg #[.int .i64 T2.kind,.int .i64 T2.n,.string T2.name,.slice ra2b T2.r.length rc2b,.slice ka2b T2.kids.length kc2b,.slice sa2b T2.sys.length sc2b]) rfl (by rfl) (fun w hS=>by go_simp) hS ?_
    try simp only [Act.put,zg1,zg2,zg3,zs1,zs2,zs3]
    refine zk 7 (.int .i64 er) rfl (by rfl) (fun w hS=>by go_simp) hS ?_
    try simp only [Act.put,zg1,zg2,zg3,zs1,zs2,zs3]
    have zz:=hO.blw hbd
    have zz2:=zz.set6 (.int .i64 T2.kind) (.int .i64 T2.n) (.string T2.name) (.slice ra2b T2.r.length rc2b) (.slice ka2b T2.kids.length kc2b) (.slice sa2b T2.sys.length sc2b)
    obtain⟨o0,o1,o2,o3,o4,o5,ff⟩:=zz.cells
    have f0:=ff 0
    have f1:=ff 1
    have f2:=ff 2
    have f3:=ff 3
    have f4:=ff 4
    have f5:=ff 5
    obtain⟨w5,hwz⟩:∃ W,W=(((((w4.setCell ⟨X,0,none⟩ (.int .i64 T2.kind)).setCell ⟨X,1,none⟩ (.int .i64 T2.n)).setCell ⟨X,2,none⟩ (.string T2.name)).setCell ⟨X,3,none⟩ (.slice ra2b T2.r.length rc2b)).setCell ⟨X,4,none⟩ (.slice ka2b T2.kids.length kc2b)).setCell ⟨X,5,none⟩ (.slice sa2b T2.sys.length sc2b):=⟨_,rfl⟩
    rw [<- hwz] at zz2
    have kz:Kn (fun q=>q≠X) w4 w5:=by rw [hwz];exact kn_set6 _ _ _ _ _ _ _ _
    have HTm:Hid (∀ V,Kn (fun q=>(P q\/X<=q)/\q≠X/\q≠X+1) w5 V->TmIn Tt V T2 (.agg #[.int .i64 T2.kind,.int .i64 T2.n,.string T2.name,.slice ra2b T2.r.length rc2b,.slice ka2b T2.kids.length kc2b,.slice sa2b T2.sys.length sc2b])):=fun V qV=>htv.keep (Nat.le_trans kz.size qV.size) (fun _ _=>trivial) (fun q hq hs=>(qV.block q ⟨.inr (by have:=hq.1;omega),by have:=hq.1;omega,by have:=hq.1;omega⟩ (by have:=kz.size;omega)).trans (kz.block q (by have:=hq.1;omega) hs))
    have hS5:Kn (fun q=>q≠X) w2 w5:=(hK.trans (Kn.of_below hbd)).trans kz
    have Hwz:Hid (_=_):=hwz
    clear hwz ff zz kz htv
    refine zr 8 rfl (fun KK hKK=>?_)
    refine⟨?_⟩
    go_simp
    rw [<- Hwz.out]
    refine hKK.out _ _ hS5 (fun hS=>?_)
    clear hKK KK
    try simp only [Act.put,zg1,zg2,zg3,zs1,zs2,zs3]
    refine zk 9 (.int .i64 er) rfl (by rfl) (fun w hS=>by go_simp) hS ?_
    try simp only [Act.put,zg1,zg2,zg3,zs1,zs2,zs3]
    refine wpAnyH_done (by kernel_rfl) ?_ _
    clear cP cT
    by_cases hz:er=0
    ·subst hz
     go_wp2_with fail
     go_roundw
     case rel=>exact⟨k+1,T2,_,_,_,_,_,_,Nat.succ_le_of_lt hlt,by go_num,zz2,HTm.out,hS5,HNx.out rfl⟩
     case measure=>simp [intOf];omega
    ·have hz1:(er == 0)=false:=by simpa using hz
     have Hf:Hid (pall r ds t=(noT,er)):=HBd.out hz
     clear HBd HNx o0 o1 o2 o3 o4 o5 f0 f1 f2 f3 f4 f5 zz2
     have zz:=HZk.out w5 hS5
     obtain⟨wz,hwz,zz2,kz,o0,o1,o2,o3,o4,o5,f0,f1,f2,f3,f4,f5⟩:=zst zz (.int .i64 0) (.int .i64 0) (.string ⟨#[]⟩) (.slice none 0 0) (.slice none 0 0) (.slice none 0 0)
     obtain⟨h0,h1,h2,h3,h4,h5,_⟩:=zz2.cells
     have bz:Below X w wz:=(HBk.out w5 hS5).trans (kz.below (fun q hq=>by omega) (by have:=(HBk.out w5 hS5).size;have:=HXs.out;omega))
     have Hwz:Hid (_=_):=hwz
     clear hwz zz zz2 kz
     go_wp2_with fail
     rw [<- Hwz.out]
     exact bodyPost_ret (v:=.tuple #[.agg #[.int .i64 0,.int .i64 0,.string ⟨#[]⟩,.slice none 0 0,.slice none 0 0,.slice none 0 0],.int .i64 (er)]) (by simp only [results,Tryz.results97];simp [go_sem,h0,h1,h2,h3,h4,h5]) rfl ⟨_,by rw [Hf.out],fun V _=>by rw [Hf.out];exact noT_in _ _,bz⟩
  ·have hkI:¬ (k:Int) < (L:Int):=by omega
   obtain rfl:k=L:=by omega
   have Hf:Hid (pall r ds t=(T,0)):=(by have:=HP.out.1;rwa [List.take_of_length_le (by rw [<- HL.out];exact Nat.le_refl _)] at this:_=_)
   have zz:=HZk.out wq hK
   obtain⟨wz,hwz,zz2,kz,o0,o1,o2,o3,o4,o5,f0,f1,f2,f3,f4,f5⟩:=zst zz (.int .i64 T.kind) (.int .i64 T.n) (.string T.name) (.slice ra2 T.r.length rc2) (.slice ka2 T.kids.length kc2) (.slice sa2 T.sys.length sc2)
   obtain⟨h0,h1,h2,h3,h4,h5,_⟩:=zz2.cells
   obtain⟨y0,y1,y2,y3,y4,y5,_⟩:=hO.cells
   have bz:Below X w wz:=(HBk.out wq hK).trans (kz.below (fun q hq=>by omega) (by have:=(HBk.out wq hK).size;have:=HXs.out;omega))
   have HTz:Hid (∀ V,Kn (fun q=>P q\/X<=q) wz V->TmIn Tt V T (.agg #[.int .i64 T.kind,.int .i64 T.n,.string T.name,.slice ra2 T.r.length rc2,.slice ka2 T.kids.length kc2,.slice sa2 T.sys.length sc2])):=fun V q=>hTm V ⟨q.os.trans kz.os,q.tape.trans kz.tape,q.output.trans kz.output,Nat.le_trans kz.size q.size,fun k hk hs=>(q.block k hk.1 (Nat.lt_of_lt_of_le hs kz.size)).trans (kz.block k hk.2.2 hs)⟩
   have Hwz:Hid (_=_):=hwz
   clear hwz zz zz2 kz
   go_wp2_with fail
   rw [<- Hwz.out]
   exact bodyPost_ret (v:=.tuple #[.agg #[.int .i64 T.kind,.int .i64 T.n,.string T.name,.slice ra2 T.r.length rc2,.slice ka2 T.kids.length kc2,.slice sa2 T.sys.length sc2],.int .i64 0]) (by simp only [results,Tryz.results97];simp [go_sem,h0,h1,h2,h3,h4,h5]) rfl ⟨_,by rw [Hf.out],by rw [Hf.out];exact HTz.out,bz⟩
end Go.Proofs.YtblbhmnahoiecaaGreat
