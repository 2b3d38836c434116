/- Lifts: what is kept of a term. -/
import Derived.Test.YtmblbmdchinflaaGreatEG5
import Derived.Laws.EntriesVeiled
import Derived.Laws.MakeOwn
import Derived.Deep.Cut
import Derived.Test.YtmblbmdchinflaaGreatEG8
import Derived.Deep.RegionHeld
import Derived.Deep.DeepCutAuto
import Derived.Test.YtmblbmdchinflaaGreatEG12
set_option linter.unusedVariables false
set_option linter.unusedSimpArgs false
set_option maxRecDepth 100000
set_option maxHeartbeats 4000000
namespace Go.Proofs.YtmblbmdchinflaaGreat
open Go.RowKit
theorem mem_liK {s:Sf} {k:Int} {l:List Tm} {bv bd:Nat} {y:Tm} (h:y∈liK s k l bv bd):∃ i x,l[i]? = some x∧y=liT s x (bv+bvK k i) (bd+bdK k i):=by
 unfold liK at h
 obtain⟨p,hp,rfl⟩:=List.mem_map.1 h
 exact⟨p.2,p.1,List.mem_zipIdx_iff_getElem?.1 hp,rfl⟩
theorem rowP_nil1 (s:Sf) (bd:Nat):(rowP s bd []).1=[]:=by
 unfold rowP
 split
 ·rfl
 ·have e1:rightF []=true:=by decide
  have e2:leastF []=([],0):=by decide
  simp [liftFF,liftS,e1,e2]
theorem fm_li {s:Sf} (hs:0≤s.vb):∀ (n:Nat) (t:Tm) (bv bd:Nat),blk t≤n→Fm t→Fm (liT s t bv bd)
 | 0,t,bv,bd,hn,h=>by have:=blk_pos t;omega
 | n+1,t,bv,bd,hn,h=>by
  obtain⟨h0,h1,h2,h3⟩:=(fm_eq t).1 h
  rw [li_eq,fm_eq]
  refine⟨?_,fun hk=>?_,fun y hy=>?_,fun b hb y hy=>?_⟩
  ·show 0≤numV s bv t.kind t.n
   unfold numV;split <;> omega
  ·show (rowP s bd t.r).1=[]
   rw [h1 hk];exact rowP_nil1 s bd
  ·obtain⟨i,x,hx,rfl⟩:=mem_liK hy
   have hm:=List.mem_of_getElem? hx
   exact fm_li hs n x _ _ (by have:=blk_kid hm;omega) (h2 x hm)
  ·obtain⟨c,hc,rfl⟩:=List.mem_map.1 hb
   obtain⟨x,hx,rfl⟩:=List.mem_map.1 hy
   exact fm_li hs n x _ _ (by have:=blk_sub hc hx;omega) (h3 c hc x hx)
theorem keepAll_len (l:List C):(lstN l).length≤l.length:=by
 have h1:∀ (c:C) (l:List C),(insC c l).length≤l.length+1:=by
  intro c l
  induction l with
  | nil=>simp [insC]
  | cons d l ih =>
   unfold insC
   split
   ·simp
   ·split
    ·simp
    ·simp;omega
 have h2:∀ l:List C,(ordC l).length≤l.length:=by
  intro l
  induction l with
  | nil=>simp [ordC]
  | cons c l ih=>have:=h1 c (ordC l);show (insC c (ordC l)).length≤_;simp;omega
 have h3:∀ l:List C,(keepAll l).length≤l.length:=fun l=>by
  have:∀ (l a:List C),(l.foldl keep a).length≤a.length+l.length:=by
   intro l
   induction l with
   | nil=>intro a;simp
   | cons c l ih =>
    intro a
    have h1:=ih (keep a c)
    have h2:(keep a c).length≤a.length+1:=by unfold keep;split <;> simp
    show ((l.foldl keep (keep a c))).length≤_
    simp only [List.length_cons]
    omega
  have:=this l []
  unfold keepAll
  simpa using this
 exact Nat.le_trans (h3 _) (h2 l)
theorem leastF_le (l:List C):(leastF l).1.length≤l.length:=by
 unfold leastF
 split
 ·split
  ·exact keepAll_len l
  ·simp
 ·simp
theorem rowP_len (s:Sf) (bd:Nat) (r:List C):(rowP s bd r).1.length≤r.length:=by
 unfold rowP
 split
 ·exact Nat.le_refl _
 ·unfold liftFF
  split
  ·split
   ·exact Nat.le_trans (leastF_le _) (liftS_len r _ _)
   ·simp
  ·simp
theorem rowP_zero {s:Sf} (h:s.db=0) (bd:Nat) (r:List C):rowP s bd r=(r,0):=by unfold rowP;rw [if_pos h]
theorem sum_zip {f:Tm→Nat}:∀ (l:List Tm) (g:Tm × Nat→Tm) (i:Nat),(∀ p∈l.zipIdx i,f (g p)≤f p.1)→((l.zipIdx i).map fun p=>f (g p)).sum≤(l.map f).sum
 | [],g,i,h=>by simp
 | x :: l,g,i,h=>by
  have h1:=h (x,i) (by simp)
  have h2:=sum_zip l g (i+1) (fun p hp=>h p (by simp [hp]))
  simp only [List.zipIdx_cons,List.map_cons,List.sum_cons]
  have h1:f (g (x,i))≤f x:=h1
  omega
theorem blk_li {s:Sf}:∀ (n:Nat) (t:Tm) (bv bd:Nat),blk t≤n→blk (liT s t bv bd)≤blk t
 | 0,t,bv,bd,hn=>by have:=blk_pos t;omega
 | n+1,t,bv,bd,hn=>by
  have e:=blk_eq (liT s t bv bd)
  rw [li_eq] at e
  rw [li_eq,e,blk_eq t]
  have h1:=rowP_len s bd t.r
  have h2:blkL (liK s t.kind t.kids bv bd)≤blkL t.kids:=by
   unfold blkL liK
   rw [List.map_map]
   refine sum_zip t.kids (fun p=>liT s p.1 (bv+bvK t.kind p.2) (bd+bdK t.kind p.2)) 0 (fun p hp=>?_)
   have hm:=List.mem_of_getElem? (List.mem_zipIdx_iff_getElem?.1 hp)
   exact blk_li n p.1 _ _ (by have:=blk_kid hm;omega)
  have h3:blkS (t.sys.map fun b=>liB s t.kind b bv bd)≤blkS t.sys:=by
   unfold blkS
   rw [List.map_map]
   refine sumN_le fun b hb=>?_
   have h4:=rowP_len s bd b.1
   have h5:blkL (b.2.map fun x=>liT s x bv (bd+moreK t.kind))≤blkL b.2:=by
    unfold blkL
    rw [List.map_map]
    exact sumN_le fun x hx=>blk_li n x _ _ (by have:=blk_sub hb hx;omega)
   show 1+(rowP s bd b.1).1.length+blkL (b.2.map fun x=>liT s x bv (bd+moreK t.kind))≤_
   omega
  dsimp only at *
  omega
def atT (v:Value) (k:Nat) (p:Addr):Prop:=∃ g off n c,v=.slice (some ⟨g,off,none⟩) n c∧p=⟨g,off+k*6,none⟩
def atB (v:Value) (k:Nat) (p:Addr):Prop:=∃ g off n c,v=.slice (some ⟨g,off,none⟩) n c∧p=⟨g,off+k*2,none⟩
theorem lbecT_any (fid:FuncId) (caps:Array Value) (eg:∀ args w,(callFunc fid args).run Tryz.prog w=.ok (.enter fid args) w) (l res:List Tm) (ers:List Int) (hres:res.length=l.length) (hers:ers.length=l.length) (v:Value) (w:World) (hl:KdT Tt w (TmIn Tt w) l v) (hb:l.length≤100000)
  (hF:∀ (k:Nat) (x y:Tm) (e0:Int) (p:Addr) (W:World),l[k]? = some x→res[k]? = some y→ers[k]? = some e0→atT v k p→Below w.heap.size w W→Calls Tryz.prog fid (#[.int .i64 (k:Int),.pointer (some p)] ++ caps) W fun e w'=>LOut e0 (TmIn (OkN W.heap.size w') w' y) e∧Below W.heap.size W w') :
  Calls Tryz.prog 156 #[v,.func (.func fid) #[] caps] w fun e w'=>LOut (firstE ers) (fun v'=>KdT (OkN w.heap.size w') w' (TmIn (OkN w.heap.size w') w') res v') e∧Below w.heap.size w w':=by
 obtain⟨a,cap,rfl,_⟩:=id hl
 by_cases hz:l=[]
 ·subst hz
  obtain rfl:res=[]:=List.length_eq_zero_iff.1 hres
  obtain rfl:ers=[]:=List.length_eq_zero_iff.1 hers
  go_enter Tryz.func156,Tryz.ntmps156
  go_wp2
  go_ret
  exact⟨.ok firstE_nil (kt_nil _ _ _),Below.refl _ _⟩
 ·have hpos:0<l.length:=List.length_pos_iff.2 hz
  obtain⟨L,hL⟩:∃ L,L=l.length:=⟨_,rfl⟩
  have HL:Hid (L=l.length∧res.length=L∧ers.length=L):=⟨hL,by omega,by omega⟩
  have Hl:Hid (KdT Tt w (TmIn Tt w) l (.slice a L cap)):=by rw [hL];exact hl
  have HF:Hid (∀ (k:Nat) (x y:Tm) (e0:Int) (p:Addr) (W:World),l[k]? = some x→res[k]? = some y→ers[k]? = some e0→atT (.slice a L cap) k p→Below w.heap.size w W→Calls Tryz.prog fid (#[.int .i64 (k:Int),.pointer (some p)] ++ caps) W fun e w'=>LOut e0 (TmIn (OkN W.heap.size w') w' y) e∧Below W.heap.size W w'):=by rw [hL];exact hF
  rw [← hL] at hpos hb ⊢
  have q0:((L:Int) == 0)=false:=by simp;omega
  obtain⟨W,hmk,hBlk,hbW,sW⟩:=makeT L w (by omega)
  clear hL hl hz hF hres hers
  go_enter Tryz.func156,Tryz.ntmps156
  go_wp2
  go_loopw [15] (fun i wr=>∃ k:Nat,k≤L∧i=.int .i64 k∧PutT wr w.heap.size res k∧BlkC wr w.heap.size 26 (L*6)∧Below w.heap.size w wr∧Hid (firstE (ers.take k)=0)) (fun i _=>L - (intOf i).toNat)
  case atStart=>exact⟨0,Nat.zero_le _,rfl,fun j x hj=>by omega,hBlk,hbW,firstE_nil⟩
  case round =>
   obtain⟨wo,hwo⟩:∃ wo,wo=wr:=⟨_,rfl⟩
   subst hwo
   obtain⟨k,hk,rfl,hP,hBk,hB,HZ⟩:=hrel
   by_cases hlt:k<L
   ·have hkI:(k:Int) < (L:Int):=by omega
    obtain⟨x,hx⟩:=someL (l:=l) (k:=k) (by rw [← HL.out.1];exact hlt)
    obtain⟨y,hy⟩:=someL (l:=res) (k:=k) (by rw [HL.out.2.1];exact hlt)
    obtain⟨e0,he⟩:=someL (l:=ers) (k:=k) (by rw [HL.out.2.2];exact hlt)
    obtain⟨g1,o1,ra,rc,ka,kc,sa,sc,rfl,_,h6,ht⟩:=(Hl.out.blw hB).at hx
    have cc:=HF.out k x y e0 ⟨g1,o1+k*6,none⟩ wo hx hy he ⟨g1,o1,L,cap,rfl,rfl⟩ hB
    have HS:Hid (_=_):=firstE_step he
    have HT:Hid (firstE (ers.take (k+1))≠0→firstE ers=firstE (ers.take (k+1))):=fun h=>firstE_stuck h
    have HY:Hid (_=_):=hy
    have hGlt:=hBk.lt
    clear h6 ht hx hy he
    go_wp2_with fail
    refine cc.mono ?_
    rintro e w2 ⟨⟨h0,v2,rfl,hv2⟩ | ⟨hne,rfl⟩,hb2⟩
    ·clear cc
     obtain⟨ra2,rc2,ka2,kc2,sa2,sc2,rfl,ht2⟩:=hv2.form
     have hBk2:=hBk.kn (No:=fun _=>True) (Kn.of_below hb2) trivial
     have hP2:=hP.kn hb2 hBk.lt
     have hB2:=bchain hB hb2
     obtain⟨o0,e0⟩:=hBk2.cell (k*6) (by omega)
     obtain⟨o1,e1⟩:=hBk2.cell (k*6+1) (by omega)
     obtain⟨o2,e2⟩:=hBk2.cell (k*6+2) (by omega)
     obtain⟨o3,e3⟩:=hBk2.cell (k*6+3) (by omega)
     obtain⟨o4,e4⟩:=hBk2.cell (k*6+4) (by omega)
     obtain⟨o5,e5⟩:=hBk2.cell (k*6+5) (by omega)
     have f0:=hBk2.soft (k*6)
     have f1:=hBk2.soft (k*6+1)
     have f2:=hBk2.soft (k*6+2)
     have f3:=hBk2.soft (k*6+3)
     have f4:=hBk2.soft (k*6+4)
     have f5:=hBk2.soft (k*6+5)
     have hfin:=hP2.put hBk2 HY.out (by omega) _ _ _ _ _ _ (ht2.value.up fun q hq=>hq.mono (by omega))
     unfold set6 at hfin
     have HFn:Hid (_∧_∧_):=hfin
     have HZ':Hid (firstE (ers.take (k+1))=0):=(by rw [HS.out,if_pos HZ.out];exact h0:firstE (ers.take (k+1))=0)
     clear hfin h0
     go_wp2_with fail
     obtain⟨q1,q2,q3⟩:=HFn.out
     go_roundw
     case rel=>exact⟨k+1,by omega,by go_num,q1,q2,hB2.trans (q3.below (fun q hq=>by omega) hB2.size),HZ'⟩
     case measure=>simp [intOf];omega
    ·clear cc
     have hE:firstE (ers.take (k+1))=e0:=by rw [HS.out,if_pos HZ.out]
     have hE2:=HT.out (by rw [hE];exact hne)
     rw [hE] at hE2
     exact⟨rfl,.inr ⟨by rw [hE2];exact hne,by rw [hE2]⟩,bchain hB hb2⟩
   ·have hkI:¬ (k:Int) < (L:Int):=by omega
    obtain rfl:k=L:=by omega
    have hr:=PutT.row (base:=w.heap.size) (l:=res) (G:=w.heap.size) (by rw [HL.out.2.1];exact hP) (by rw [HL.out.2.1];exact hBk) (Nat.le_refl _)
    rw [HL.out.2.1] at hr
    have HZ2:Hid (firstE ers=0):=(by have:=HZ.out;rwa [List.take_of_length_le (by rw [HL.out.2.2];exact Nat.le_refl _)] at this:firstE ers=0)
    clear hP hBk HZ
    go_wp2_with fail
    go_ret
    exact⟨.ok HZ2.out hr,hB⟩
def BrIn (base:Nat) (w:World) (b:List C × List Tm) (v:Value):Prop:=∃ fa fc ka kc,v=.agg #[.slice fa b.1.length fc,.slice ka b.2.length kc]∧ClRow (OkN base w) w b.1 (.slice fa b.1.length fc)∧KdT (OkN base w) w (TmIn (OkN base w) w) b.2 (.slice ka b.2.length kc)
theorem lbecB_any (fid:FuncId) (caps:Array Value) (eg:∀ args w,(callFunc fid args).run Tryz.prog w=.ok (.enter fid args) w) (l res:List (List C × List Tm)) (ers:List Int) (hres:res.length=l.length) (hers:ers.length=l.length) (v:Value) (w:World) (hl:SyT Tt w (TmIn Tt w) l v) (hb:l.length≤100000)
  (hF:∀ (k:Nat) (x y:List C × List Tm) (e0:Int) (p:Addr) (W:World),l[k]? = some x→res[k]? = some y→ers[k]? = some e0→atB v k p→Below w.heap.size w W→Calls Tryz.prog fid (#[.int .i64 (k:Int),.pointer (some p)] ++ caps) W fun e w'=>LOut e0 (BrIn W.heap.size w' y) e∧Below W.heap.size W w') :
  Calls Tryz.prog 158 #[v,.func (.func fid) #[] caps] w fun e w'=>LOut (firstE ers) (fun v'=>SyT (OkN w.heap.size w') w' (TmIn (OkN w.heap.size w') w') res v') e∧Below w.heap.size w w':=by
 obtain⟨a,cap,rfl,_⟩:=id hl
 by_cases hz:l=[]
 ·subst hz
  obtain rfl:res=[]:=List.length_eq_zero_iff.1 hres
  obtain rfl:ers=[]:=List.length_eq_zero_iff.1 hers
  go_enter Tryz.func158,Tryz.ntmps158
  go_wp2
  go_ret
  exact⟨.ok firstE_nil (sy_nil _ _ _),Below.refl _ _⟩
 ·have hpos:0<l.length:=List.length_pos_iff.2 hz
  obtain⟨L,hL⟩:∃ L,L=l.length:=⟨_,rfl⟩
  have HL:Hid (L=l.length∧res.length=L∧ers.length=L):=⟨hL,by omega,by omega⟩
  have Hl:Hid (SyT Tt w (TmIn Tt w) l (.slice a L cap)):=by rw [hL];exact hl
  have HF:Hid (∀ (k:Nat) (x y:List C × List Tm) (e0:Int) (p:Addr) (W:World),l[k]? = some x→res[k]? = some y→ers[k]? = some e0→atB (.slice a L cap) k p→Below w.heap.size w W→Calls Tryz.prog fid (#[.int .i64 (k:Int),.pointer (some p)] ++ caps) W fun e w'=>LOut e0 (BrIn W.heap.size w' y) e∧Below W.heap.size W w'):=by rw [hL];exact hF
  rw [← hL] at hpos hb ⊢
  have q0:((L:Int) == 0)=false:=by simp;omega
  obtain⟨W,hmk,hBlk,hbW,sW⟩:=makeB L w (by omega)
  clear hL hl hz hF hres hers
  go_enter Tryz.func158,Tryz.ntmps158
  go_wp2
  go_loopw [15] (fun i wr=>∃ k:Nat,k≤L∧i=.int .i64 k∧PutB wr w.heap.size res k∧BlkC wr w.heap.size 50 (L*2)∧Below w.heap.size w wr∧Hid (firstE (ers.take k)=0)) (fun i _=>L - (intOf i).toNat)
  case atStart=>exact⟨0,Nat.zero_le _,rfl,fun j x hj=>by omega,hBlk,hbW,firstE_nil⟩
  case round =>
   obtain⟨wo,hwo⟩:∃ wo,wo=wr:=⟨_,rfl⟩
   subst hwo
   obtain⟨k,hk,rfl,hP,hBk,hB,HZ⟩:=hrel
   by_cases hlt:k<L
   ·have hkI:(k:Int) < (L:Int):=by omega
    obtain⟨x,hx⟩:=someL (l:=l) (k:=k) (by rw [← HL.out.1];exact hlt)
    obtain⟨y,hy⟩:=someL (l:=res) (k:=k) (by rw [HL.out.2.1];exact hlt)
    obtain⟨e0,he⟩:=someL (l:=ers) (k:=k) (by rw [HL.out.2.2];exact hlt)
    obtain⟨g1,o1,fa,fc,ka,kc,rfl,_,h6,hcl,ht⟩:=(Hl.out.blw hB).at hx
    have cc:=HF.out k x y e0 ⟨g1,o1+k*2,none⟩ wo hx hy he ⟨g1,o1,L,cap,rfl,rfl⟩ hB
    have HS:Hid (_=_):=firstE_step he
    have HT:Hid (firstE (ers.take (k+1))≠0→firstE ers=firstE (ers.take (k+1))):=fun h=>firstE_stuck h
    have HY:Hid (_=_):=hy
    have hGlt:=hBk.lt
    clear h6 hcl ht hx hy he
    go_wp2_with fail
    refine cc.mono ?_
    rintro e w2 ⟨⟨h0,v2,rfl,hv2⟩ | ⟨hne,rfl⟩,hb2⟩
    ·clear cc
     obtain⟨fa2,fc2,ka2,kc2,rfl,hc2,hk2⟩:=hv2
     have hBk2:=hBk.kn (No:=fun _=>True) (Kn.of_below hb2) trivial
     have hP2:=hP.kn hb2 hBk.lt
     have hB2:=bchain hB hb2
     obtain⟨o0,e0⟩:=hBk2.cell (k*2) (by omega)
     obtain⟨o1,e1⟩:=hBk2.cell (k*2+1) (by omega)
     have f0:=hBk2.soft (k*2)
     have f1:=hBk2.soft (k*2+1)
     have hfin:=hP2.put hBk2 HY.out (by omega) _ _ (hc2.keep (Nat.le_refl _) (fun q hq=>hq.mono (by omega)) (fun _ _ _=>rfl)) (hk2.all (Nat.le_refl _) (fun q hq=>hq.mono (by omega)) (fun _ _ _=>rfl))
     unfold set2 at hfin
     have HFn:Hid (_∧_∧_):=hfin
     have HZ':Hid (firstE (ers.take (k+1))=0):=(by rw [HS.out,if_pos HZ.out];exact h0:firstE (ers.take (k+1))=0)
     clear hfin h0
     go_wp2_with fail
     obtain⟨q1,q2,q3⟩:=HFn.out
     go_roundw
     case rel=>exact⟨k+1,by omega,by go_num,q1,q2,hB2.trans (q3.below (fun q hq=>by omega) hB2.size),HZ'⟩
     case measure=>simp [intOf];omega
    ·clear cc
     have hE:firstE (ers.take (k+1))=e0:=by rw [HS.out,if_pos HZ.out]
     have hE2:=HT.out (by rw [hE];exact hne)
     rw [hE] at hE2
     exact⟨rfl,.inr ⟨by rw [hE2];exact hne,by rw [hE2]⟩,bchain hB hb2⟩
   ·have hkI:¬ (k:Int) < (L:Int):=by omega
    obtain rfl:k=L:=by omega
    have hr:=PutB.row (base:=w.heap.size) (l:=res) (G:=w.heap.size) (by rw [HL.out.2.1];exact hP) (by rw [HL.out.2.1];exact hBk) (Nat.le_refl _)
    rw [HL.out.2.1] at hr
    have HZ2:Hid (firstE ers=0):=(by have:=HZ.out;rwa [List.take_of_length_le (by rw [HL.out.2.2];exact Nat.le_refl _)] at this:firstE ers=0)
    clear hP hBk HZ
    go_wp2_with fail
    go_ret
    exact⟨.ok HZ2.out hr,hB⟩
structure LEnv (w:World) (s:Sf) (xs xl:Nat):Prop where
 sc:w.heap[xs]? = some (.cells #[.int .i64 s.vf,.int .i64 s.vb,.int .i64 s.df,.int .i64 s.db] 129 (0,0))
 lf:w.heap[xl]? = some (.cells #[.func (.func 153) #[] #[.pointer (some ⟨xs,0,none⟩),.pointer (some ⟨xl,0,none⟩)]] 150 (0,0))
theorem LEnv.blw {w w':World} {s:Sf} {xs xl:Nat} (h:LEnv w s xs xl) (hb:Below w.heap.size w w'):LEnv w' s xs xl :=
 ⟨(hb.block xs (Array.getElem?_eq_some_iff.1 h.sc).1).trans h.sc,(hb.block xl (Array.getElem?_eq_some_iff.1 h.lf).1).trans h.lf⟩
theorem LEnv.fn {w:World} {s:Sf} {xs xl:Nat} (h:LEnv w s xs xl):w.cell? ⟨xl,0,none⟩=some (.func (.func 153) #[] #[.pointer (some ⟨xs,0,none⟩),.pointer (some ⟨xl,0,none⟩)]):=by simp [World.cell?,h.lf]
theorem LEnv.cs {w:World} {s:Sf} {xs xl:Nat} (h:LEnv w s xs xl):w.cell? ⟨xs,0,none⟩=some (.int .i64 s.vf)∧w.cell? ⟨xs,1,none⟩=some (.int .i64 s.vb)∧w.cell? ⟨xs,2,none⟩=some (.int .i64 s.df)∧w.cell? ⟨xs,3,none⟩=some (.int .i64 s.db):=by
 refine⟨?_,?_,?_,?_⟩ <;> simp [World.cell?,h.sc]
def Bnd (w:World) (x bv bd:Nat):Prop:=w.heap[x]? = some (.cells #[.int .i64 (bv:Int),.int .i64 (bd:Int)] 152 (0,0))
theorem Bnd.blw {w w':World} {x bv bd:Nat} (h:Bnd w x bv bd) (hb:Below w.heap.size w w'):Bnd w' x bv bd:=(hb.block x (Array.getElem?_eq_some_iff.1 h).1).trans h
theorem Bnd.cs {w:World} {x bv bd:Nat} (h:Bnd w x bv bd):w.cell? ⟨x,0,none⟩=some (.int .i64 (bv:Int))∧w.cell? ⟨x,1,none⟩=some (.int .i64 (bd:Int)):=by
 unfold Bnd at h;refine⟨?_,?_⟩ <;> simp [World.cell?,h]
def LfC (s:Sf) (N:Nat):Prop:=∀ (t:Tm) (bv bd g off xs xl:Nat) (ra:Option Addr) (rc:Nat) (ka:Option Addr) (kc:Nat) (sa:Option Addr) (sc:Nat) (w:World),
 LEnv w s xs xl→Cs6 w g off t ra rc ka kc sa sc→TmTop Tt w t ra rc ka kc sa sc→Fm t→blk t≤N→bv+blk t≤60000→bd+blk t≤60000→blk t≤40000 →
 Calls Tryz.prog 153 #[.pointer (some ⟨g,off,none⟩),.agg #[.int .i64 (bv:Int),.int .i64 (bd:Int)],.pointer (some ⟨xs,0,none⟩),.pointer (some ⟨xl,0,none⟩)] w fun e w'=>LOut (erT s t bv bd) (TmIn (OkN w.heap.size w') w' (liT s t bv bd)) e∧Below w.heap.size w w'
theorem lf_eg:∀ args w,(callFunc 153 args).run Tryz.prog w=.ok (.enter 153 args) w:=enters_of Tryz.func153 (by kernel_rfl) rfl
theorem lf1_eg:∀ args w,(callFunc 157 args).run Tryz.prog w=.ok (.enter 157 args) w:=enters_of Tryz.func157 (by kernel_rfl) rfl
theorem lf2_eg:∀ args w,(callFunc 159 args).run Tryz.prog w=.ok (.enter 159 args) w:=enters_of Tryz.func159 (by kernel_rfl) rfl
theorem lf21_eg:∀ args w,(callFunc 160 args).run Tryz.prog w=.ok (.enter 160 args) w:=enters_of Tryz.func160 (by kernel_rfl) rfl
theorem mkfn (fn:Fn) (first cap:Array Value) (w:World):(Instr.makeFunc fn first cap).run Tryz.prog w=.ok (.func fn first cap) w:=rfl
theorem res_six {w2 w3:World} {X n:Nat} {t:Tm} {v:Value} (h:TmIn (OkN n w2) w2 t v) (hk:Kn (fun q=>q≠X) w2 w3) (hX:X<n):TmIn (OkN X w3) w3 t v :=
 h.keep hk.size (fun q hq=>(hq.same (hk.block q (by have:=hq.1;omega) hq.lt)).mono (by omega)) (fun q hq hs=>hk.block q (by have:=hq.1;omega) hs)
theorem lkid2_any {s:Sf} {N:Nat} (IH:LfC s N) (k:Int) (x:Tm) (bv bd g off xs xl xi:Nat) (ra:Option Addr) (rc:Nat) (ka:Option Addr) (kc:Nat) (sa:Option Addr) (sc:Nat) (w:World) (hE:LEnv w s xs xl) (hi:Bnd w xi bv bd) (h6:Cs6 w g off x ra rc ka kc sa sc) (ht:TmTop Tt w x ra rc ka kc sa sc) (hf:Fm x) (hN:blk x≤N) (h1:bv+blk x≤60000) (h2:bd+blk x≤60000) (h3:blk x≤40000) :
  Calls Tryz.prog 160 #[.int .i64 k,.pointer (some ⟨g,off,none⟩),.pointer (some ⟨xl,0,none⟩),.pointer (some ⟨xi,0,none⟩)] w fun e w'=>LOut (erT s x bv bd) (TmIn (OkN w.heap.size w') w' (liT s x bv bd)) e∧Below w.heap.size w w':=by
 obtain⟨w1,hw1⟩:∃ W,W=w.alloc (.cells #[.int .i64 0,.int .i64 0,.string ⟨#[]⟩,.slice none 0 0,.slice none 0 0,.slice none 0 0] 26):=⟨_,rfl⟩
 have b1:Below w.heap.size w w1:=by rw [hw1];exact belowA _ _
 have s1:w1.heap.size=w.heap.size+1:=by rw [hw1];simp
 obtain⟨X,hX⟩:∃ X,X=w.heap.size:=⟨_,rfl⟩
 have hz1:Six w1 X (.int .i64 0) (.int .i64 0) (.string ⟨#[]⟩) (.slice none 0 0) (.slice none 0 0) (.slice none 0 0):=⟨by rw [hw1,hX];exact heapNew _ _⟩
 have cf:=(hE.blw b1).fn
 obtain⟨ci0,ci1⟩:=(hi.blw b1).cs
 have cc:=IH x bv bd g off xs xl ra rc ka kc sa sc w1 (hE.blw b1) (h6.blw b1) (ht.blw b1) hf hN h1 h2 h3
 have eg:=lf_eg
 have hBw:Below X w w1:=by rw [hX];exact b1
 have sX:w1.heap.size=X+1:=by omega
 rw [← hX]
 have HX:Hid (X=w.heap.size):=hX
 have HW:Hid (_=_):=hw1
 clear hw1 hE hi h6 ht hf b1 s1 hX IH
 go_enter Tryz.func160,Tryz.ntmps160
 go_upto_region 1 with fail
 rw [← HW.out]
 simp only [← HX.out]
 clear HW HX
 go_wp2_with fail
 refine cc.mono ?_
 rintro e w2 ⟨⟨he0,v2,rfl,hv2⟩ | ⟨hne,rfl⟩,hb2⟩
 ·clear cc cf ci0 ci1
  obtain⟨ra2,rc2,ka2,kc2,sa2,sc2,rfl,ht2⟩:=hv2.form
  obtain⟨T2,hT2⟩:∃ T,T=liT s x bv bd:=⟨_,rfl⟩
  rw [← hT2] at ht2 ⊢
  have HTe:Hid (T2=liT s x bv bd):=hT2
  have z2:Six w2 X (.int .i64 0) (.int .i64 0) (.string ⟨#[]⟩) (.slice none 0 0) (.slice none 0 0) (.slice none 0 0):=hz1.blw hb2
  obtain⟨w3,hw3⟩:∃ W,W=(((((w2.setCell ⟨X,0,none⟩ (.int .i64 T2.kind)).setCell ⟨X,1,none⟩ (.int .i64 T2.n)).setCell ⟨X,2,none⟩ (.string T2.name)).setCell ⟨X,3,none⟩ (.slice ra2 T2.r.length rc2)).setCell ⟨X,4,none⟩ (.slice ka2 T2.kids.length kc2)).setCell ⟨X,5,none⟩ (.slice sa2 T2.sys.length sc2):=⟨_,rfl⟩
  have z3:=z2.set6 (.int .i64 T2.kind) (.int .i64 T2.n) (.string T2.name) (.slice ra2 T2.r.length rc2) (.slice ka2 T2.kids.length kc2) (.slice sa2 T2.sys.length sc2)
  rw [← hw3] at z3
  have k3:Kn (fun q=>q≠X) w2 w3:=by rw [hw3];exact (((((kn_set _ _ _ _).trans (kn_set _ _ _ _)).trans (kn_set _ _ _ _)).trans (kn_set _ _ _ _)).trans (kn_set _ _ _ _)).trans (kn_set _ _ _ _)
  obtain⟨o0,o1,o2,o3,o4,o5,ff⟩:=z2.cells
  have f0:=ff 0
  have f1:=ff 1
  have f2:=ff 2
  have f3:=ff 3
  have f4:=ff 4
  have f5:=ff 5
  obtain⟨h0,h1,h2,h3,h4,h5,_⟩:=z3.cells
  have HT:Hid (TmIn (OkN X w3) w3 T2 (.agg #[.int .i64 T2.kind,.int .i64 T2.n,.string T2.name,.slice ra2 T2.r.length rc2,.slice ka2 T2.kids.length kc2,.slice sa2 T2.sys.length sc2])):=res_six ht2.value k3 (by omega)
  have b3:Below X w w3:=(hBw.trans (hb2.mono (by omega))).trans (k3.below (fun q hq=>by omega) (by have:=hb2.size;omega))
  have H3:Hid (_=_):=hw3
  clear hw3 ff z2 z3 k3 ht2 hv2 hT2
  go_wp2_with fail
  rw [← H3.out]
  exact bodyPost_ret (v:=.agg #[.int .i64 T2.kind,.int .i64 T2.n,.string T2.name,.slice ra2 T2.r.length rc2,.slice ka2 T2.kids.length kc2,.slice sa2 T2.sys.length sc2]) (by simp only [results,Tryz.results160];simp [go_sem,h0,h1,h2,h3,h4,h5]) rfl ⟨.ok he0 (by rw [← HTe.out];exact HT.out),b3⟩
 ·clear cc
  exact⟨rfl,.inr ⟨hne,rfl⟩,hBw.trans (hb2.mono (by omega))⟩
theorem lkid1_any {s:Sf} {N:Nat} (IH:LfC s N) (i:Nat) (x:Tm) (kd:Int) (hkd:I64 kd) (hi9:i≤100000) (bv bd g off gt ot xs xl xp xb:Nat) (ra:Option Addr) (rc:Nat) (ka:Option Addr) (kc:Nat) (sa:Option Addr) (sc:Nat) (w:World) (hE:LEnv w s xs xl) (hi:Bnd w xb bv bd) (hp:w.cell? ⟨xp,0,none⟩=some (.pointer (some ⟨gt,ot,none⟩))) (hpl:xp<w.heap.size) (hk:w.cell? ⟨gt,ot,none⟩=some (.int .i64 kd)) (hkl:gt<w.heap.size) (h6:Cs6 w g off x ra rc ka kc sa sc) (ht:TmTop Tt w x ra rc ka kc sa sc) (hf:Fm x) (hN:blk x≤N) (h1:bv+1+blk x≤60000) (h2:bd+1+blk x≤60000) (h3:blk x≤40000) :
  Calls Tryz.prog 157 #[.int .i64 (i:Int),.pointer (some ⟨g,off,none⟩),.pointer (some ⟨xp,0,none⟩),.pointer (some ⟨xl,0,none⟩),.pointer (some ⟨xb,0,none⟩)] w fun e w'=>LOut (erT s x (bv+bvK kd i) (bd+bdK kd i)) (TmIn (OkN w.heap.size w') w' (liT s x (bv+bvK kd i) (bd+bdK kd i))) e∧Below w.heap.size w w':=by
 obtain⟨w1,hw1⟩:∃ W,W=w.alloc (.cells #[.int .i64 0,.int .i64 0,.string ⟨#[]⟩,.slice none 0 0,.slice none 0 0,.slice none 0 0] 26):=⟨_,rfl⟩
 have b1:Below w.heap.size w w1:=by rw [hw1];exact belowA _ _
 have s1:w1.heap.size=w.heap.size+1:=by rw [hw1];simp
 obtain⟨X,hX⟩:∃ X,X=w.heap.size:=⟨_,rfl⟩
 have hz1:Six w1 X (.int .i64 0) (.int .i64 0) (.string ⟨#[]⟩) (.slice none 0 0) (.slice none 0 0) (.slice none 0 0):=⟨by rw [hw1,hX];exact heapNew _ _⟩
 have cf:=(hE.blw b1).fn
 obtain⟨ci0,ci1⟩:=(hi.blw b1).cs
 have cp:=(b1.cell (p:=⟨xp,0,none⟩) hpl).trans hp
 have ck:=(b1.cell (p:=⟨gt,ot,none⟩) hkl).trans hk
 have hv1:=bvK_le kd i
 have hd1:=bdK_le kd i
 have cB:=bindsC_any kd (i:Int) w1
 rw [bvI_nat,bdI_nat] at cB
 obtain⟨V,hV⟩:∃ V,V=bvK kd i:=⟨_,rfl⟩
 obtain⟨D,hD⟩:∃ D,D=bdK kd i:=⟨_,rfl⟩
 rw [← hV] at hv1 cB ⊢
 rw [← hD] at hd1 cB ⊢
 have cc:=IH x (bv+V) (bd+D) g off xs xl ra rc ka kc sa sc w1 (hE.blw b1) (h6.blw b1) (ht.blw b1) hf hN (by omega) (by omega) h3
 have eg:=lf_eg
 have hBw:Below X w w1:=by rw [hX];exact b1
 have sX:w1.heap.size=X+1:=by omega
 rw [← hX]
 have HX:Hid (X=w.heap.size):=hX
 have HW:Hid (_=_):=hw1
 have wr1:wrap64 ((bv:Int) + (V:Int))=((bv+V:Nat):Int):=by simp [wrap64];omega
 have wr2:wrap64 ((bd:Int) + (D:Int))=((bd+D:Nat):Int):=by simp [wrap64];omega
 clear hw1 hE hi h6 ht hf b1 s1 hX IH hp hk hV hD
 go_enter Tryz.func157,Tryz.ntmps157
 go_upto_region 1 with fail
 rw [← HW.out]
 simp only [← HX.out]
 clear HW HX
 go_wp2_with fail
 refine cB.mono ?_
 rintro e w9 ⟨rfl,hw9⟩
 replace hw9:=hw9.symm
 subst hw9
 clear cB
 go_wp2_with fail
 refine cc.mono ?_
 rintro e w2 ⟨⟨he0,v2,rfl,hv2⟩ | ⟨hne,rfl⟩,hb2⟩
 ·clear cc cf ci0 ci1 cp ck
  obtain⟨ra2,rc2,ka2,kc2,sa2,sc2,rfl,ht2⟩:=hv2.form
  obtain⟨T2,hT2⟩:∃ T,T=liT s x (bv+V) (bd+D):=⟨_,rfl⟩
  rw [← hT2] at ht2 ⊢
  have HTe:Hid (T2=liT s x (bv+V) (bd+D)):=hT2
  have z2:Six w2 X (.int .i64 0) (.int .i64 0) (.string ⟨#[]⟩) (.slice none 0 0) (.slice none 0 0) (.slice none 0 0):=hz1.blw hb2
  obtain⟨w3,hw3⟩:∃ W,W=(((((w2.setCell ⟨X,0,none⟩ (.int .i64 T2.kind)).setCell ⟨X,1,none⟩ (.int .i64 T2.n)).setCell ⟨X,2,none⟩ (.string T2.name)).setCell ⟨X,3,none⟩ (.slice ra2 T2.r.length rc2)).setCell ⟨X,4,none⟩ (.slice ka2 T2.kids.length kc2)).setCell ⟨X,5,none⟩ (.slice sa2 T2.sys.length sc2):=⟨_,rfl⟩
  have z3:=z2.set6 (.int .i64 T2.kind) (.int .i64 T2.n) (.string T2.name) (.slice ra2 T2.r.length rc2) (.slice ka2 T2.kids.length kc2) (.slice sa2 T2.sys.length sc2)
  rw [← hw3] at z3
  have k3:Kn (fun q=>q≠X) w2 w3:=by rw [hw3];exact (((((kn_set _ _ _ _).trans (kn_set _ _ _ _)).trans (kn_set _ _ _ _)).trans (kn_set _ _ _ _)).trans (kn_set _ _ _ _)).trans (kn_set _ _ _ _)
  obtain⟨o0,o1,o2,o3,o4,o5,ff⟩:=z2.cells
  have f0:=ff 0
  have f1:=ff 1
  have f2:=ff 2
  have f3:=ff 3
  have f4:=ff 4
  have f5:=ff 5
  obtain⟨h0,h1,h2,h3,h4,h5,_⟩:=z3.cells
  have HT:Hid (TmIn (OkN X w3) w3 T2 (.agg #[.int .i64 T2.kind,.int .i64 T2.n,.string T2.name,.slice ra2 T2.r.length rc2,.slice ka2 T2.kids.length kc2,.slice sa2 T2.sys.length sc2])):=res_six ht2.value k3 (by omega)
  have b3:Below X w w3:=(hBw.trans (hb2.mono (by omega))).trans (k3.below (fun q hq=>by omega) (by have:=hb2.size;omega))
  have H3:Hid (_=_):=hw3
  clear hw3 ff z2 z3 k3 ht2 hv2 hT2
  go_wp2_with fail
  rw [← H3.out]
  exact bodyPost_ret (v:=.agg #[.int .i64 T2.kind,.int .i64 T2.n,.string T2.name,.slice ra2 T2.r.length rc2,.slice ka2 T2.kids.length kc2,.slice sa2 T2.sys.length sc2]) (by simp only [results,Tryz.results157];simp [go_sem,h0,h1,h2,h3,h4,h5]) rfl ⟨.ok he0 (by rw [← HTe.out];exact HT.out),b3⟩
 ·clear cc
  exact⟨rfl,.inr ⟨hne,rfl⟩,hBw.trans (hb2.mono (by omega))⟩
theorem map_get {α β:Type} {f:α→β} {l:List α} {k:Nat} {x:α} (h:l[k]? = some x) {y:β} (hy:(l.map f)[k]? = some y):y=f x:=by
 rw [List.getElem?_map,h] at hy;simpa using hy.symm
theorem lbr_any {s:Sf} (hs:s.ok) {N:Nat} (IH:LfC s N) (k:Int) (b:List C × List Tm) (bv bd bi g off xs xb xl xi:Nat) (fa:Option Addr) (fc:Nat) (ka:Option Addr) (kc:Nat) (w:World) (hE:LEnv w s xs xl) (hb:Bnd w xb bv bd) (hi:Bnd w xi bv bi) (h2:Cs2 w g off b fa fc ka kc) (hF:ClRow Tt w b.1 (.slice fa b.1.length fc)) (hK:KdT Tt w (TmIn Tt w) b.2 (.slice ka b.2.length kc)) (hf:∀ x∈b.2,Fm x) (hN:blkL b.2≤N) (hbl:b.1.length≤40000) (h1:bv+blkL b.2≤60000) (h3:bi+blkL b.2≤60000) (h4:blkL b.2≤40000) (hbd:bd≤60000) :
  Calls Tryz.prog 159 #[.int .i64 k,.pointer (some ⟨g,off,none⟩),.pointer (some ⟨xs,0,none⟩),.pointer (some ⟨xb,0,none⟩),.pointer (some ⟨xl,0,none⟩),.pointer (some ⟨xi,0,none⟩)] w fun e w'=>LOut (firstE ((rowP s bd b.1).2 :: b.2.map fun x=>erT s x bv bi)) (BrIn w.heap.size w' ((rowP s bd b.1).1,b.2.map fun x=>liT s x bv bi)) e∧Below w.heap.size w w':=by
 have hlen:=blkL_len b.2
 obtain⟨w1,hw1⟩:∃ W,W=w.alloc (.cells #[.slice none 0 0,.slice none 0 0] 50):=⟨_,rfl⟩
 have b1:Below w.heap.size w w1:=by rw [hw1];exact belowA _ _
 have s1:w1.heap.size=w.heap.size+1:=by rw [hw1];simp
 obtain⟨X,hX⟩:∃ X,X=w.heap.size:=⟨_,rfl⟩
 have hz1:Two w1 X (.slice none 0 0) (.slice none 0 0):=⟨by rw [hw1,hX];exact heapNew _ _⟩
 have HE:Hid (∀ W,Below w1.heap.size w1 W→LEnv W s xs xl):=fun W q=>(hE.blw b1).blw q
 have HB:Hid (∀ W,Below w1.heap.size w1 W→Bnd W xb bv bd):=fun W q=>(hb.blw b1).blw q
 have HI:Hid (∀ W,Below w1.heap.size w1 W→Bnd W xi bv bi):=fun W q=>(hi.blw b1).blw q
 have H2:Hid (∀ W,Below w1.heap.size w1 W→Cs2 W g off b fa fc ka kc):=fun W q=>(h2.blw b1).blw q
 have HK:Hid (∀ W,Below w1.heap.size w1 W→KdT Tt W (TmIn Tt W) b.2 (.slice ka b.2.length kc)):=fun W q=>(hK.blw b1).blw q
 obtain⟨F,hFl⟩:∃ F,F=b.1.length:=⟨_,rfl⟩
 obtain⟨L,hLl⟩:∃ L,L=b.2.length:=⟨_,rfl⟩
 have HR:Hid (∀ W,Below w1.heap.size w1 W→Calls Tryz.prog 155 #[.agg #[.int .i64 s.vf,.int .i64 s.vb,.int .i64 s.df,.int .i64 s.db],.slice fa F fc,.agg #[.int .i64 (bv:Int),.int .i64 (bd:Int)]] W fun e w'=>LOut (rowP s bd b.1).2 (fun v'=>OwnsC w' W.heap.size v' (rowP s bd b.1).1) e∧Below W.heap.size W w'):=fun W q=>by
  rw [hFl];exact lrow_any s hs bv bd b.1 _ W ((hF.blw b1).blw q) hbl (by omega)
 have HM:Hid (∀ W,Below w1.heap.size w1 W→Calls Tryz.prog 156 #[.slice ka L kc,.func (.func 160) #[] #[.pointer (some ⟨xl,0,none⟩),.pointer (some ⟨xi,0,none⟩)]] W fun e w'=>LOut (firstE (b.2.map fun x=>erT s x bv bi)) (fun v'=>KdT (OkN W.heap.size w') w' (TmIn (OkN W.heap.size w') w') (b.2.map fun x=>liT s x bv bi) v') e∧Below W.heap.size W w'):=fun W q=>by
  rw [hLl]
  refine lbecT_any 160 _ lf21_eg b.2 _ _ (by simp) (by simp) _ W (HK.out W q) (by omega) ?_
  intro k x y e0 p V hx hy he hat hV
  have qV:=bchain q hV
  rw [map_get hx hy,map_get hx he]
  obtain⟨g2,o2,n2,c2,e1,rfl⟩:=hat
  obtain⟨g3,o3,ra,rc,ka3,kc3,sa,sc,e2,_,h63,ht3⟩:=(HK.out V qV).at hx
  cases e1
  cases e2
  have hbx:blk x≤blkL b.2:=sumN_mem (List.mem_map_of_mem (f:=blk) (List.mem_of_getElem? hx))
  exact lkid2_any IH k x bv bi g2 (o2+k*6) xs xl xi ra rc ka3 kc3 sa sc V (HE.out V qV) (HI.out V qV) h63 ht3 (hf x (List.mem_of_getElem? hx)) (by omega) (by omega) (by omega) (by omega)
 have HFL:Hid (F=b.1.length∧L=b.2.length):=⟨hFl,hLl⟩
 have HX:Hid (X=w.heap.size):=hX
 have HW:Hid (_=_):=hw1
 have hmk:=mkfn
 have hBw:Below X w w1:=by rw [hX];exact b1
 have sX:Hid (w1.heap.size=X+1):=(by omega:w1.heap.size=X+1)
 obtain⟨P,hP⟩:∃ P,P=rowP s bd b.1:=⟨_,rfl⟩
 rw [← hP] at HR ⊢
 obtain⟨R,er⟩:=P
 dsimp only at HR ⊢
 obtain⟨em,hem⟩:∃ em,em=firstE (b.2.map fun x=>erT s x bv bi):=⟨_,rfl⟩
 rw [← hem] at HM
 rw [firstE_cons,← hem]
 obtain⟨res,hres⟩:∃ res,res=b.2.map fun x=>liT s x bv bi:=⟨_,rfl⟩
 rw [← hres] at HM ⊢
 have Hrl:Hid (res.length=L):=(by rw [hres,List.length_map];exact hLl.symm:res.length=L)
 rw [← hX]
 clear hw1 hE hb hi h2 hF hK b1 s1 hX hFl hLl hP hem hres IH hf hs
 have eg:=lf21_eg
 go_enter Tryz.func159,Tryz.ntmps159
 go_upto_region 1 with fail
 rw [← HW.out]
 simp only [← HX.out]
 clear HW HX
 refine wp_region_held_drew (S:=fun W=>Below w1.heap.size w1 W) (by kernel_rfl) ((Below.refl _ _).drew) (fun hS=>?_)
 obtain⟨wd,hwd⟩:∃ W,W=w1.drew:=⟨_,rfl⟩
 rw [← hwd] at hS ⊢
 clear hwd
 refine zk 0 (.agg #[.int .i64 s.vf,.int .i64 s.vb,.int .i64 s.df,.int .i64 s.db]) rfl (by rfl) (fun w hS=>by obtain⟨q0,q1,q2,q3⟩:=(HE.out w hS).cs;go_simp) hS ?_
 try simp only [Act.put,zg1,zg2,zg3,zs1,zs2,zs3]
 refine zk 1 (.pointer (some ⟨g,off,none⟩)) rfl (by rfl) (fun w hS=>by go_simp) hS ?_
 try simp only [Act.put,zg1,zg2,zg3,zs1,zs2,zs3]
 refine zk 2 (.pointer (some ⟨g,off,none⟩)) rfl (by rfl) (fun w hS=>by go_simp) hS ?_
 try simp only [Act.put,zg1,zg2,zg3,zs1,zs2,zs3]
 refine zk 3 (.pointer (some ⟨g,off,none⟩)) rfl (by rfl) (fun w hS=>by go_simp) hS ?_
 try simp only [Act.put,zg1,zg2,zg3,zs1,zs2,zs3]
 refine zk 4 (.slice fa F fc) rfl (by rfl) (fun w hS=>by have e:=(H2.out w hS).c0;rw [← HFL.out.1] at e;go_simp) hS ?_
 try simp only [Act.put,zg1,zg2,zg3,zs1,zs2,zs3]
 refine zk 5 (.agg #[.int .i64 (bv:Int),.int .i64 (bd:Int)]) rfl (by rfl) (fun w hS=>by obtain⟨q0,q1⟩:=(HB.out w hS).cs;go_simp) hS ?_
 try simp only [Act.put,zg1,zg2,zg3,zs1,zs2,zs3]
 refine wpAnyH_ready (rs:=[6]) (by kernel_rfl) (by simp) ?_
 refine ready_cons rfl (fun KK hKK=>?_) AllReadyH.nil
 refine⟨?_⟩
 have cR:=HR.out wd hS
 go_simp
 refine cR.mono ?_
 rintro e w2 ⟨⟨he0,v2,rfl,hv2⟩ | ⟨hne,rfl⟩,hb2⟩
 ·have hS2:=bchain hS hb2
  obtain⟨fa2,fc2,rfl⟩:=OwnsC.len hv2
  have hv2:=OwnsC.mono hv2 hS.size
  clear cR
  refine hKK.out _ _ hS2 (fun hS=>?_)
  clear hKK KK
  try simp only [Act.put,zg1,zg2,zg3,zs1,zs2,zs3]
  refine wpAnyH_ready (rs:=[7]) (by kernel_rfl) (by simp) ?_
  refine ready_cons rfl (fun KK hKK=>?_) AllReadyH.nil
  refine⟨?_⟩
  go_simp
  refine hKK.out _ _ hS (fun hS=>?_)
  clear hKK KK
  try simp only [Act.put,zg1,zg2,zg3,zs1,zs2,zs3]
  refine wpAnyH_done (by kernel_rfl) ?_ _
  have cM:=HM.out w2 hS2
  have c1:=(H2.out w2 hS2).c1
  rw [← HFL.out.2] at c1
  go_wp2_with fail
  refine cM.mono ?_
  rintro e w3 ⟨⟨hm0,v3,rfl,hv3⟩ | ⟨hne,rfl⟩,hb3⟩
  ·clear cM c1
   have hS3:=bchain hS2 hb3
   obtain⟨ka3,kc3,rfl,_⟩:=id hv3
   rw [Hrl.out] at hv3 ⊢
   have z3:=hz1.blw hS3
   obtain⟨q0,q1,qf⟩:=z3.cells
   have f0:=qf 0
   have f1:=qf 1
   obtain⟨w4,hw4⟩:∃ W,W=(w3.setCell ⟨X,0,none⟩ (.slice fa2 R.length fc2)).setCell ⟨X,1,none⟩ (.slice ka3 L kc3):=⟨_,rfl⟩
   have z4:=z3.set2 (.slice fa2 R.length fc2) (.slice ka3 L kc3)
   rw [← hw4] at z4
   have k4:Kn (fun q=>q≠X) w3 w4:=by rw [hw4];exact (kn_set _ _ _ _).trans (kn_set _ _ _ _)
   obtain⟨r0,r1,_⟩:=z4.cells
   have sX1:=sX.out
   have hs2:=hS2.size
   have up:∀ n q,X<n→OkN n w3 q→OkN X w4 q:=fun n q hn hq=>(hq.same (k4.block q (by have:=hq.1;omega) hq.lt)).mono (by omega)
   have ub:∀ n q,X<n→OkN n w3 q→q<w3.heap.size→w4.heap[q]? = w3.heap[q]?:=fun n q hn hq hs=>k4.block q (by have:=hq.1;omega) hs
   have HBr:Hid (BrIn X w4 (R,res) (.agg #[.slice fa2 R.length fc2,.slice ka3 L kc3])):=by
    refine⟨fa2,fc2,ka3,kc3,by rw [Hrl.out],?_,?_⟩
    ·exact (hv2.okn.okn hb3).keep k4.size (fun q hq=>up _ q (by omega) hq) (fun q hq hs=>ub _ q (by omega) hq hs)
    ·rw [Hrl.out];exact hv3.all k4.size (fun q hq=>up _ q (by omega) hq) (fun q hq hs=>ub _ q (by omega) hq hs)
   have b4:Below X w w4:=(hBw.trans (hS3.mono (by omega))).trans (k4.below (fun q hq=>by omega) (by have:=hS3.size;omega))
   have H4:Hid (_=_):=hw4
   clear hw4 z3 z4 k4 up ub hv2 hv3 qf sX1 hs2
   go_wp2_with fail
   rw [← H4.out]
   exact bodyPost_ret (v:=.agg #[.slice fa2 R.length fc2,.slice ka3 L kc3]) (by simp only [results,Tryz.results159];simp [go_sem,r0,r1]) rfl ⟨.ok (by first | rfl | (rw [if_pos he0];exact hm0)) HBr.out,b4⟩
  ·clear cM c1
   exact⟨rfl,.inr ⟨by rw [if_pos he0];exact hne,by rw [if_pos he0]⟩,hBw.trans ((bchain hS2 hb3).mono (by have:=sX.out;omega))⟩
 ·exact⟨rfl,.inr ⟨by rw [if_neg hne];exact hne,by rw [if_neg hne]⟩,hBw.trans ((bchain hS hb2).mono (by have:=sX.out;omega))⟩
end Go.Proofs.YtmblbmdchinflaaGreat
