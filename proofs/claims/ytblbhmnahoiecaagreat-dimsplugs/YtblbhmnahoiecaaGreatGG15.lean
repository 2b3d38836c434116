/- What is wrong with a term: Right, Formed. -/
import Derived.Test.YtblbhmnahoiecaaGreatGYAll
import Derived.Test.YtblbhmnahoiecaaGreatGYMeas
import Derived.Test.YtblbhmnahoiecaaGreatGG10
import Derived.Test.YtblbhmnahoiecaaGreatGG5
set_option linter.unusedVariables false
set_option linter.unusedSimpArgs false
set_option maxRecDepth 100000
set_option maxHeartbeats 4000000
namespace Go.Proofs.YtblbhmnahoiecaaGreat
open Go.RowKit
def wrongN (o:Bool) (V:Int) (D:Nat) (t:Tm):Nat:=if 200<depthT t then 62 else if okT o V D t 0 0=true then 0 else 100
theorem box2 (w:World) (V D:Int) (o:Bool) (t:Tm) (ra:Option Addr) (rc:Nat) (ka:Option Addr) (kc:Nat) (sa:Option Addr) (sc:Nat):∃ W,W=(w.alloc (.cells #[.int .i64 V,.int .i64 D,.bool o] 101)).alloc (.cells #[.int .i64 t.kind,.int .i64 t.n,.string t.name,.slice ra t.r.length rc,.slice ka t.kids.length kc,.slice sa t.sys.length sc] 26) ∧
  Below w.heap.size w W∧W.heap.size=w.heap.size+2∧W.heap[w.heap.size]? = some (.cells #[.int .i64 V,.int .i64 D,.bool o] 101 (0,0))∧Cs6 W (w.heap.size+1) 0 t ra rc ka kc sa sc:=by
 refine⟨_,rfl,bchain (belowA _ _) (belowA _ _),by simp,(Below.heap_alloc _ _ _ (by simp)).trans (heapNew w _),?_⟩
 have:=cs6_new (w.alloc (.cells #[.int .i64 V,.int .i64 D,.bool o] 101)) t ra rc ka kc sa sc
 rwa [World.size_alloc] at this
theorem wrong_any (V:Int) (D:Nat) (o:Bool) (hD:D≤24) (t:Tm) (v:Value) (w:World) (hv:TmIn Tt w t v) (hb:blk t≤20000) :
  Calls Tryz.prog 80 #[.agg #[.int .i64 V,.int .i64 (D:Int),.bool o],v] w fun e w'=>e=.returned (.int .i64 ((wrongN o V D t:Nat):Int))∧Below w.heap.size w w':=by
 have hd:=depth_size t
 have hs:=size_blk t
 obtain⟨ra,rc,ka,kc,sa,sc,rfl,ht⟩:=hv.form
 obtain⟨W,hW,bW,sW,m1,c6⟩:=box2 w V D o t ra rc ka kc sa sc
 have cc:=measure_any t _ 200 W (hv.blw bW) (by omega)
 have ca:Hid (∀ W2,Below W.heap.size W W2→Calls Tryz.prog 136 #[.agg #[.int .i64 V,.int .i64 (D:Int),.bool o],.pointer (some ⟨w.heap.size+1,0,none⟩),.agg #[.int .i64 0,.int .i64 0]] W2 fun e w'=>e=.returned (.bool (okT o V D t 0 0))∧Below W2.heap.size W2 w'):=fun W2 q=>allows_any V D o hD (blk t) t 0 0 (w.heap.size+1) 0 ra rc ka kc sa sc W2 (c6.blw q) (ht.blw (bchain bW q)) (Nat.le_refl _) (by omega) (by omega)
 obtain⟨_,y0,y1,y2,y3,y4,y5⟩:=c6
 simp only [Nat.zero_add] at y1 y2 y3 y4 y5
 have H1:Hid (_=_):=hW
 have HM:Hid (∀ W2,Below W.heap.size W W2→W2.cell? ⟨w.heap.size,0,none⟩=some (.int .i64 V)∧W2.cell? ⟨w.heap.size,1,none⟩=some (.int .i64 (D:Int))∧W2.cell? ⟨w.heap.size,2,none⟩=some (.bool o)):=fun W2 q=>cells3 ((q.block _ (by omega)).trans m1)
 have HR:Hid (wrongN o V D t=if 200<depthT t then 62 else if okT o V D t 0 0=true then 0 else 100):=rfl
 clear hW hv ht m1 sW
 go_enter Tryz.func80,Tryz.ntmps80
 go_upto_region 1 with fail
 rw [← H1.out]
 clear H1
 go_wp2_with fail
 refine cc.mono ?_
 rintro e w2 ⟨⟨N1,D1,rfl,a1,a2,a3,a4⟩,hb2⟩
 have hal:=bchain bW hb2
 clear cc y0 y1 y2 y3 y4 y5
 by_cases hdep:200<depthT t
 ·have h1:(200:Int) < (D1:Int):=a2 (by omega)
  have HE:Hid (wrongN o V D t=62):=by show _=_;rw [HR.out,if_pos hdep]
  clear a1 a2 HR
  go_wp2
  go_ret
  exact⟨retI (by rw [HE.out];rfl),hal⟩
 ·obtain⟨e1,e2⟩:=a1 (by omega)
  have h1:¬ (200:Int) < (D1:Int):=by omega
  have h2:¬ (20000:Int) < (N1:Int):=by omega
  have HE:Hid (wrongN o V D t=if okT o V D t 0 0=true then 0 else 100):=by show _=_;rw [HR.out,if_neg hdep]
  have c2:=ca.out w2 hb2
  obtain⟨x0,x1,x2⟩:=HM.out w2 hb2
  clear a1 a2 e1 e2 HR ca HM
  cases hok:okT o V D t 0 0 with
  | true =>
   rw [hok] at c2 HE
   go_wp2_with fail
   refine c2.mono ?_
   rintro e w3 ⟨rfl,hb3⟩
   clear c2 x0 x1 x2
   have hal3:=bchain hal hb3
   go_wp2
   go_ret
   exact⟨retI (by rw [HE.out];rfl),hal3⟩
  | false =>
   rw [hok] at c2 HE
   go_wp2_with fail
   refine c2.mono ?_
   rintro e w3 ⟨rfl,hb3⟩
   clear c2 x0 x1 x2
   have hal3:=bchain hal hb3
   go_wp2
   go_ret
   exact⟨retI (by rw [HE.out];rfl),hal3⟩
theorem formed_any (t:Tm) (v:Value) (w:World) (hv:TmIn Tt w t v) (hb:blk t≤20000) :
  Calls Tryz.prog 52 #[v] w fun e w'=>e=.returned (.int .i64 ((wrongN true 0 0 t:Nat):Int))∧Below w.heap.size w w':=by
 obtain⟨ra,rc,ka,kc,sa,sc,rfl,ht⟩:=hv.form
 obtain⟨w1,hw1⟩:∃ w1,w1=w.alloc (.cells #[.int .i64 t.kind,.int .i64 t.n,.string t.name,.slice ra t.r.length rc,.slice ka t.kids.length kc,.slice sa t.sys.length sc] 26):=⟨_,rfl⟩
 have b1:Below w.heap.size w w1:=by rw [hw1];exact belowA _ _
 have c6:Cs6 w1 w.heap.size 0 t ra rc ka kc sa sc:=by rw [hw1];exact cs6_new w t ra rc ka kc sa sc
 have cW:=wrong_any 0 0 true (by omega) t _ w1 (hv.blw b1) hb
 obtain⟨_,y0,y1,y2,y3,y4,y5⟩:=c6
 have H1:Hid (_=_):=hw1
 clear hw1 hv ht
 go_enter Tryz.func52,Tryz.ntmps52
 go_upto_region 1 with fail
 rw [← H1.out]
 go_wp2_with fail
 refine cW.mono ?_
 rintro e w3 ⟨rfl,hb3⟩
 clear cW y0 y1 y2 y3 y4 y5
 have hal3:=bchain b1 hb3
 go_wp2
 go_ret
 exact⟨rfl,hal3⟩
theorem fm_of_ok {o:Bool} {V:Int} {D:Nat}:∀ (n:Nat) (t:Tm) (bv bd:Nat),blk t≤n→okT o V D t bv bd=true→Fm t
 | 0,t,bv,bd,hn,h=>by have:=blk_pos t;omega
 | n+1,t,bv,bd,hn,h=>by
  rw [ok_eq,Bool.and_eq_true] at h
  obtain⟨h1,h2⟩:=h
  rw [List.all_eq_true] at h2
  unfold Tm.node nodeB at h1
  simp only [Bool.and_eq_true] at h1
  obtain⟨⟨⟨⟨⟨_,_⟩,hnum⟩,_⟩,hrow⟩,_⟩:=h1
  rw [fm_eq]
  refine⟨?_,fun hk=>?_,fun x hx=>?_,fun b hb x hx=>?_⟩
  ·unfold numB at hnum
   split at hnum
   ·simp only [Bool.and_eq_true,decide_eq_true_eq] at hnum;exact hnum.1
   ·simp only [decide_eq_true_eq] at hnum;omega
  ·unfold rowB at hrow
   rw [hk,if_neg (by omega),if_neg (by omega)] at hrow
   exact List.length_eq_zero_iff.1 (by simpa using hrow)
  ·obtain⟨i,hi⟩:=List.mem_iff_getElem?.1 hx
   exact fm_of_ok n x _ _ (by have:=blk_kid hx;omega) (h2 _ (pts_kid hi))
  ·exact fm_of_ok n x _ _ (by have:=blk_sub hb hx;omega) (h2 _ (pts_sys hb hx))
theorem fm_of_wrong {t:Tm} (h:wrongN true 0 0 t=0):Fm t:=by
 unfold wrongN at h
 split at h
 ·cases h
 ·split at h
  ·rename_i h2;exact fm_of_ok _ t 0 0 (Nat.le_refl _) h2
  ·cases h
def wrL (ot by_:Int) (t:Tm):Int:=if wrongN true 0 0 t=0 then (if ot<0∨by_<0∨1000000<by_ then 2 else 0) else ((wrongN true 0 0 t:Nat):Int)
theorem lwrong_any (t:Tm) (v:Value) (w:World) (hv:TmIn Tt w t v) (hb:blk t≤20000) (ot by_:Int):Calls Tryz.prog 174 #[v,.int .i64 ot,.int .i64 by_] w fun e w'=>e=.returned (.int .i64 (wrL ot by_ t))∧Below w.heap.size w w':=by
 obtain⟨ra,rc,ka,kc,sa,sc,rfl,ht⟩:=hv.form
 obtain⟨w1,hw1⟩:∃ W,W=w.alloc (.cells #[.int .i64 t.kind,.int .i64 t.n,.string t.name,.slice ra t.r.length rc,.slice ka t.kids.length kc,.slice sa t.sys.length sc] 26):=⟨_,rfl⟩
 have b1:Below w.heap.size w w1:=by rw [hw1];exact belowA _ _
 obtain⟨_,y0,y1,y2,y3,y4,y5⟩:Cs6 w1 w.heap.size 0 t ra rc ka kc sa sc:=by rw [hw1];exact cs6_new w t ra rc ka kc sa sc
 simp only [Nat.zero_add] at y1 y2 y3 y4 y5
 have cc:=formed_any t _ w1 (ht.blw b1).value hb
 have HA:Hid (wrL ot by_ t=if wrongN true 0 0 t=0 then (if ot<0∨by_<0∨1000000<by_ then 2 else 0) else ((wrongN true 0 0 t:Nat):Int)):=(rfl:_=_)
 obtain⟨f,hf⟩:∃ f,f=wrongN true 0 0 t:=⟨_,rfl⟩
 rw [← hf] at cc HA
 have HW:Hid (_=_):=hw1
 clear hw1 hf hv ht
 go_enter Tryz.func174,Tryz.ntmps174
 go_upto_region 1 with fail
 rw [← HW.out]
 clear HW
 go_wp2_with fail
 refine cc.mono ?_
 rintro e w2 ⟨rfl,b2⟩
 have b12:=bchain b1 b2
 clear cc y0 y1 y2 y3 y4 y5
 by_cases h0:f=0
 ·subst h0
  rw [if_pos rfl] at HA
  by_cases h1:ot<0
  ·have HR:Hid (wrL ot by_ t=2):=(by rw [HA.out,if_pos (.inl h1)]:_=_)
   go_wp2_with fail
   go_ret
   exact⟨by rw [HR.out];rfl,b12⟩
  ·by_cases h2:by_<0
   ·have HR:Hid (wrL ot by_ t=2):=(by rw [HA.out,if_pos (.inr (.inl h2))]:_=_)
    go_wp2_with fail
    go_ret
    exact⟨by rw [HR.out];rfl,b12⟩
   ·by_cases h3:1000000<by_
    ·have HR:Hid (wrL ot by_ t=2):=(by rw [HA.out,if_pos (.inr (.inr h3))]:_=_)
     go_wp2_with fail
     go_ret
     exact⟨by rw [HR.out];rfl,b12⟩
    ·have HR:Hid (wrL ot by_ t=0):=(by rw [HA.out,if_neg (by omega)]:_=_)
     go_wp2_with fail
     go_ret
     exact⟨by rw [HR.out];rfl,b12⟩
 ·have HR:Hid (wrL ot by_ t=(f:Int)):=(by rw [HA.out,if_neg h0]:_=_)
  have h01:((f:Int) == 0)=false:=by simp;omega
  have h02:¬ (f:Int)=0:=by omega
  go_wp2_with fail
  go_ret
  exact⟨by rw [HR.out];rfl,b12⟩
def LAll:Prop:=∀ s:Sf,s.ok→∀ N,LfC s N
theorem mem_liK {s:Sf} {k:Int} {l:List Tm} {bv bd:Nat} {y:Tm} (h:y∈liK s k l bv bd):∃ i x,l[i]? = some x∧y=liT s x (bv+bvK k i) (bd+bdK k i):=by
 unfold liK at h
 obtain⟨p,hp,rfl⟩:=List.mem_map.1 h
 exact⟨p.2,p.1,List.mem_zipIdx_iff_getElem?.1 hp,rfl⟩
theorem rowP_nil1 (s:Sf) (bd:Nat):(rowP s bd []).1=[]:=by
 unfold rowP
 split
 ·rfl
 ·have e1:rightF []=true:=by decide
  have e2:leastF []=([],0):=by decide
  simp [liftFF,liftS,e1,e2]
theorem fm_li {s:Sf} (hs:0≤s.vb):∀ (n:Nat) (t:Tm) (bv bd:Nat),blk t≤n→Fm t→Fm (liT s t bv bd)
 | 0,t,bv,bd,hn,h=>by have:=blk_pos t;omega
 | n+1,t,bv,bd,hn,h=>by
  obtain⟨h0,h1,h2,h3⟩:=(fm_eq t).1 h
  rw [li_eq,fm_eq]
  refine⟨?_,fun hk=>?_,fun y hy=>?_,fun b hb y hy=>?_⟩
  ·show 0≤numV s bv t.kind t.n
   unfold numV;split <;> omega
  ·show (rowP s bd t.r).1=[]
   rw [h1 hk];exact rowP_nil1 s bd
  ·obtain⟨i,x,hx,rfl⟩:=mem_liK hy
   have hm:=List.mem_of_getElem? hx
   exact fm_li hs n x _ _ (by have:=blk_kid hm;omega) (h2 x hm)
  ·obtain⟨c,hc,rfl⟩:=List.mem_map.1 hb
   obtain⟨x,hx,rfl⟩:=List.mem_map.1 hy
   exact fm_li hs n x _ _ (by have:=blk_sub hc hx;omega) (h3 c hc x hx)
theorem keepAll_len (l:List C):(lstN l).length≤l.length:=by
 have h1:∀ (c:C) (l:List C),(insC c l).length≤l.length+1:=by
  intro c l
  induction l with
  | nil=>simp [insC]
  | cons d l ih =>
   unfold insC
   split
   ·simp
   ·split
    ·simp
    ·simp;omega
 have h2:∀ l:List C,(ordC l).length≤l.length:=by
  intro l
  induction l with
  | nil=>simp [ordC]
  | cons c l ih=>have:=h1 c (ordC l);show (insC c (ordC l)).length≤_;simp;omega
 have h3:∀ l:List C,(keepAll l).length≤l.length:=fun l=>by
  have:∀ (l a:List C),(l.foldl keep a).length≤a.length+l.length:=by
   intro l
   induction l with
   | nil=>intro a;simp
   | cons c l ih =>
    intro a
    have h1:=ih (keep a c)
    have h2:(keep a c).length≤a.length+1:=by unfold keep;split <;> simp
    show ((l.foldl keep (keep a c))).length≤_
    simp only [List.length_cons]
    omega
  have:=this l []
  unfold keepAll
  simpa using this
 exact Nat.le_trans (h3 _) (h2 l)
theorem leastF_le (l:List C):(leastF l).1.length≤l.length:=by
 unfold leastF
 split
 ·split
  ·exact keepAll_len l
  ·simp
 ·simp
theorem rowP_len (s:Sf) (bd:Nat) (r:List C):(rowP s bd r).1.length≤r.length:=by
 unfold rowP
 split
 ·exact Nat.le_refl _
 ·unfold liftFF
  split
  ·split
   ·exact Nat.le_trans (leastF_le _) (liftS_len r _ _)
   ·simp
  ·simp
theorem rowP_zero {s:Sf} (h:s.db=0) (bd:Nat) (r:List C):rowP s bd r=(r,0):=by unfold rowP;rw [if_pos h]
theorem sum_zip {f:Tm→Nat}:∀ (l:List Tm) (g:Tm × Nat→Tm) (i:Nat),(∀ p∈l.zipIdx i,f (g p)≤f p.1)→((l.zipIdx i).map fun p=>f (g p)).sum≤(l.map f).sum
 | [],g,i,h=>by simp
 | x :: l,g,i,h=>by
  have h1:=h (x,i) (by simp)
  have h2:=sum_zip l g (i+1) (fun p hp=>h p (by simp [hp]))
  simp only [List.zipIdx_cons,List.map_cons,List.sum_cons]
  have h1:f (g (x,i))≤f x:=h1
  omega
theorem blk_li {s:Sf}:∀ (n:Nat) (t:Tm) (bv bd:Nat),blk t≤n→blk (liT s t bv bd)≤blk t
 | 0,t,bv,bd,hn=>by have:=blk_pos t;omega
 | n+1,t,bv,bd,hn=>by
  have e:=blk_eq (liT s t bv bd)
  rw [li_eq] at e
  rw [li_eq,e,blk_eq t]
  have h1:=rowP_len s bd t.r
  have h2:blkL (liK s t.kind t.kids bv bd)≤blkL t.kids:=by
   unfold blkL liK
   rw [List.map_map]
   refine sum_zip t.kids (fun p=>liT s p.1 (bv+bvK t.kind p.2) (bd+bdK t.kind p.2)) 0 (fun p hp=>?_)
   have hm:=List.mem_of_getElem? (List.mem_zipIdx_iff_getElem?.1 hp)
   exact blk_li n p.1 _ _ (by have:=blk_kid hm;omega)
  have h3:blkS (t.sys.map fun b=>liB s t.kind b bv bd)≤blkS t.sys:=by
   unfold blkS
   rw [List.map_map]
   refine sumN_le fun b hb=>?_
   have h4:=rowP_len s bd b.1
   have h5:blkL (b.2.map fun x=>liT s x bv (bd+moreK t.kind))≤blkL b.2:=by
    unfold blkL
    rw [List.map_map]
    exact sumN_le fun x hx=>blk_li n x _ _ (by have:=blk_sub hb hx;omega)
   show 1+(rowP s bd b.1).1.length+blkL (b.2.map fun x=>liT s x bv (bd+moreK t.kind))≤_
   omega
  dsimp only at *
  omega
def bothE (vs ds:Int) (t:Tm):Int:=if wrL ds vs t=0 then (if erT ⟨0,vs,0,0⟩ t 0 0=0 then (if 1000000<ds then 2 else erT ⟨0,0,0,ds⟩ (liT ⟨0,vs,0,0⟩ t 0 0) 0 0) else erT ⟨0,vs,0,0⟩ t 0 0) else wrL ds vs t
def bothT (vs ds:Int) (t:Tm):Tm:=if bothE vs ds t=0 then liT ⟨0,0,0,ds⟩ (liT ⟨0,vs,0,0⟩ t 0 0) 0 0 else zeroT
theorem lboth_any (hLA:LAll) (t:Tm) (v:Value) (w:World) (hv:TmIn Tt w t v) (hb:blk t≤20000) (vs ds:Int) :
  Calls Tryz.prog 130 #[v,.int .i64 vs,.int .i64 ds] w fun e w'=>∃ v',e=.returned (.tuple #[v',.int .i64 (bothE vs ds t)])∧TmIn (OkN w.heap.size w') w' (bothT vs ds t) v'∧Below w.heap.size w w':=by
 obtain⟨ra,rc,ka,kc,sa,sc,rfl,ht⟩:=hv.form
 obtain⟨w1,hw1⟩:∃ W,W=(w.alloc (.cells #[.int .i64 t.kind,.int .i64 t.n,.string t.name,.slice ra t.r.length rc,.slice ka t.kids.length kc,.slice sa t.sys.length sc] 26)).alloc (.cells #[.int .i64 0,.int .i64 0,.string ⟨#[]⟩,.slice none 0 0,.slice none 0 0,.slice none 0 0] 26):=⟨_,rfl⟩
 have b1:Below w.heap.size w w1:=by rw [hw1];exact bchain (belowA _ _) (belowA _ _)
 obtain⟨X,hX⟩:∃ X,X=w.heap.size:=⟨_,rfl⟩
 have s1:w1.heap.size=X+2:=by rw [hw1,hX];simp
 have x1:Six w1 X (.int .i64 t.kind) (.int .i64 t.n) (.string t.name) (.slice ra t.r.length rc) (.slice ka t.kids.length kc) (.slice sa t.sys.length sc):=⟨by rw [hX,hw1];exact (Below.heap_alloc _ _ _ (by simp)).trans (heapNew w _)⟩
 have x2:Six w1 (X+1) (.int .i64 0) (.int .i64 0) (.string ⟨#[]⟩) (.slice none 0 0) (.slice none 0 0) (.slice none 0 0):=⟨by
  rw [hX,hw1];have:=heapNew (w.alloc (.cells #[.int .i64 t.kind,.int .i64 t.n,.string t.name,.slice ra t.r.length rc,.slice ka t.kids.length kc,.slice sa t.sys.length sc] 26)) (.cells #[.int .i64 0,.int .i64 0,.string ⟨#[]⟩,.slice none 0 0,.slice none 0 0,.slice none 0 0] 26);rwa [World.size_alloc] at this⟩
 have HC:Hid (∀ W,Below w1.heap.size w1 W→Six W X (.int .i64 t.kind) (.int .i64 t.n) (.string t.name) (.slice ra t.r.length rc) (.slice ka t.kids.length kc) (.slice sa t.sys.length sc)):=fun W q=>x1.blw q
 have HZ:Hid (∀ W,Below w1.heap.size w1 W→Six W (X+1) (.int .i64 0) (.int .i64 0) (.string ⟨#[]⟩) (.slice none 0 0) (.slice none 0 0) (.slice none 0 0)):=fun W q=>x2.blw q
 have HT:Hid (∀ W,Below w1.heap.size w1 W→TmIn Tt W t (.agg #[.int .i64 t.kind,.int .i64 t.n,.string t.name,.slice ra t.r.length rc,.slice ka t.kids.length kc,.slice sa t.sys.length sc])):=fun W q=>((ht.blw b1).blw q).value
 have HB:Hid (∀ W,Below w1.heap.size w1 W→Below X w W):=fun W q=>by rw [hX];exact bchain b1 q
 have HXs:Hid (X=w.heap.size):=hX
 have Hs1:Hid (w1.heap.size=X+2):=s1
 have HW:Hid (_=_):=hw1
 have cw:=lwrong_any t _ w1 (HT.out w1 (Below.refl _ _)) hb ds vs
 have HE:Hid (bothE vs ds t=if wrL ds vs t=0 then (if erT ⟨0,vs,0,0⟩ t 0 0=0 then (if 1000000<ds then 2 else erT ⟨0,0,0,ds⟩ (liT ⟨0,vs,0,0⟩ t 0 0) 0 0) else erT ⟨0,vs,0,0⟩ t 0 0) else wrL ds vs t):=(rfl:_=_)
 have HTt:Hid (bothT vs ds t=if bothE vs ds t=0 then liT ⟨0,0,0,ds⟩ (liT ⟨0,vs,0,0⟩ t 0 0) 0 0 else zeroT):=(rfl:_=_)
 have HOk:Hid (wrL ds vs t=0→(Sf.mk 0 vs 0 0).ok∧Fm t∧0≤ds∧0≤vs):=fun h=>by
  unfold wrL at h
  split at h
  ·rename_i h1
   split at h
   ·cases h
   ·rename_i h2
    exact⟨by refine⟨?_,?_,?_,?_,?_,?_,?_,?_⟩ <;> dsimp only <;> omega,fm_of_wrong h1,by omega,by omega⟩
  ·omega
 obtain⟨e0,he0⟩:∃ e,e=wrL ds vs t:=⟨_,rfl⟩
 rw [← he0] at cw HE HOk
 clear he0
 rw [← hX]
 clear hw1 hX s1 x1 x2 hv ht b1
 go_enter Tryz.func130,Tryz.ntmps130
 go_upto_region 1 with fail
 rw [← HW.out]
 simp only [← HXs.out]
 clear HW
 obtain⟨y0,y1,y2,y3,y4,y5,_⟩:=(HC.out w1 (Below.refl _ _)).cells
 go_wp2_with fail
 refine cw.mono ?_
 rintro e w2 ⟨rfl,b2⟩
 clear cw y0 y1 y2 y3 y4 y5
 by_cases hz:e0=0
 ·subst hz
  obtain⟨hok,hfm,hds,hvs⟩:=HOk.out rfl
  rw [if_pos rfl] at HE
  have ct:=lterm_any (hLA _ hok) t _ w2 (HT.out w2 b2) hfm (by omega)
  obtain⟨y0,y1,y2,y3,y4,y5,_⟩:=(HC.out w2 b2).cells
  have hfL:Fm (liT ⟨0,vs,0,0⟩ t 0 0):=fm_li (s:=⟨0,vs,0,0⟩) hvs _ t 0 0 (Nat.le_refl _) hfm
  have hbL:blk (liT ⟨0,vs,0,0⟩ t 0 0)≤20000:=Nat.le_trans (blk_li (s:=⟨0,vs,0,0⟩) _ t 0 0 (Nat.le_refl _)) hb
  have HAn:Hid (ansL ⟨0,vs,0,0⟩ t=if erT ⟨0,vs,0,0⟩ t 0 0=0 then liT ⟨0,vs,0,0⟩ t 0 0 else zeroT):=(rfl:_=_)
  obtain⟨er,her⟩:∃ e,e=erT ⟨0,vs,0,0⟩ t 0 0:=⟨_,rfl⟩
  obtain⟨LT,hLT⟩:∃ T,T=liT ⟨0,vs,0,0⟩ t 0 0:=⟨_,rfl⟩
  rw [← her,← hLT] at HE HAn
  rw [← hLT] at HTt hfL hbL
  obtain⟨T,hT⟩:∃ T,T=ansL ⟨0,vs,0,0⟩ t:=⟨_,rfl⟩
  rw [← hT] at ct HAn
  rw [← her] at ct
  dsimp only at ct
  clear her hLT hT HOk hok hfm
  go_wp2_with fail
  refine ct.mono ?_
  rintro e w3 ⟨v3,rfl,hv3,b3⟩
  clear ct y0 y1 y2 y3 y4 y5
  have b23:=bchain b2 b3
  have hsz:=Hs1.out
  have hs2:=b2.size
  have hs3:=b3.size
  obtain⟨ra2,rc2,ka2,kc2,sa2,sc2,rfl,ht2⟩:=hv3.form
  by_cases hr:er=0
  ·subst hr
   rw [if_pos rfl] at HE
   have hTL:T=LT:=by rw [HAn.out,if_pos rfl]
   subst hTL
   obtain⟨x9,hx9⟩:∃ x,x=w3.heap.size:=⟨_,rfl⟩
   obtain⟨w4,hw4⟩:∃ W,W=w3.alloc (.cells #[.int .i64 T.kind,.int .i64 T.n,.string T.name,.slice ra2 T.r.length rc2,.slice ka2 T.kids.length kc2,.slice sa2 T.sys.length sc2] 26):=⟨_,rfl⟩
   have b4:Below w3.heap.size w3 w4:=by rw [hw4];exact belowA _ _
   have n4:Six w4 x9 (.int .i64 T.kind) (.int .i64 T.n) (.string T.name) (.slice ra2 T.r.length rc2) (.slice ka2 T.kids.length kc2) (.slice sa2 T.sys.length sc2):=⟨by rw [hw4,hx9];exact heapNew _ _⟩
   have b24:=bchain b23 b4
   have hv4:TmIn Tt w4 T (.agg #[.int .i64 T.kind,.int .i64 T.n,.string T.name,.slice ra2 T.r.length rc2,.slice ka2 T.kids.length kc2,.slice sa2 T.sys.length sc2]):=((ht2.blw b4).up fun _ _=>trivial).value
   have H4:Hid (_=_):=hw4
   have H9:Hid (x9=w3.heap.size):=hx9
   have hs4:=b4.size
   clear hw4 hx9 ht2 hv3
   go_upto_region 5 with fail
   rw [← H4.out]
   simp only [← H9.out]
   clear H4
   by_cases hd:1000000<ds
   ·have hd1:decide (1000000<ds)=true:=by simpa using hd
    rw [if_pos hd] at HE
    have Hf:Hid (bothE vs ds t=2∧bothT vs ds t=zeroT):=⟨HE.out,by rw [HTt.out,if_neg (by rw [HE.out];omega)]⟩
    clear HE HTt HAn hLA
    have zz:=HZ.out w4 b24
    have zz2:=zz.set6 (.int .i64 0) (.int .i64 0) (.string ⟨#[]⟩) (.slice none 0 0) (.slice none 0 0) (.slice none 0 0)
    obtain⟨o0,o1,o2,o3,o4,o5,ff⟩:=zz.cells
    have f0:=ff 0
    have f1:=ff 1
    have f2:=ff 2
    have f3:=ff 3
    have f4:=ff 4
    have f5:=ff 5
    obtain⟨h0,h1,h2,h3,h4,h5,_⟩:=zz2.cells
    obtain⟨wz,hwz⟩:∃ W,W=(((((w4.setCell ⟨X+1,0,none⟩ (.int .i64 0)).setCell ⟨X+1,1,none⟩ (.int .i64 0)).setCell ⟨X+1,2,none⟩ (.string ⟨#[]⟩)).setCell ⟨X+1,3,none⟩ (.slice none 0 0)).setCell ⟨X+1,4,none⟩ (.slice none 0 0)).setCell ⟨X+1,5,none⟩ (.slice none 0 0):=⟨_,rfl⟩
    rw [← hwz] at h0 h1 h2 h3 h4 h5
    have kz:Kn (fun q=>q≠X+1) w4 wz:=by rw [hwz];exact (((((kn_set _ _ _ _).trans (kn_set _ _ _ _)).trans (kn_set _ _ _ _)).trans (kn_set _ _ _ _)).trans (kn_set _ _ _ _)).trans (kn_set _ _ _ _)
    have bz:Below X w wz:=(HB.out w4 b24).trans (kz.below (fun q hq=>by omega) (by have:=(HB.out w4 b24).size;have:=HXs.out;omega))
    have Hwz:Hid (_=_):=hwz
    clear hwz ff zz zz2 kz
    go_wp2_with fail
    rw [← Hwz.out]
    exact bodyPost_ret (v:=.tuple #[.agg #[.int .i64 0,.int .i64 0,.string ⟨#[]⟩,.slice none 0 0,.slice none 0 0,.slice none 0 0],.int .i64 (2)]) (by simp only [results,Tryz.results130];simp [go_sem,h0,h1,h2,h3,h4,h5]) rfl ⟨_,by rw [Hf.out.1],by rw [Hf.out.2];exact zeroT_in _ _,bz⟩
   ·have hd1:decide (1000000<ds)=false:=by simpa using hd
    rw [if_neg hd] at HE
    have c5:=lterm_any (hLA ⟨0,0,0,ds⟩ (by refine⟨?_,?_,?_,?_,?_,?_,?_,?_⟩ <;> dsimp only <;> omega)) T _ w4 hv4 hfL (by omega)
    have HAn2:Hid (ansL ⟨0,0,0,ds⟩ T=if erT ⟨0,0,0,ds⟩ T 0 0=0 then liT ⟨0,0,0,ds⟩ T 0 0 else zeroT):=(rfl:_=_)
    have Hf0:Hid (bothT vs ds t=ansL ⟨0,0,0,ds⟩ T):=(by rw [HTt.out,HE.out,HAn2.out]:_=_)
    obtain⟨e5,he5⟩:∃ e,e=erT ⟨0,0,0,ds⟩ T 0 0:=⟨_,rfl⟩
    obtain⟨U,hU⟩:∃ U,U=ansL ⟨0,0,0,ds⟩ T:=⟨_,rfl⟩
    rw [← he5,← hU] at c5
    rw [← he5] at HE
    rw [← hU] at Hf0
    dsimp only at c5
    have Hf:Hid (bothE vs ds t=e5∧bothT vs ds t=U):=⟨HE.out,Hf0.out⟩
    clear HE HTt HAn HAn2 Hf0 hLA he5 hU hv4
    obtain⟨y0,y1,y2,y3,y4,y5,_⟩:=n4.cells
    go_wp2_with fail
    refine c5.mono ?_
    rintro e w5 ⟨v5,rfl,hv5,b5⟩
    clear c5 y0 y1 y2 y3 y4 y5
    obtain⟨ra5,rc5,ka5,kc5,sa5,sc5,rfl,ht5⟩:=hv5.form
    have htv:=ht5.value
    have b25:=bchain b24 b5
    clear ht5 hv5
    have zz:=HZ.out w5 b25
    have zz2:=zz.set6 (.int .i64 U.kind) (.int .i64 U.n) (.string U.name) (.slice ra5 U.r.length rc5) (.slice ka5 U.kids.length kc5) (.slice sa5 U.sys.length sc5)
    obtain⟨o0,o1,o2,o3,o4,o5,ff⟩:=zz.cells
    have f0:=ff 0
    have f1:=ff 1
    have f2:=ff 2
    have f3:=ff 3
    have f4:=ff 4
    have f5:=ff 5
    obtain⟨h0,h1,h2,h3,h4,h5,_⟩:=zz2.cells
    obtain⟨wz,hwz⟩:∃ W,W=(((((w5.setCell ⟨X+1,0,none⟩ (.int .i64 U.kind)).setCell ⟨X+1,1,none⟩ (.int .i64 U.n)).setCell ⟨X+1,2,none⟩ (.string U.name)).setCell ⟨X+1,3,none⟩ (.slice ra5 U.r.length rc5)).setCell ⟨X+1,4,none⟩ (.slice ka5 U.kids.length kc5)).setCell ⟨X+1,5,none⟩ (.slice sa5 U.sys.length sc5):=⟨_,rfl⟩
    rw [← hwz] at h0 h1 h2 h3 h4 h5
    have kz:Kn (fun q=>q≠X+1) w5 wz:=by rw [hwz];exact (((((kn_set _ _ _ _).trans (kn_set _ _ _ _)).trans (kn_set _ _ _ _)).trans (kn_set _ _ _ _)).trans (kn_set _ _ _ _)).trans (kn_set _ _ _ _)
    have bz:Below X w wz:=(HB.out w5 b25).trans (kz.below (fun q hq=>by omega) (by have:=(HB.out w5 b25).size;have:=HXs.out;omega))
    have HTm:Hid (TmIn (OkN X wz) wz U (.agg #[.int .i64 U.kind,.int .i64 U.n,.string U.name,.slice ra5 U.r.length rc5,.slice ka5 U.kids.length kc5,.slice sa5 U.sys.length sc5])):=htv.keep kz.size (fun q hq=>(hq.same (kz.block q (by have:=hq.1;omega) hq.lt)).mono (by omega)) (fun q hq hs=>kz.block q (by have:=hq.1;omega) hs)
    have Hwz:Hid (_=_):=hwz
    clear hwz ff zz zz2 kz htv
    go_wp2_with fail
    rw [← Hwz.out]
    exact bodyPost_ret (v:=.tuple #[.agg #[.int .i64 U.kind,.int .i64 U.n,.string U.name,.slice ra5 U.r.length rc5,.slice ka5 U.kids.length kc5,.slice sa5 U.sys.length sc5],.int .i64 (e5)]) (by simp only [results,Tryz.results130];simp [go_sem,h0,h1,h2,h3,h4,h5]) rfl ⟨_,by rw [Hf.out.1],by rw [Hf.out.2];exact HTm.out,bz⟩
  ·rw [if_neg hr] at HE
   have hr1:(er == 0)=false:=by simpa using hr
   have Hf:Hid (bothE vs ds t=er∧bothT vs ds t=zeroT):=⟨HE.out,by rw [HTt.out,if_neg (by rw [HE.out];exact hr)]⟩
   obtain⟨w4,hw4⟩:∃ W,W=w3.alloc (.cells #[.int .i64 T.kind,.int .i64 T.n,.string T.name,.slice ra2 T.r.length rc2,.slice ka2 T.kids.length kc2,.slice sa2 T.sys.length sc2] 26):=⟨_,rfl⟩
   have b4:Below w3.heap.size w3 w4:=by rw [hw4];exact belowA _ _
   have b24:=bchain b23 b4
   have H4:Hid (_=_):=hw4
   clear hw4 ht2 hv3 HE HTt HAn hLA
   go_upto_region 5 with fail
   rw [← H4.out]
   clear H4
   have zz:=HZ.out w4 b24
   have zz2:=zz.set6 (.int .i64 0) (.int .i64 0) (.string ⟨#[]⟩) (.slice none 0 0) (.slice none 0 0) (.slice none 0 0)
   obtain⟨o0,o1,o2,o3,o4,o5,ff⟩:=zz.cells
   have f0:=ff 0
   have f1:=ff 1
   have f2:=ff 2
   have f3:=ff 3
   have f4:=ff 4
   have f5:=ff 5
   obtain⟨h0,h1,h2,h3,h4,h5,_⟩:=zz2.cells
   obtain⟨wz,hwz⟩:∃ W,W=(((((w4.setCell ⟨X+1,0,none⟩ (.int .i64 0)).setCell ⟨X+1,1,none⟩ (.int .i64 0)).setCell ⟨X+1,2,none⟩ (.string ⟨#[]⟩)).setCell ⟨X+1,3,none⟩ (.slice none 0 0)).setCell ⟨X+1,4,none⟩ (.slice none 0 0)).setCell ⟨X+1,5,none⟩ (.slice none 0 0):=⟨_,rfl⟩
   rw [← hwz] at h0 h1 h2 h3 h4 h5
   have kz:Kn (fun q=>q≠X+1) w4 wz:=by rw [hwz];exact (((((kn_set _ _ _ _).trans (kn_set _ _ _ _)).trans (kn_set _ _ _ _)).trans (kn_set _ _ _ _)).trans (kn_set _ _ _ _)).trans (kn_set _ _ _ _)
   have bz:Below X w wz:=(HB.out w4 b24).trans (kz.below (fun q hq=>by omega) (by have:=(HB.out w4 b24).size;have:=HXs.out;omega))
   have Hwz:Hid (_=_):=hwz
   clear hwz ff zz zz2 kz
   go_wp2_with fail
   rw [← Hwz.out]
   exact bodyPost_ret (v:=.tuple #[.agg #[.int .i64 0,.int .i64 0,.string ⟨#[]⟩,.slice none 0 0,.slice none 0 0,.slice none 0 0],.int .i64 (er)]) (by simp only [results,Tryz.results130];simp [go_sem,h0,h1,h2,h3,h4,h5]) rfl ⟨_,by rw [Hf.out.1],by rw [Hf.out.2];exact zeroT_in _ _,bz⟩
 ·rw [if_neg hz] at HE
  have hz1:(e0 == 0)=false:=by simpa using hz
  have hsz:=Hs1.out
  have Hf:Hid (bothE vs ds t=e0∧bothT vs ds t=zeroT):=⟨HE.out,by rw [HTt.out,if_neg (by rw [HE.out];exact hz)]⟩
  clear HE HTt HOk hLA
  have zz:=HZ.out w2 b2
  have zz2:=zz.set6 (.int .i64 0) (.int .i64 0) (.string ⟨#[]⟩) (.slice none 0 0) (.slice none 0 0) (.slice none 0 0)
  obtain⟨o0,o1,o2,o3,o4,o5,ff⟩:=zz.cells
  have f0:=ff 0
  have f1:=ff 1
  have f2:=ff 2
  have f3:=ff 3
  have f4:=ff 4
  have f5:=ff 5
  obtain⟨h0,h1,h2,h3,h4,h5,_⟩:=zz2.cells
  obtain⟨wz,hwz⟩:∃ W,W=(((((w2.setCell ⟨X+1,0,none⟩ (.int .i64 0)).setCell ⟨X+1,1,none⟩ (.int .i64 0)).setCell ⟨X+1,2,none⟩ (.string ⟨#[]⟩)).setCell ⟨X+1,3,none⟩ (.slice none 0 0)).setCell ⟨X+1,4,none⟩ (.slice none 0 0)).setCell ⟨X+1,5,none⟩ (.slice none 0 0):=⟨_,rfl⟩
  rw [← hwz] at h0 h1 h2 h3 h4 h5
  have kz:Kn (fun q=>q≠X+1) w2 wz:=by rw [hwz];exact (((((kn_set _ _ _ _).trans (kn_set _ _ _ _)).trans (kn_set _ _ _ _)).trans (kn_set _ _ _ _)).trans (kn_set _ _ _ _)).trans (kn_set _ _ _ _)
  have bz:Below X w wz:=(HB.out w2 b2).trans (kz.below (fun q hq=>by omega) (by have:=(HB.out w2 b2).size;have:=HXs.out;omega))
  have Hwz:Hid (_=_):=hwz
  clear hwz ff zz zz2 kz
  go_wp2_with fail
  rw [← Hwz.out]
  exact bodyPost_ret (v:=.tuple #[.agg #[.int .i64 0,.int .i64 0,.string ⟨#[]⟩,.slice none 0 0,.slice none 0 0,.slice none 0 0],.int .i64 (e0)]) (by simp only [results,Tryz.results130];simp [go_sem,h0,h1,h2,h3,h4,h5]) rfl ⟨_,by rw [Hf.out.1],by rw [Hf.out.2];exact zeroT_in _ _,bz⟩
def cnP (n:Int):Tm→Nat→Nat:=Tm.fold fun k m _ _ ks sys bv =>
 (if k=1∧m - (bv:Int)=n then 1 else 0) + ((ks.zipIdx.map fun p=>p.1 (bv+bvK k p.2)).sum+(sys.map fun b=>(b.2.map fun f=>f bv).sum).sum)
def cnK (n:Int) (k:Int) (l:List Tm) (bv:Nat):List Nat:=l.zipIdx.map fun p=>cnP n p.1 (bv+bvK k p.2)
def cnL (n:Int) (l:List Tm) (bv:Nat):List Nat:=l.map fun x=>cnP n x bv
theorem cn_eq (n:Int) (t:Tm) (bv:Nat):cnP n t bv=(if t.kind=1∧t.n - (bv:Int)=n then 1 else 0) + ((cnK n t.kind t.kids bv).sum+(t.sys.map fun b=>(cnL n b.2 bv).sum).sum):=by
 unfold cnP
 rw [fold_mk]
 simp only [List.zipIdx_map,List.map_map,Function.comp_def,Prod.map]
 rfl
theorem cnK_len (n:Int) (k:Int) (l:List Tm) (bv:Nat):(cnK n k l bv).length=l.length:=by simp [cnK]
theorem cnK_get {n:Int} {k:Int} {l:List Tm} {bv i:Nat} {x:Tm} (h:l[i]? = some x):(cnK n k l bv)[i]? = some (cnP n x (bv+bvK k i)):=by
 unfold cnK;rw [List.getElem?_map,List.getElem?_zipIdx,h];simp
def Fp:Tm→Prop:=Tm.fold fun k n _ r ks sys=>0≤n∧(k=1→ks=[]∧sys=[])∧(∀ p∈ks,p)∧∀ b∈sys,∀ p∈b.2,p
theorem fp_eq (t:Tm):Fp t↔(0≤t.n∧(t.kind=1→t.kids=[]∧t.sys=[])∧(∀ x∈t.kids,Fp x)∧∀ b∈t.sys,∀ x∈b.2,Fp x):=by
 unfold Fp
 rw [fold_mk]
 simp only [List.mem_map,forall_exists_index,and_imp,forall_apply_eq_imp_iff₂,List.map_eq_nil_iff]
theorem fp_of_ok {o:Bool} {V:Int} {D:Nat}:∀ (n:Nat) (t:Tm) (bv bd:Nat),blk t≤n→okT o V D t bv bd=true→Fp t
 | 0,t,bv,bd,hn,h=>by have:=blk_pos t;omega
 | n+1,t,bv,bd,hn,h=>by
  rw [ok_eq,Bool.and_eq_true] at h
  obtain⟨h1,h2⟩:=h
  rw [List.all_eq_true] at h2
  unfold Tm.node nodeB at h1
  simp only [Bool.and_eq_true] at h1
  obtain⟨⟨⟨⟨⟨_,hk0⟩,hnum⟩,_⟩,hrow⟩,hs0⟩:=h1
  rw [fp_eq]
  refine⟨?_,fun hk=>?_,fun x hx=>?_,fun b hb x hx=>?_⟩
  ·unfold numB at hnum
   split at hnum
   ·simp only [Bool.and_eq_true,decide_eq_true_eq] at hnum;exact hnum.1
   ·simp only [decide_eq_true_eq] at hnum;omega
  ·have ek:kidsK t.kind=0:=by rw [hk];decide
   have ep:partsK t.kind=0:=by rw [hk];decide
   refine⟨?_,?_⟩
   ·have q:(t.kids.length:Int)=kidsK t.kind:=by simpa using hk0
    exact List.length_eq_zero_iff.1 (by omega)
   ·cases hsys:t.sys with
    | nil=>rfl
    | cons b l =>
     rw [hsys] at hs0
     simp only [List.map_cons,List.all_cons,Bool.and_eq_true] at hs0
     have:=hs0.1
     unfold brB at this
     rw [ep] at this
     simp at this
  ·obtain⟨i,hi⟩:=List.mem_iff_getElem?.1 hx
   exact fp_of_ok n x _ _ (by have:=blk_kid hx;omega) (h2 _ (pts_kid hi))
  ·exact fp_of_ok n x _ _ (by have:=blk_sub hb hx;omega) (h2 _ (pts_sys hb hx))
theorem fp_of_wrong {t:Tm} (h:wrongN true 0 0 t=0):Fp t:=by
 unfold wrongN at h
 split at h
 ·cases h
 ·split at h
  ·rename_i h2;exact fp_of_ok _ t 0 0 (Nat.le_refl _) h2
  ·cases h
def pnV (n:Int) (bv:Nat) (k m:Int):Int:=if k=1∧n<m - bv then m - 1 else m
def putT (n:Int) (u:Tm):Tm→Nat→Nat→Tm:=Tm.fold fun k m nm r ks sys bv bd =>
 if k=1∧m - (bv:Int)=n then bothT bv bd u
 else .mk k (pnV n bv k m) nm r (ks.zipIdx.map fun p=>p.1 (bv+bvK k p.2) (bd+bdK k p.2)) (sys.map fun b=>(b.1,b.2.map fun f=>f bv (bd+moreK k)))
def putK (n:Int) (u:Tm) (k:Int) (l:List Tm) (bv bd:Nat):List Tm:=l.zipIdx.map fun p=>putT n u p.1 (bv+bvK k p.2) (bd+bdK k p.2)
def putB (n:Int) (u:Tm) (k:Int) (b:List C × List Tm) (bv bd:Nat):List C × List Tm:=(b.1,b.2.map fun x=>putT n u x bv (bd+moreK k))
theorem put_eq (n:Int) (u t:Tm) (bv bd:Nat):putT n u t bv bd=if t.kind=1∧t.n - (bv:Int)=n then bothT bv bd u else .mk t.kind (pnV n bv t.kind t.n) t.name t.r (putK n u t.kind t.kids bv bd) (t.sys.map fun b=>putB n u t.kind b bv bd):=by
 unfold putT
 rw [fold_mk]
 simp only [List.zipIdx_map,List.map_map,Function.comp_def,Prod.map]
 rfl
def eP (n:Int) (u:Tm):Tm→Nat→Nat→Int:=Tm.fold fun k m nm r ks sys bv bd =>
 if k=1 then (if m - (bv:Int)=n then bothE bv bd u else 0)
 else firstE ((ks.zipIdx.map fun p=>p.1 (bv+bvK k p.2) (bd+bdK k p.2)) ++ sys.map fun b=>firstE (b.2.map fun f=>f bv (bd+moreK k)))
def ePK (n:Int) (u:Tm) (k:Int) (l:List Tm) (bv bd:Nat):List Int:=l.zipIdx.map fun p=>eP n u p.1 (bv+bvK k p.2) (bd+bdK k p.2)
def ePL (n:Int) (u:Tm) (k:Int) (l:List Tm) (bv bd:Nat):List Int:=l.map fun x=>eP n u x bv (bd+moreK k)
theorem eP_eq (n:Int) (u t:Tm) (bv bd:Nat):eP n u t bv bd=if t.kind=1 then (if t.n - (bv:Int)=n then bothE bv bd u else 0) else firstE (ePK n u t.kind t.kids bv bd++t.sys.map fun b=>firstE (ePL n u t.kind b.2 bv bd)):=by
 unfold eP
 rw [fold_mk]
 simp only [List.zipIdx_map,List.map_map,Function.comp_def,Prod.map]
 rfl
theorem putK_len (n:Int) (u:Tm) (k:Int) (l:List Tm) (bv bd:Nat):(putK n u k l bv bd).length=l.length:=by simp [putK]
theorem ePK_len (n:Int) (u:Tm) (k:Int) (l:List Tm) (bv bd:Nat):(ePK n u k l bv bd).length=l.length:=by simp [ePK]
theorem putK_get {n:Int} {u:Tm} {k:Int} {l:List Tm} {bv bd i:Nat} {x:Tm} (h:l[i]? = some x):(putK n u k l bv bd)[i]? = some (putT n u x (bv+bvK k i) (bd+bdK k i)):=by
 unfold putK;rw [List.getElem?_map,List.getElem?_zipIdx,h];simp
theorem ePK_get {n:Int} {u:Tm} {k:Int} {l:List Tm} {bv bd i:Nat} {x:Tm} (h:l[i]? = some x):(ePK n u k l bv bd)[i]? = some (eP n u x (bv+bvK k i) (bd+bdK k i)):=by
 unfold ePK;rw [List.getElem?_map,List.getElem?_zipIdx,h];simp
def plE (n:Int) (t u:Tm):Int :=
 if wrongN true 0 0 t≠0 then wrongN true 0 0 t
 else if wrongN true 0 0 u≠0 then wrongN true 0 0 u
 else if n<0 then 2
 else if 20000<(sizeT t:Int) + cnP n t 0*((sizeT u:Int) - 1) then 221
 else if eP n u t 0 0≠0 then eP n u t 0 0
 else if 200<depthT (putT n u t 0 0) then 62
 else 0
def plT (n:Int) (t u:Tm):Tm:=if plE n t u=0 then putT n u t 0 0 else zeroT
end Go.Proofs.YtblbhmnahoiecaaGreat
