/- What is wrong with a term: Right, Formed. -/
import Derived.Test.YtmblbmdchinflaaGreatEYAll
import Derived.Test.YtmblbmdchinflaaGreatEYMeas
import Derived.Test.YtmblbmdchinflaaGreatEG17
import Derived.Deep.Cut
import Derived.Test.YtmblbmdchinflaaGreatEG6
import Derived.Test.YtmblbmdchinflaaGreatEG8
import Derived.Deep.DeepCutAuto
set_option linter.unusedVariables false
set_option linter.unusedSimpArgs false
set_option maxRecDepth 100000
set_option maxHeartbeats 4000000
namespace Go.Proofs.YtmblbmdchinflaaGreat
open Go.RowKit
def wrongN (o:Bool) (V:Int) (D:Nat) (t:Tm):Nat:=if 200<depthT t then 62 else if okT o V D t 0 0=true then 0 else 100
theorem box2 (w:World) (V D:Int) (o:Bool) (t:Tm) (ra:Option Addr) (rc:Nat) (ka:Option Addr) (kc:Nat) (sa:Option Addr) (sc:Nat):∃ W,W=(w.alloc (.cells #[.int .i64 V,.int .i64 D,.bool o] 81)).alloc (.cells #[.int .i64 t.kind,.int .i64 t.n,.string t.name,.slice ra t.r.length rc,.slice ka t.kids.length kc,.slice sa t.sys.length sc] 26) ∧
  Below w.heap.size w W∧W.heap.size=w.heap.size+2∧W.heap[w.heap.size]? = some (.cells #[.int .i64 V,.int .i64 D,.bool o] 81 (0,0))∧Cs6 W (w.heap.size+1) 0 t ra rc ka kc sa sc:=by
 refine⟨_,rfl,bchain (belowA _ _) (belowA _ _),by simp,(Below.heap_alloc _ _ _ (by simp)).trans (heapNew w _),?_⟩
 have:=cs6_new (w.alloc (.cells #[.int .i64 V,.int .i64 D,.bool o] 81)) t ra rc ka kc sa sc
 rwa [World.size_alloc] at this
theorem wrong_any (V:Int) (D:Nat) (o:Bool) (hD:D≤24) (t:Tm) (v:Value) (w:World) (hv:TmIn Tt w t v) (hb:blk t≤20000) :
  Calls Tryz.prog 54 #[.agg #[.int .i64 V,.int .i64 (D:Int),.bool o],v] w fun e w'=>e=.returned (.int .i64 ((wrongN o V D t:Nat):Int))∧Below w.heap.size w w':=by
 have hd:=depth_size t
 have hs:=size_blk t
 obtain⟨ra,rc,ka,kc,sa,sc,rfl,ht⟩:=hv.form
 obtain⟨W,hW,bW,sW,m1,c6⟩:=box2 w V D o t ra rc ka kc sa sc
 have cc:=measure_any t _ 200 W (hv.blw bW) (by omega)
 have ca:Hid (∀ W2,Below W.heap.size W W2→Calls Tryz.prog 102 #[.agg #[.int .i64 V,.int .i64 (D:Int),.bool o],.pointer (some ⟨w.heap.size+1,0,none⟩),.agg #[.int .i64 0,.int .i64 0]] W2 fun e w'=>e=.returned (.bool (okT o V D t 0 0))∧Below W2.heap.size W2 w'):=fun W2 q=>allows_any V D o hD (blk t) t 0 0 (w.heap.size+1) 0 ra rc ka kc sa sc W2 (c6.blw q) (ht.blw (bchain bW q)) (Nat.le_refl _) (by omega) (by omega)
 obtain⟨_,y0,y1,y2,y3,y4,y5⟩:=c6
 simp only [Nat.zero_add] at y1 y2 y3 y4 y5
 have H1:Hid (_=_):=hW
 have HM:Hid (∀ W2,Below W.heap.size W W2→W2.cell? ⟨w.heap.size,0,none⟩=some (.int .i64 V)∧W2.cell? ⟨w.heap.size,1,none⟩=some (.int .i64 (D:Int))∧W2.cell? ⟨w.heap.size,2,none⟩=some (.bool o)):=fun W2 q=>cells3 ((q.block _ (by omega)).trans m1)
 have HR:Hid (wrongN o V D t=if 200<depthT t then 62 else if okT o V D t 0 0=true then 0 else 100):=rfl
 clear hW hv ht m1 sW
 go_enter Tryz.func54,Tryz.ntmps54
 go_upto_region 1 with fail
 rw [← H1.out]
 clear H1
 go_wp2_with fail
 refine cc.mono ?_
 rintro e w2 ⟨⟨N1,D1,rfl,a1,a2,a3,a4⟩,hb2⟩
 have hal:=bchain bW hb2
 clear cc y0 y1 y2 y3 y4 y5
 by_cases hdep:200<depthT t
 ·have h1:(200:Int) < (D1:Int):=a2 (by omega)
  have HE:Hid (wrongN o V D t=62):=by show _=_;rw [HR.out,if_pos hdep]
  clear a1 a2 HR
  go_wp2
  go_ret
  exact⟨retI (by rw [HE.out];rfl),hal⟩
 ·obtain⟨e1,e2⟩:=a1 (by omega)
  have h1:¬ (200:Int) < (D1:Int):=by omega
  have h2:¬ (20000:Int) < (N1:Int):=by omega
  have HE:Hid (wrongN o V D t=if okT o V D t 0 0=true then 0 else 100):=by show _=_;rw [HR.out,if_neg hdep]
  have c2:=ca.out w2 hb2
  obtain⟨x0,x1,x2⟩:=HM.out w2 hb2
  clear a1 a2 e1 e2 HR ca HM
  cases hok:okT o V D t 0 0 with
  | true =>
   rw [hok] at c2 HE
   go_wp2_with fail
   refine c2.mono ?_
   rintro e w3 ⟨rfl,hb3⟩
   clear c2 x0 x1 x2
   have hal3:=bchain hal hb3
   go_wp2
   go_ret
   exact⟨retI (by rw [HE.out];rfl),hal3⟩
  | false =>
   rw [hok] at c2 HE
   go_wp2_with fail
   refine c2.mono ?_
   rintro e w3 ⟨rfl,hb3⟩
   clear c2 x0 x1 x2
   have hal3:=bchain hal hb3
   go_wp2
   go_ret
   exact⟨retI (by rw [HE.out];rfl),hal3⟩
def rightN (V d:Int) (t:Tm):Nat:=if V<0∨d<0∨24<d then 2 else wrongN false V d.toNat t
theorem rightT_any (V d:Int) (t:Tm) (v:Value) (w:World) (hv:TmIn Tt w t v) (hb:blk t≤20000) :
  Calls Tryz.prog 25 #[v,.int .i64 V,.int .i64 d] w fun e w'=>e=.returned (.int .i64 ((rightN V d t:Nat):Int))∧Below w.heap.size w w':=by
 obtain⟨ra,rc,ka,kc,sa,sc,rfl,ht⟩:=hv.form
 obtain⟨w1,hw1⟩:∃ w1,w1=w.alloc (.cells #[.int .i64 t.kind,.int .i64 t.n,.string t.name,.slice ra t.r.length rc,.slice ka t.kids.length kc,.slice sa t.sys.length sc] 26):=⟨_,rfl⟩
 have b1:Below w.heap.size w w1:=by rw [hw1];exact belowA _ _
 have c6:Cs6 w1 w.heap.size 0 t ra rc ka kc sa sc:=by rw [hw1];exact cs6_new w t ra rc ka kc sa sc
 have hv1:=hv.blw b1
 obtain⟨_,y0,y1,y2,y3,y4,y5⟩:=c6
 have H1:Hid (_=_):=hw1
 clear hw1 hv ht
 have HR:Hid (rightN V d t=if V<0∨d<0∨24<d then 2 else wrongN false V d.toNat t):=rfl
 by_cases hbad:V<0∨d<0∨24<d
 ·have HE:Hid (rightN V d t=2):=by show _=_;rw [HR.out,if_pos hbad]
  clear HR y0 y1 y2 y3 y4 y5 hv1
  rcases (show V<0∨(¬ V<0∧d<0)∨(¬ V<0∧¬ d<0∧24<d) by omega) with h|⟨h,h'⟩|⟨h,h',h''⟩
  all_goals
   clear hbad
   go_enter Tryz.func25,Tryz.ntmps25
   go_upto_region 1 with fail
   rw [← H1.out]
   go_wp2
   go_ret
   exact⟨retI (by rw [HE.out];rfl),b1⟩
 ·have HE:Hid (rightN V d t=wrongN false V d.toNat t):=by show _=_;rw [HR.out,if_neg hbad]
  have h1:¬ V<0:=by omega
  have h2:¬ d<0:=by omega
  have h3:¬ 24<d:=by omega
  have cW:=wrong_any V d.toNat false (by omega) t _ w1 hv1 hb
  rw [show ((d.toNat:Nat):Int)=d by omega] at cW
  clear HR hv1 hbad
  go_enter Tryz.func25,Tryz.ntmps25
  go_upto_region 1 with fail
  rw [← H1.out]
  go_wp2_with fail
  refine cW.mono ?_
  rintro e w3 ⟨rfl,hb3⟩
  clear cW y0 y1 y2 y3 y4 y5
  have hal3:=bchain b1 hb3
  go_wp2
  go_ret
  exact⟨retI (by rw [HE.out]),hal3⟩
theorem formed_any (t:Tm) (v:Value) (w:World) (hv:TmIn Tt w t v) (hb:blk t≤20000) :
  Calls Tryz.prog 21 #[v] w fun e w'=>e=.returned (.int .i64 ((wrongN true 0 0 t:Nat):Int))∧Below w.heap.size w w':=by
 obtain⟨ra,rc,ka,kc,sa,sc,rfl,ht⟩:=hv.form
 obtain⟨w1,hw1⟩:∃ w1,w1=w.alloc (.cells #[.int .i64 t.kind,.int .i64 t.n,.string t.name,.slice ra t.r.length rc,.slice ka t.kids.length kc,.slice sa t.sys.length sc] 26):=⟨_,rfl⟩
 have b1:Below w.heap.size w w1:=by rw [hw1];exact belowA _ _
 have c6:Cs6 w1 w.heap.size 0 t ra rc ka kc sa sc:=by rw [hw1];exact cs6_new w t ra rc ka kc sa sc
 have cW:=wrong_any 0 0 true (by omega) t _ w1 (hv.blw b1) hb
 obtain⟨_,y0,y1,y2,y3,y4,y5⟩:=c6
 have H1:Hid (_=_):=hw1
 clear hw1 hv ht
 go_enter Tryz.func21,Tryz.ntmps21
 go_upto_region 1 with fail
 rw [← H1.out]
 go_wp2_with fail
 refine cW.mono ?_
 rintro e w3 ⟨rfl,hb3⟩
 clear cW y0 y1 y2 y3 y4 y5
 have hal3:=bchain b1 hb3
 go_wp2
 go_ret
 exact⟨rfl,hal3⟩
def dimF (i:Int):List C × Int:=if isDimB i then ([posB i.toNat],0) else ([],2)
theorem dim_any (i:Int) (w:World):Calls Tryz.prog 75 #[.int .i64 i] w fun e w'=>∃ v,e=.returned (.tuple #[v,.int .i64 (dimF i).2])∧OwnsC w' w.heap.size v (dimF i).1∧Below w.heap.size w w':=by
 have hH:=has_all i w
 cases hd:isDimB i
 ·have H:Hid (dimF i=([],2)):=by unfold dimF;exact if_neg (by simp [hd])
  rw [hd] at hH
  go_enter Tryz.func75,Tryz.ntmps75
  go_wp2_with (go_at_call 83;refine hH.mono ?_;rintro e w' ⟨rfl,rfl⟩)
  go_ret2
  rw [H.out]
  exact⟨_,rfl,World.ownsRow_nil _ _ _ _,Below.refl _ _⟩
 ·have H:Hid (dimF i=([posB i.toNat],0)):=by unfold dimF;exact if_pos hd
  rw [hd] at hH
  have hi:0≤i∧i<24:=by simpa [isDimB] using hd
  obtain⟨k,rfl⟩:∃ k:Nat,i=(k:Int):=⟨i.toNat,by omega⟩
  have hk:k<24:=by omega
  have hW:=with0 k hk w
  rw [Int.toNat_natCast] at H
  clear hd hi
  go_enter Tryz.func75,Tryz.ntmps75
  go_wp2_with (first
   | (go_at_call 83;refine hH.mono ?_;rintro e w1 ⟨rfl,hw1⟩;subst hw1)
   | (go_at_call 123;refine hW.mono ?_;rintro e w2 ⟨rfl,hw2⟩;subst hw2))
  go_ret2
  rw [H.out]
  exact⟨_,rfl,own_one1 _ (posB k) _ (Nat.le_refl _),below_alloc _ _⟩
def wrD (i:Int) (r:List C) (t:Tm):Int:=if wrongN true 0 0 t=0 then (if isDimB i=true∧rightF r=true then 0 else 2) else ((wrongN true 0 0 t:Nat):Int)
theorem wrD_ok {i:Int} {r:List C} {t:Tm} (h:wrD i r t=0):(0≤i∧i<24)∧rightF r=true∧wrongN true 0 0 t=0:=by
 unfold wrD at h
 split at h
 ·rename_i h1
  split at h
  ·rename_i h2;exact⟨by simpa [isDimB] using h2.1,h2.2,h1⟩
  ·cases h
 ·omega
theorem dwrong_any (t:Tm) (v:Value) (w:World) (hv:TmIn Tt w t v) (hb:blk t≤20000) (i:Int) (r:List C) (vr:Value) (hr:ClRow Tt w r vr) (hrl:r.length≤40000):Calls Tryz.prog 42 #[v,.int .i64 i,vr] w fun e w'=>e=.returned (.int .i64 (wrD i r t))∧Below w.heap.size w w':=by
 obtain⟨ra,rc,ka,kc,sa,sc,rfl,ht⟩:=hv.form
 obtain⟨w1,hw1⟩:∃ W,W=w.alloc (.cells #[.int .i64 t.kind,.int .i64 t.n,.string t.name,.slice ra t.r.length rc,.slice ka t.kids.length kc,.slice sa t.sys.length sc] 26):=⟨_,rfl⟩
 have b1:Below w.heap.size w w1:=by rw [hw1];exact belowA _ _
 obtain⟨_,y0,y1,y2,y3,y4,y5⟩:Cs6 w1 w.heap.size 0 t ra rc ka kc sa sc:=by rw [hw1];exact cs6_new w t ra rc ka kc sa sc
 simp only [Nat.zero_add] at y1 y2 y3 y4 y5
 have cc:=formed_any t _ w1 (ht.blw b1).value hb
 have HA:Hid (wrD i r t=if wrongN true 0 0 t=0 then (if isDimB i=true∧rightF r=true then 0 else 2) else ((wrongN true 0 0 t:Nat):Int)):=(rfl:_=_)
 obtain⟨f,hf⟩:∃ f,f=wrongN true 0 0 t:=⟨_,rfl⟩
 rw [← hf] at cc HA
 have HW:Hid (_=_):=hw1
 have Hr:Hid (∀ V,Below w.heap.size w V→FRow V vr r):=fun V q=>(hr.blw q).frow
 obtain⟨va,vc,rfl,_⟩:=id hr
 obtain⟨LR,hLR⟩:∃ L,L=r.length:=⟨_,rfl⟩
 rw [← hLR] at Hr
 simp only [← hLR]
 have HLR:Hid (r.length≤100000):=(by omega:_≤_)
 have HB1:Hid (Below w.heap.size w w1):=b1
 have HD:Hid ((dimF i).2=if isDimB i then 0 else 2):=(by unfold dimF;split <;> rfl:_=_)
 clear hw1 hf hv ht hr hLR
 go_enter Tryz.func42,Tryz.ntmps42
 go_upto_region 1 with fail
 rw [← HW.out]
 clear HW
 go_wp2_with fail
 refine cc.mono ?_
 rintro e w2 ⟨rfl,b2⟩
 have b12:=bchain b1 b2
 clear cc y0 y1 y2 y3 y4 y5
 by_cases h0:f=0
 ·subst h0
  have cd:=dim_any i w2
  rw [if_pos rfl] at HA
  go_wp2_with fail
  refine cd.mono ?_
  rintro e w3 ⟨v3,rfl,hO3,b3⟩
  clear cd
  obtain⟨a3,c3,rfl⟩:=OwnsC.len hO3
  rw [HD.out]
  generalize (dimF i).1.length=L3
  have b13:=bchain b12 b3
  cases hi:isDimB i
  ·have Hz:Hid (wrD i r t=2):=(by rw [HA.out,hi];exact if_neg (by simp):_=_)
   simp only [Bool.false_eq_true,if_false]
   go_wp2_with fail
   go_ret
   exact⟨by rw [Hz.out];rfl,b13⟩
  ·have cr:=fright_any r _ w3 (Hr.out w3 b13) HLR.out
   simp only [if_true]
   cases hq:rightF r
   ·have Hz:Hid (wrD i r t=2):=(by rw [HA.out,hi,hq];exact if_neg (by simp):_=_)
    rw [hq] at cr
    go_wp2_with fail
    refine cr.mono ?_
    rintro e w4 ⟨rfl,b4⟩
    have b14:=bchain b13 b4
    clear cr
    go_wp2_with fail
    go_ret
    exact⟨by rw [Hz.out];rfl,b14⟩
   ·have Hz:Hid (wrD i r t=0):=(by rw [HA.out,hi,hq];exact if_pos ⟨rfl,rfl⟩:_=_)
    rw [hq] at cr
    go_wp2_with fail
    refine cr.mono ?_
    rintro e w4 ⟨rfl,b4⟩
    have b14:=bchain b13 b4
    clear cr
    go_wp2_with fail
    go_ret
    exact⟨by rw [Hz.out];rfl,b14⟩
 ·have h1:((f:Int) == 0)=false:=by simp;omega
  have Hz:Hid (wrD i r t=(f:Int)):=(by rw [HA.out,if_neg h0]:_=_)
  go_wp2_with fail
  go_ret
  exact⟨by rw [Hz.out];rfl,b12⟩
theorem keepD {n X ob:Nat} {w4 w5:World} {T:Tm} {v:Value} (h:TmIn (OkN n w4) w4 T v) (hk:Kn (fun q=>q≠ob) w4 w5) (ho:ob<n) (hX:X≤n):TmIn (OkN X w5) w5 T v :=
 h.keep hk.size (fun q hq=>(hq.same (hk.block q (by have:=hq.1;omega) hq.lt)).mono (by omega)) (fun q hq hs=>hk.block q (by have:=hq.1;omega) hs)
def capT:Tm→Nat:=Tm.fold fun _ _ s r ks sys=>1+max r.length 64+s.size+ks.sum+(sys.map fun b=>1+max b.1.length 64+b.2.sum).sum
def capL (l:List Tm):Nat:=(l.map capT).sum
def capS (l:List (List C × List Tm)):Nat:=(l.map fun b=>1+max b.1.length 64+capL b.2).sum
theorem cap_eq (t:Tm):capT t=1+max t.r.length 64+t.name.size+capL t.kids+capS t.sys:=by
 unfold capT;rw [fold_mk];simp only [List.map_map,Function.comp_def];rfl
def DOp.len64 (o:DOp):Prop:=∀ l bd,(o.fn l bd).1.length≤max l.length 64∧(o.fc l bd).1.length≤max l.length 64
theorem capK_le {o:DOp} {k:Int} {bd:Nat}:∀ (l:List Tm) (k0:Nat),(∀ x∈l,∀ d,capT (dT o x d)≤capT x)→((l.zipIdx k0).map fun p=>capT (dT o p.1 (bd+bdK k p.2))).sum≤(l.map capT).sum
 | [],_,_=>by simp
 | x :: l,k0,h=>by
  have h1:=h x (by simp) (bd+bdK k k0)
  have h2:=capK_le (o:=o) (k:=k) (bd:=bd) l (k0+1) (fun y hy=>h y (List.mem_cons_of_mem _ hy))
  simp only [List.zipIdx_cons,List.map_cons,List.sum_cons]
  omega
theorem capM_le {o:DOp} {d:Nat}:∀ (l:List Tm),(∀ x∈l,∀ d,capT (dT o x d)≤capT x)→capL (l.map fun x=>dT o x d)≤capL l
 | [],_=>by simp [capL]
 | x :: l,h=>by
  have h1:=h x (by simp) d
  have h2:=capM_le (o:=o) (d:=d) l (fun y hy=>h y (List.mem_cons_of_mem _ hy))
  unfold capL at h2 ⊢
  simp only [List.map_cons,List.sum_cons]
  omega
theorem capB_le {o:DOp} (ho:o.len64) {k:Int} {bd:Nat}:∀ (l:List (List C × List Tm)),(∀ b∈l,∀ x∈b.2,∀ d,capT (dT o x d)≤capT x)→capS (dS o k l bd)≤capS l
 | [],_=>by simp [capS,dS]
 | b :: l,h=>by
  have h2:=capB_le ho (k:=k) (bd:=bd) l (fun y hy=>h y (List.mem_cons_of_mem _ hy))
  have h1:=(ho b.1 bd).2
  have h3:=capM_le (o:=o) (d:=bd+moreK k) b.2 (h b (by simp))
  have e:capS (b :: l)=(1+max b.1.length 64+capL b.2) + capS l:=by simp [capS]
  rw [e]
  unfold dS at h2 ⊢
  rw [List.filter_cons]
  split
  ·have e2:∀ m,capS (dB o k b bd :: m)=(1+max (o.fc b.1 bd).1.length 64+capL (b.2.map fun x=>dT o x (bd+moreK k))) + capS m:=fun m=>by simp [capS,dB]
   rw [List.map_cons,e2]
   omega
  ·omega
theorem cap_d {o:DOp} (ho:o.len64):∀ (n:Nat) (t:Tm) (bd:Nat),blk t≤n→capT (dT o t bd)≤capT t
 | 0,t,bd,hn=>by have:=blk_pos t;omega
 | n+1,t,bd,hn=>by
  have h1:(ownP o t.kind t.r bd).1.length≤max t.r.length 64:=by
   unfold ownP
   split
   ·exact (ho _ _).2
   ·exact (ho _ _).1
  have h2:capL (dK o t.kind t.kids bd)≤capL t.kids:=by
   have:=capK_le (o:=o) (k:=t.kind) (bd:=bd) t.kids 0 (fun x hx d=>cap_d ho n x d (by have:=blk_kid hx;omega))
   unfold capL dK
   rw [List.map_map]
   exact this
  have h3:=capB_le ho (k:=t.kind) (bd:=bd) t.sys (fun b hb x hx d=>cap_d ho n x d (by have:=blk_sub hb hx;omega))
  have e:=cap_eq (dT o t bd)
  rw [d_eq o t bd] at e ⊢
  rw [e,cap_eq t]
  show 1+max (ownP o t.kind t.r bd).1.length 64+t.name.size+capL (dK o t.kind t.kids bd) + capS (dS o t.kind t.sys bd)≤_
  omega
theorem cap_dT {o:DOp} (ho:o.len64) (t:Tm) (bd:Nat):capT (dT o t bd)≤capT t:=cap_d ho _ t bd (Nat.le_refl _)
theorem capL_ge:∀ (l:List Tm),(∀ x∈l,blk x≤capT x∧capT x≤65*blk x)→blkL l≤capL l∧capL l≤65*blkL l
 | [],_=>by simp [capL,blkL]
 | x :: l,h=>by
  have h1:=h x (by simp)
  have h2:=capL_ge l (fun y hy=>h y (List.mem_cons_of_mem _ hy))
  unfold capL blkL at h2 ⊢
  simp only [List.map_cons,List.sum_cons]
  omega
theorem capS_ge:∀ (l:List (List C × List Tm)),(∀ b∈l,∀ x∈b.2,blk x≤capT x∧capT x≤65*blk x)→blkS l≤capS l∧capS l≤65*blkS l
 | [],_=>by simp [capS,blkS]
 | b :: l,h=>by
  have h1:=capL_ge b.2 (h b (by simp))
  have h2:=capS_ge l (fun y hy=>h y (List.mem_cons_of_mem _ hy))
  unfold capS blkS at h2 ⊢
  simp only [List.map_cons,List.sum_cons]
  omega
theorem cap_ge':∀ (n:Nat) (t:Tm),blk t≤n→blk t≤capT t∧capT t≤65*blk t
 | 0,t,hn=>by have:=blk_pos t;omega
 | n+1,t,hn=>by
  have h2:=capL_ge t.kids (fun x hx=>cap_ge' n x (by have:=blk_kid hx;omega))
  have h3:=capS_ge t.sys (fun b hb x hx=>cap_ge' n x (by have:=blk_sub hb hx;omega))
  rw [cap_eq,blk_eq]
  omega
theorem cap_ge (t:Tm):blk t≤capT t∧capT t≤65*blk t:=cap_ge' _ t (Nat.le_refl _)
theorem noT_cap:capT noT≤65:=by
 rw [cap_eq]
 simp [noT,capL,capS]
 exact Nat.le_refl 65
theorem putOp_len (i:Int) (r:List C):(putOp i r).len64:=fun l bd=>by
 refine⟨?_,?_⟩ <;> (show (putRow _ i r l bd).1.length≤_;unfold putRow;split)
 ·split
  ·have:=putF_len l (i+bd) (liftFF r 0 bd).1;omega
  ·simp
 ·simp;omega
 ·split
  ·have:=rightA_len (ptA_right l (i+bd) (liftFF r 0 bd).1);omega
  ·simp
 ·simp;omega
theorem dropOp_len (i:Int):(dropOp i).len64:=fun l bd=>by
 refine⟨?_,?_⟩ <;> (show (l.map (drC (i+bd))).length≤_;simp;omega)
theorem cap_ans {o:DOp} (ho:o.len64) (t:Tm):capT (ansD o t)≤capT t:=by
 unfold ansD
 split
 ·exact cap_dT ho t 0
 ·have h1:=noT_cap
  have h2:65≤capT t:=by rw [cap_eq];omega
  omega
theorem toList_eq {a b:ByteArray} (h:a.toList=b.toList):a=b:=by
 rw [Lib.toList_data,Lib.toList_data] at h
 obtain⟨⟨x⟩⟩:=a
 obtain⟨⟨y⟩⟩:=b
 simp at h;rw [h]
theorem strNe {a b:ByteArray} (h:¬ a=b):(a.toList == b.toList)=false:=by
 rw [Bool.eq_false_iff];intro e;exact h (toList_eq (eq_of_beq e))
theorem copy_N (N:Nat) (hN:N≤100000):CpC N:=by
 induction N with
 | zero=>intro t v w _ h;have:=blk_pos t;omega
 | succ N ih=>exact copy_step N hN (become_step N (by omega) (ih (by omega))) (becomeB_step N (by omega) (copyBranch_step N (by omega) (become_step N (by omega) (ih (by omega)))))
theorem boxT2 (w:World) (t u:Tm) (ra:Option Addr) (rc:Nat) (ka:Option Addr) (kc:Nat) (sa:Option Addr) (sc:Nat) (ra':Option Addr) (rc':Nat) (ka':Option Addr) (kc':Nat) (sa':Option Addr) (sc':Nat) :
  ∃ W,W=(w.alloc (.cells #[.int .i64 t.kind,.int .i64 t.n,.string t.name,.slice ra t.r.length rc,.slice ka t.kids.length kc,.slice sa t.sys.length sc] 26)).alloc (.cells #[.int .i64 u.kind,.int .i64 u.n,.string u.name,.slice ra' u.r.length rc',.slice ka' u.kids.length kc',.slice sa' u.sys.length sc'] 26) ∧
   Below w.heap.size w W∧Cs6 W w.heap.size 0 t ra rc ka kc sa sc∧Cs6 W (w.heap.size+1) 0 u ra' rc' ka' kc' sa' sc':=by
 refine⟨_,rfl,bchain (belowA _ _) (belowA _ _),(cs6_new w t ra rc ka kc sa sc).blw (belowA _ _),?_⟩
 have:=cs6_new (w.alloc (.cells #[.int .i64 t.kind,.int .i64 t.n,.string t.name,.slice ra t.r.length rc,.slice ka t.kids.length kc,.slice sa t.sys.length sc] 26)) u ra' rc' ka' kc' sa' sc'
 rwa [World.size_alloc] at this
theorem copy_any (t:Tm) (v:Value) (w:World) (hv:TmIn Tt w t v) (hb:blk t≤100000) :
  Calls Tryz.prog 57 #[v] w fun e w'=>∃ v',e=.returned v'∧TmIn (OkN w.heap.size w') w' t v'∧Below w.heap.size w w':=copy_N 100000 (Nat.le_refl _) t v w hv hb
theorem mt_top' {c:C} (h:rightC c=true) (hk:okC c=true):mtR [c] [top0]=([c],0):=by
 have e:meetC c top0=c:=by
  have h1:=fright_bits h
  refine c_bits (fun k=>?_) (fun k=>?_)
  ·rw [(meet_bits c top0 k).1];rw [← (h1 k).1];simp [top0]
  ·rw [(meet_bits c top0 k).2];rw [← (h1 k).2];simp [top0]
 have e2:calmC (pairsC [c] [top0])=[c]:=by simp [pairsC,calmC,e,hk]
 unfold mtR;rw [e2];exact leastF_one h
theorem mt_nil' (l:List C):mtR l []=([],0):=by
 have e2:calmC (pairsC l [])=[]:=by simp [pairsC,calmC]
 unfold mtR;rw [e2];decide
theorem least_more {A B:List C} (hA:A.all rightC=true) (hB:B.all rightC=true) (h0:(leastF A).2=0):leastF ((leastF A).1++B)=leastF (A++B):=by
 refine leastF_ext (by rw [List.all_append,leastF_all,hB];rfl) (by rw [List.all_append,hA,hB];rfl) (fun c _=>?_)
 rw [dn_append,dn_append,leastF_dn h0]
theorem all_mem {l:List C} (h:∀ c∈l,rightC c=true):l.all rightC=true:=List.all_eq_true.2 h
theorem rst_app (f g:List C) (p:C):rstL (f++g) p=rstL f p++rstL g p:=by simp [rstL]
theorem rst_right' {f:List C} (h:∀ c∈f,rightC c=true) (p:C):∀ c∈rstL f p,rightC c=true:=fun x hx=>by
 obtain⟨a,ha,_,rfl⟩:=mem_rst.1 hx
 exact cut_right (h a ha)
theorem cut_one {c:C} {i:Nat} (hi:i<24) (hr:rightC c=true) (hk:okC c=true) (h:c.2.val.testBit i=false):cutC (posB i) c=outC c (i:Int):=by
 have h1:=fright_bits hr
 refine c_bits (fun k=>?_) (fun k=>?_)
 ·rw [(cut_bits _ c k).1,(out_bits c i k hi).1,(posB_bits i k hi).1]
  have:=(h1 k).1
  by_cases hik:i=k
  ·subst hik;simp_all
  ·simp_all
 ·rw [(cut_bits _ c k).2,(out_bits c i k hi).2,(posB_bits i k hi).2]
  have:=(h1 k).2
  by_cases hik:i=k
  ·subst hik;simp_all
  ·simp_all
theorem with_one {c:C} {i:Nat} (hi:i<24) (hk:okC c=true):withC (posB i) c = !c.2.val.testBit i:=by
 unfold withC
 rw [Bool.eq_iff_iff,meet_ok,Bool.not_eq_true']
 constructor
 ·intro h
  have:=h i hi
  rw [(posB_bits i i hi).1,(posB_bits i i hi).2] at this
  simpa using this
 ·intro h k hk24
  have h2:=okC_iff.1 hk k hk24
  rw [(posB_bits i k hi).1,(posB_bits i k hi).2]
  by_cases hik:i=k
  ·subst hik;simp [h]
  ·simp [hik];simpa using h2
theorem rst1_one {c:C} {i:Nat} (hi:i<24) (hr:rightC c=true) (hk:okC c=true):rstL [c] (posB i)=if c.2.val.testBit i then [] else [outC c (i:Int)]:=by
 unfold rstL
 rw [List.filter_cons,with_one hi hk]
 cases h:c.2.val.testBit i
 ·simp [cut_one hi hr hk h]
 ·simp
theorem prt_one {c:C} {i:Nat} (hi:i<24) (hk:okC c=true):prtA c (i:Int) [top0] ([],0)=(if c.2.val.testBit i then [] else [outC c (i:Int)],0):=by
 have h0:=okC_iff.1 hk i hi
 have hB1:hasB c.1.val (i:Int)=c.1.val.testBit i:=hasB_nat hi
 have hB2:hasB c.2.val (i:Int)=c.2.val.testBit i:=hasB_nat hi
 unfold prtA
 rw [hB1,hB2]
 cases h1:c.1.val.testBit i <;> cases h2:c.2.val.testBit i
 ·simp
 ·simp [mt_nil']
 ·simp [mt_top' (out_right c i) (out_ok hk)]
 ·exact absurd ⟨h1,h2⟩ h0
theorem pts_one {i:Nat} (hi:i<24) (f:List C):(∀ c∈f,rightC c=true∧okC c=true)→f.length≤64→ptS f (i:Int) [top0] ([],0)=leastF (rstL f (posB i)):=by
 induction f using snoc_ind with
 | nil=>intro _ _;simp only [ptS,List.foldl_nil,rstL,List.filter_nil,List.map_nil];decide
 | snoc f c ih =>
  intro h hl
  have hf:∀ x∈f,rightC x=true∧okC x=true:=fun x hx=>h x (List.mem_append_left _ hx)
  obtain⟨hr,hk⟩:=h c (by simp)
  have hl2:f.length≤64:=by simp at hl;omega
  have hA:(rstL f (posB i)).all rightC=true:=all_mem (rst_right' (fun x hx=>(hf x hx).1) _)
  have h0:(leastF (rstL f (posB i))).2=0:=least_small hA (Nat.le_trans (rst_len f _) hl2)
  rw [ptS_snoc,ih hf hl2]
  have e:=leastF_pair h0
  rw [e,stpA_some,prt_one hi hk,if_pos rfl,rst_app,rst1_one hi hr hk,least_more hA (all_mem (fun x hx=>?_)) h0]
  split at hx
  ·cases hx
  ·rw [List.mem_singleton.1 hx];exact out_right c i
theorem put_one {i:Nat} (hi:i<24) {f:List C} (hf:rightA f=true):putRow ptA (i:Int) [top0] f 0=rstA f (posB i):=by
 have hs:singleC (posB i)=true:=singleC_iff.2 ⟨posB_right i,okC_iff.2 (fun k _ h=>by rw [(posB_bits i k hi).1,(posB_bits i k hi).2] at h;simp at h)⟩
 have hR:rstA f (posB i)=leastF (rstL f (posB i)):=by unfold rstA;rw [hf,hs];rfl
 have hall:∀ c∈f,rightC c=true∧okC c=true:=fun c hc=>⟨List.all_eq_true.1 (rightF_all (rightA_right hf)) c hc,rightA_ok hf c hc⟩
 have e0:((i:Int) + ((0:Nat):Int))=(i:Int):=by omega
 unfold putRow
 rw [e0]
 cases hh:hasB (dimsN f) (i:Int)
 ·rw [if_neg (by simp),hR]
  rw [hasB_nat hi,dimsN_bit] at hh
  have hno:∀ c∈f,c.1.val.testBit i=false∧c.2.val.testBit i=false:=fun c hc=>by
   simp only [hi,decide_true,Bool.true_and] at hh
   have:=List.any_eq_false.1 hh c hc
   simpa using this
  have e:rstL f (posB i)=f:=by
   unfold rstL
   rw [List.filter_eq_self.2 (fun c hc=>by rw [with_one hi (hall c hc).2,(hno c hc).2];rfl)]
   conv=>rhs;rw [← List.map_id f]
   refine List.map_congr_left (fun c hc=>?_)
   rw [cut_one hi (hall c hc).1 (hall c hc).2 (hno c hc).2]
   have h1:=fright_bits (hall c hc).1
   refine c_bits (fun k=>?_) (fun k=>?_)
   ·rw [(out_bits c i k hi).1]
    have:=(h1 k).1
    by_cases hik:i=k
    ·subst hik;simp [(hno c hc).1]
    ·simp_all
   ·rw [(out_bits c i k hi).2]
    have:=(h1 k).2
    by_cases hik:i=k
    ·subst hik;simp [(hno c hc).2]
    ·simp_all
  rw [e,rightF_eq (rightA_right hf)]
 ·rw [if_pos rfl]
  have eL:liftFF [top0] 0 ((0:Nat):Int)=([top0],0):=by decide
  rw [eL,if_pos rfl]
  show ptA f (i:Int) [top0]=_
  have hd:isDimB (i:Int)=true:=isDimB_nat hi
  have hq:rightF [top0]=true:=by decide
  unfold ptA
  rw [hf,hd,hq]
  have e1:(ofF [top0]).1=[top0]:=by decide
  have e2:ofZ [top0]=([],0):=by decide
  rw [e1,e2,hR]
  exact pts_one hi f hall (rightA_len hf)
theorem cut_nil {c:C} {i:Nat} (hi:i<24) (hr:rightC c=true) (hk:okC c=true) (h:c.1.val.testBit i=false):cutC (negB i) c=outC c (i:Int):=by
 have h1:=fright_bits hr
 refine c_bits (fun k=>?_) (fun k=>?_)
 ·rw [(cut_bits _ c k).1,(out_bits c i k hi).1,(negB_bits i k hi).1]
  have:=(h1 k).1
  by_cases hik:i=k
  ·subst hik;simp_all
  ·simp_all
 ·rw [(cut_bits _ c k).2,(out_bits c i k hi).2,(negB_bits i k hi).2]
  have:=(h1 k).2
  by_cases hik:i=k
  ·subst hik;simp_all
  ·simp_all
theorem with_nil {c:C} {i:Nat} (hi:i<24) (hk:okC c=true):withC (negB i) c = !c.1.val.testBit i:=by
 unfold withC
 rw [Bool.eq_iff_iff,meet_ok,Bool.not_eq_true']
 constructor
 ·intro h
  have:=h i hi
  rw [(negB_bits i i hi).1,(negB_bits i i hi).2] at this
  simpa using this
 ·intro h k hk24
  have h2:=okC_iff.1 hk k hk24
  rw [(negB_bits i k hi).1,(negB_bits i k hi).2]
  by_cases hik:i=k
  ·subst hik;simp [h]
  ·simp [hik];simpa using h2
theorem rst1_nil {c:C} {i:Nat} (hi:i<24) (hr:rightC c=true) (hk:okC c=true):rstL [c] (negB i)=if c.1.val.testBit i then [] else [outC c (i:Int)]:=by
 unfold rstL
 rw [List.filter_cons,with_nil hi hk]
 cases h:c.1.val.testBit i
 ·simp [cut_nil hi hr hk h]
 ·simp
theorem prt_nil {c:C} {i:Nat} (hi:i<24) (hk:okC c=true):prtA c (i:Int) [] ([top0],0)=(if c.1.val.testBit i then [] else [outC c (i:Int)],0):=by
 have h0:=okC_iff.1 hk i hi
 have hB1:hasB c.1.val (i:Int)=c.1.val.testBit i:=hasB_nat hi
 have hB2:hasB c.2.val (i:Int)=c.2.val.testBit i:=hasB_nat hi
 unfold prtA
 rw [hB1,hB2]
 cases h1:c.1.val.testBit i <;> cases h2:c.2.val.testBit i
 ·simp
 ·simp [mt_top' (out_right c i) (out_ok hk)]
 ·simp [mt_nil']
 ·exact absurd ⟨h1,h2⟩ h0
theorem pts_nil {i:Nat} (hi:i<24) (f:List C):(∀ c∈f,rightC c=true∧okC c=true)→f.length≤64→ptS f (i:Int) [] ([top0],0)=leastF (rstL f (negB i)):=by
 induction f using snoc_ind with
 | nil=>intro _ _;simp only [ptS,List.foldl_nil,rstL,List.filter_nil,List.map_nil];decide
 | snoc f c ih =>
  intro h hl
  have hf:∀ x∈f,rightC x=true∧okC x=true:=fun x hx=>h x (List.mem_append_left _ hx)
  obtain⟨hr,hk⟩:=h c (by simp)
  have hl2:f.length≤64:=by simp at hl;omega
  have hA:(rstL f (negB i)).all rightC=true:=all_mem (rst_right' (fun x hx=>(hf x hx).1) _)
  have h0:(leastF (rstL f (negB i))).2=0:=least_small hA (Nat.le_trans (rst_len f _) hl2)
  rw [ptS_snoc,ih hf hl2]
  have e:=leastF_pair h0
  rw [e,stpA_some,prt_nil hi hk,if_pos rfl,rst_app,rst1_nil hi hr hk,least_more hA (all_mem (fun x hx=>?_)) h0]
  split at hx
  ·cases hx
  ·rw [List.mem_singleton.1 hx];exact out_right c i
theorem put_nil {i:Nat} (hi:i<24) {f:List C} (hf:rightA f=true):putRow ptA (i:Int) [] f 0=rstA f (negB i):=by
 have hs:singleC (negB i)=true:=singleC_iff.2 ⟨negB_right i,okC_iff.2 (fun k _ h=>by rw [(negB_bits i k hi).1,(negB_bits i k hi).2] at h;simp at h)⟩
 have hR:rstA f (negB i)=leastF (rstL f (negB i)):=by unfold rstA;rw [hf,hs];rfl
 have hall:∀ c∈f,rightC c=true∧okC c=true:=fun c hc=>⟨List.all_eq_true.1 (rightF_all (rightA_right hf)) c hc,rightA_ok hf c hc⟩
 have e0:((i:Int) + ((0:Nat):Int))=(i:Int):=by omega
 unfold putRow
 rw [e0]
 cases hh:hasB (dimsN f) (i:Int)
 ·rw [if_neg (by simp),hR]
  rw [hasB_nat hi,dimsN_bit] at hh
  have hno:∀ c∈f,c.1.val.testBit i=false∧c.2.val.testBit i=false:=fun c hc=>by
   simp only [hi,decide_true,Bool.true_and] at hh
   have:=List.any_eq_false.1 hh c hc
   simpa using this
  have e:rstL f (negB i)=f:=by
   unfold rstL
   rw [List.filter_eq_self.2 (fun c hc=>by rw [with_nil hi (hall c hc).2,(hno c hc).1];rfl)]
   conv=>rhs;rw [← List.map_id f]
   refine List.map_congr_left (fun c hc=>?_)
   rw [cut_nil hi (hall c hc).1 (hall c hc).2 (hno c hc).1]
   have h1:=fright_bits (hall c hc).1
   refine c_bits (fun k=>?_) (fun k=>?_)
   ·rw [(out_bits c i k hi).1]
    have:=(h1 k).1
    by_cases hik:i=k
    ·subst hik;simp [(hno c hc).1]
    ·simp_all
   ·rw [(out_bits c i k hi).2]
    have:=(h1 k).2
    by_cases hik:i=k
    ·subst hik;simp [(hno c hc).2]
    ·simp_all
  rw [e,rightF_eq (rightA_right hf)]
 ·rw [if_pos rfl]
  have eL:liftFF [] 0 ((0:Nat):Int)=([],0):=by decide
  rw [eL,if_pos rfl]
  show ptA f (i:Int) []=_
  have hd:isDimB (i:Int)=true:=isDimB_nat hi
  have hq:rightF []=true:=by decide
  unfold ptA
  rw [hf,hd,hq]
  have e1:(ofF []).1=[]:=by decide
  have e2:ofZ []=([top0],0):=by decide
  rw [e1,e2,hR]
  exact pts_nil hi f hall (rightA_len hf)
def Rf (c:C) (f:List C):List C:=(rstA f c).1
structure DStp where
 i:Nat
 r:List C
 p:C
def DStp.ok (s:DStp):Prop:=s.i<24∧((s.r=[top0]∧s.p=posB s.i)∨(s.r=[]∧s.p=negB s.i))
theorem DStp.put {s:DStp} (h:s.ok) {f:List C} (hf:rightA f=true):(putRow ptA (s.i:Int) s.r f 0).1=Rf s.p f:=by
 obtain⟨hi,⟨hr,hp⟩ | ⟨hr,hp⟩⟩:=h
 ·rw [hr,hp,put_one hi hf];rfl
 ·rw [hr,hp,put_nil hi hf];rfl
end Go.Proofs.YtmblbmdchinflaaGreat
