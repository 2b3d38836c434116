/- What is wrong with a term: Right, Formed. -/
import Derived.Test.YtmblbmdchinflaaGreatBYAll
import Derived.Test.YtmblbmdchinflaaGreatBYMeas
set_option linter.unusedVariables false
set_option linter.unusedSimpArgs false
namespace Go.Proofs.YtmblbmdchinflaaGreat
open Go.RowKit
def wrongN (o:Bool) (V:Int) (D:Nat) (t:Tm):Nat:=if 200<depthT t then 62 else if okT o V D t 0 0=true then 0 else 100
theorem box2 (w:World) (V D:Int) (o:Bool) (t:Tm) (ra:Option Addr) (rc:Nat) (ka:Option Addr) (kc:Nat) (sa:Option Addr) (sc:Nat):∃ W,W=(w.alloc (.cells #[.int .i64 V,.int .i64 D,.bool o] 81)).alloc (.cells #[.int .i64 t.kind,.int .i64 t.n,.string t.name,.slice ra t.r.length rc,.slice ka t.kids.length kc,.slice sa t.sys.length sc] 26) ∧
  Below w.heap.size w W∧W.heap.size=w.heap.size+2∧W.heap[w.heap.size]? = some (.cells #[.int .i64 V,.int .i64 D,.bool o] 81 (0,0))∧Cs6 W (w.heap.size+1) 0 t ra rc ka kc sa sc:=by
 refine⟨_,rfl,bchain (belowA _ _) (belowA _ _),by simp,(Below.heap_alloc _ _ _ (by simp)).trans (heapNew w _),?_⟩
 have:=cs6_new (w.alloc (.cells #[.int .i64 V,.int .i64 D,.bool o] 81)) t ra rc ka kc sa sc
 rwa [World.size_alloc] at this
set_option maxRecDepth 100000 in
set_option maxHeartbeats 4000000 in
theorem wrong_any (V:Int) (D:Nat) (o:Bool) (hD:D≤24) (t:Tm) (v:Value) (w:World) (hv:TmIn Tt w t v) (hb:blk t≤20000) :
  Calls Tryz.prog 54 #[.agg #[.int .i64 V,.int .i64 (D:Int),.bool o],v] w fun e w'=>e=.returned (.int .i64 ((wrongN o V D t:Nat):Int))∧Below w.heap.size w w':=by
 have hd:=depth_size t
 have hs:=size_blk t
 obtain⟨ra,rc,ka,kc,sa,sc,rfl,ht⟩:=hv.form
 obtain⟨W,hW,bW,sW,m1,c6⟩:=box2 w V D o t ra rc ka kc sa sc
 have cc:=measure_any t _ 200 W (hv.blw bW) (by omega)
 have ca:Hid (∀ W2,Below W.heap.size W W2→Calls Tryz.prog 102 #[.agg #[.int .i64 V,.int .i64 (D:Int),.bool o],.pointer (some ⟨w.heap.size+1,0,none⟩),.agg #[.int .i64 0,.int .i64 0]] W2 fun e w'=>e=.returned (.bool (okT o V D t 0 0))∧Below W2.heap.size W2 w'):=fun W2 q=>allows_any V D o hD (blk t) t 0 0 (w.heap.size+1) 0 ra rc ka kc sa sc W2 (c6.blw q) (ht.blw (bchain bW q)) (Nat.le_refl _) (by omega) (by omega)
 obtain⟨_,y0,y1,y2,y3,y4,y5⟩:=c6
 simp only [Nat.zero_add] at y1 y2 y3 y4 y5
 have H1:Hid (_=_):=hW
 have HM:Hid (∀ W2,Below W.heap.size W W2→W2.cell? ⟨w.heap.size,0,none⟩=some (.int .i64 V)∧W2.cell? ⟨w.heap.size,1,none⟩=some (.int .i64 (D:Int))∧W2.cell? ⟨w.heap.size,2,none⟩=some (.bool o)):=fun W2 q=>cells3 ((q.block _ (by omega)).trans m1)
 have HR:Hid (wrongN o V D t=if 200<depthT t then 62 else if okT o V D t 0 0=true then 0 else 100):=rfl
 clear hW hv ht m1 sW
 go_enter Tryz.func54,Tryz.ntmps54
 go_upto_region 1 with fail
 rw [← H1.out]
 clear H1
 go_wp2_with fail
 refine cc.mono ?_
 rintro e w2 ⟨⟨N1,D1,rfl,a1,a2,a3,a4⟩,hb2⟩
 have hal:=bchain bW hb2
 clear cc y0 y1 y2 y3 y4 y5
 by_cases hdep:200<depthT t
 ·have h1:(200:Int) < (D1:Int):=a2 (by omega)
  have HE:Hid (wrongN o V D t=62):=by show _=_;rw [HR.out,if_pos hdep]
  clear a1 a2 HR
  go_wp2
  go_ret
  exact⟨retI (by rw [HE.out];rfl),hal⟩
 ·obtain⟨e1,e2⟩:=a1 (by omega)
  have h1:¬ (200:Int) < (D1:Int):=by omega
  have h2:¬ (20000:Int) < (N1:Int):=by omega
  have HE:Hid (wrongN o V D t=if okT o V D t 0 0=true then 0 else 100):=by show _=_;rw [HR.out,if_neg hdep]
  have c2:=ca.out w2 hb2
  obtain⟨x0,x1,x2⟩:=HM.out w2 hb2
  clear a1 a2 e1 e2 HR ca HM
  cases hok:okT o V D t 0 0 with
  | true =>
   rw [hok] at c2 HE
   go_wp2_with fail
   refine c2.mono ?_
   rintro e w3 ⟨rfl,hb3⟩
   clear c2 x0 x1 x2
   have hal3:=bchain hal hb3
   go_wp2
   go_ret
   exact⟨retI (by rw [HE.out];rfl),hal3⟩
  | false =>
   rw [hok] at c2 HE
   go_wp2_with fail
   refine c2.mono ?_
   rintro e w3 ⟨rfl,hb3⟩
   clear c2 x0 x1 x2
   have hal3:=bchain hal hb3
   go_wp2
   go_ret
   exact⟨retI (by rw [HE.out];rfl),hal3⟩
set_option maxRecDepth 100000 in
set_option maxHeartbeats 4000000 in
theorem formed_any (t:Tm) (v:Value) (w:World) (hv:TmIn Tt w t v) (hb:blk t≤20000) :
  Calls Tryz.prog 21 #[v] w fun e w'=>e=.returned (.int .i64 ((wrongN true 0 0 t:Nat):Int))∧Below w.heap.size w w':=by
 obtain⟨ra,rc,ka,kc,sa,sc,rfl,ht⟩:=hv.form
 obtain⟨w1,hw1⟩:∃ w1,w1=w.alloc (.cells #[.int .i64 t.kind,.int .i64 t.n,.string t.name,.slice ra t.r.length rc,.slice ka t.kids.length kc,.slice sa t.sys.length sc] 26):=⟨_,rfl⟩
 have b1:Below w.heap.size w w1:=by rw [hw1];exact belowA _ _
 have c6:Cs6 w1 w.heap.size 0 t ra rc ka kc sa sc:=by rw [hw1];exact cs6_new w t ra rc ka kc sa sc
 have cW:=wrong_any 0 0 true (by omega) t _ w1 (hv.blw b1) hb
 obtain⟨_,y0,y1,y2,y3,y4,y5⟩:=c6
 have H1:Hid (_=_):=hw1
 clear hw1 hv ht
 go_enter Tryz.func21,Tryz.ntmps21
 go_upto_region 1 with fail
 rw [← H1.out]
 go_wp2_with fail
 refine cW.mono ?_
 rintro e w3 ⟨rfl,hb3⟩
 clear cW y0 y1 y2 y3 y4 y5
 have hal3:=bchain b1 hb3
 go_wp2
 go_ret
 exact⟨rfl,hal3⟩
end Go.Proofs.YtmblbmdchinflaaGreat
