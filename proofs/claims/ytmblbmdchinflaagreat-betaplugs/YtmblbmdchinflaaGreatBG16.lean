/- Same and Copy, to their ends. -/
import Derived.Test.YtmblbmdchinflaaGreatBFMA
import Derived.Test.YtmblbmdchinflaaGreatBG6
import Derived.Test.YtmblbmdchinflaaGreatBG15
import Derived.Test.YtmblbmdchinflaaGreatBYRight
import Derived.Test.YtmblbmdchinflaaGreatBMA
set_option linter.unusedVariables false
set_option linter.unusedSimpArgs false
namespace Go.Proofs.YtmblbmdchinflaaGreat
open Go.RowKit
theorem copy_N (N:Nat) (hN:N≤100000):CpC N:=by
 induction N with
 | zero=>intro t v w _ h;have:=blk_pos t;omega
 | succ N ih=>exact copy_step N hN (become_step N (by omega) (ih (by omega))) (becomeB_step N (by omega) (copyBranch_step N (by omega) (become_step N (by omega) (ih (by omega)))))
theorem boxT2 (w:World) (t u:Tm) (ra:Option Addr) (rc:Nat) (ka:Option Addr) (kc:Nat) (sa:Option Addr) (sc:Nat) (ra':Option Addr) (rc':Nat) (ka':Option Addr) (kc':Nat) (sa':Option Addr) (sc':Nat) :
  ∃ W,W=(w.alloc (.cells #[.int .i64 t.kind,.int .i64 t.n,.string t.name,.slice ra t.r.length rc,.slice ka t.kids.length kc,.slice sa t.sys.length sc] 26)).alloc (.cells #[.int .i64 u.kind,.int .i64 u.n,.string u.name,.slice ra' u.r.length rc',.slice ka' u.kids.length kc',.slice sa' u.sys.length sc'] 26) ∧
   Below w.heap.size w W∧Cs6 W w.heap.size 0 t ra rc ka kc sa sc∧Cs6 W (w.heap.size+1) 0 u ra' rc' ka' kc' sa' sc':=by
 refine⟨_,rfl,bchain (belowA _ _) (belowA _ _),(cs6_new w t ra rc ka kc sa sc).blw (belowA _ _),?_⟩
 have:=cs6_new (w.alloc (.cells #[.int .i64 t.kind,.int .i64 t.n,.string t.name,.slice ra t.r.length rc,.slice ka t.kids.length kc,.slice sa t.sys.length sc] 26)) u ra' rc' ka' kc' sa' sc'
 rwa [World.size_alloc] at this
theorem copy_any (t:Tm) (v:Value) (w:World) (hv:TmIn Tt w t v) (hb:blk t≤100000) :
  Calls Tryz.prog 57 #[v] w fun e w'=>∃ v',e=.returned v'∧TmIn (OkN w.heap.size w') w' t v'∧Below w.heap.size w w':=copy_N 100000 (Nat.le_refl _) t v w hv hb
end Go.Proofs.YtmblbmdchinflaaGreat
set_option linter.unusedVariables false
set_option linter.unusedSimpArgs false
namespace Go.Proofs.YtmblbmdchinflaaGreat
open Go.RowKit
def mkT (k:Int) (l:List Tm):Tm:=.mk k 0 ⟨#[]⟩ [] l []
theorem kd_two {ok:Nat→Prop} {w:World} {o:Nat} {ty:TypeId} {x y:Tm} {u0 u1 u2 u3 u4 u5 v0 v1 v2 v3 v4 v5:Value} (h:w.heap[o]? = some (.cells #[u0,u1,u2,u3,u4,u5,v0,v1,v2,v3,v4,v5] ty (0,0))) (ho:ok o) (hx:TmIn ok w x (.agg #[u0,u1,u2,u3,u4,u5])) (hy:TmIn ok w y (.agg #[v0,v1,v2,v3,v4,v5])) :
  KdT ok w (TmIn ok w) [x,y] (.slice (some ⟨o,0,none⟩) 2 2):=by
 have hlt:=(Array.getElem?_eq_some_iff.1 h).1
 refine⟨_,_,rfl,Nat.le_refl _,fun j z hz=>?_⟩
 match j,hz with
 | 0,hz=>cases hz;exact⟨o,0,u0,u1,u2,u3,u4,u5,rfl,ho,hlt,hx,by simp [World.cell?,h],by simp [World.cell?,h],by simp [World.cell?,h],by simp [World.cell?,h],by simp [World.cell?,h],by simp [World.cell?,h]⟩
 | 1,hz=>cases hz;exact⟨o,0,v0,v1,v2,v3,v4,v5,rfl,ho,hlt,hy,by simp [World.cell?,h],by simp [World.cell?,h],by simp [World.cell?,h],by simp [World.cell?,h],by simp [World.cell?,h],by simp [World.cell?,h]⟩
 | (j+2),hz=>simp at hz
theorem kd_one {ok:Nat→Prop} {w:World} {o:Nat} {ty:TypeId} {x:Tm} {u0 u1 u2 u3 u4 u5:Value} (h:w.heap[o]? = some (.cells #[u0,u1,u2,u3,u4,u5] ty (0,0))) (ho:ok o) (hx:TmIn ok w x (.agg #[u0,u1,u2,u3,u4,u5])) :
  KdT ok w (TmIn ok w) [x] (.slice (some ⟨o,0,none⟩) 1 1):=by
 have hlt:=(Array.getElem?_eq_some_iff.1 h).1
 refine⟨_,_,rfl,Nat.le_refl _,fun j z hz=>?_⟩
 match j,hz with
 | 0,hz=>cases hz;exact⟨o,0,u0,u1,u2,u3,u4,u5,rfl,ho,hlt,hx,by simp [World.cell?,h],by simp [World.cell?,h],by simp [World.cell?,h],by simp [World.cell?,h],by simp [World.cell?,h],by simp [World.cell?,h]⟩
 | (j+1),hz=>simp at hz
theorem kd_three {ok:Nat→Prop} {w:World} {o:Nat} {ty:TypeId} {x y z:Tm} {u0 u1 u2 u3 u4 u5 v0 v1 v2 v3 v4 v5 x0 x1 x2 x3 x4 x5:Value} (h:w.heap[o]? = some (.cells #[u0,u1,u2,u3,u4,u5,v0,v1,v2,v3,v4,v5,x0,x1,x2,x3,x4,x5] ty (0,0))) (ho:ok o) (hx:TmIn ok w x (.agg #[u0,u1,u2,u3,u4,u5])) (hy:TmIn ok w y (.agg #[v0,v1,v2,v3,v4,v5])) (hz':TmIn ok w z (.agg #[x0,x1,x2,x3,x4,x5])) :
  KdT ok w (TmIn ok w) [x,y,z] (.slice (some ⟨o,0,none⟩) 3 3):=by
 have hlt:=(Array.getElem?_eq_some_iff.1 h).1
 refine⟨_,_,rfl,Nat.le_refl _,fun j q hz=>?_⟩
 match j,hz with
 | 0,hz=>cases hz;exact⟨o,0,u0,u1,u2,u3,u4,u5,rfl,ho,hlt,hx,by simp [World.cell?,h],by simp [World.cell?,h],by simp [World.cell?,h],by simp [World.cell?,h],by simp [World.cell?,h],by simp [World.cell?,h]⟩
 | 1,hz=>cases hz;exact⟨o,0,v0,v1,v2,v3,v4,v5,rfl,ho,hlt,hy,by simp [World.cell?,h],by simp [World.cell?,h],by simp [World.cell?,h],by simp [World.cell?,h],by simp [World.cell?,h],by simp [World.cell?,h]⟩
 | 2,hz=>cases hz;exact⟨o,0,x0,x1,x2,x3,x4,x5,rfl,ho,hlt,hz',by simp [World.cell?,h],by simp [World.cell?,h],by simp [World.cell?,h],by simp [World.cell?,h],by simp [World.cell?,h],by simp [World.cell?,h]⟩
 | (j+3),hz=>simp at hz
end Go.Proofs.YtmblbmdchinflaaGreat
set_option linter.unusedVariables false
set_option linter.unusedSimpArgs false
namespace Go.Proofs.YtmblbmdchinflaaGreat
open Go.RowKit
set_option maxRecDepth 100000 in
set_option maxHeartbeats 4000000 in
theorem of16_any (k:Int) (a:Option Addr) (n c:Nat) (w:World) :
  Calls Tryz.prog 23 #[.int .i64 k,.slice a n c] w fun e w'=>e=.returned (.agg #[.int .i64 k,.int .i64 0,.string ⟨#[]⟩,.slice none 0 0,.slice a n c,.slice none 0 0])∧Below w.heap.size w w':=by
 obtain⟨w1,hw1⟩:∃ W,W=w.alloc (.cells #[.int .i64 0,.int .i64 0,.string ⟨#[]⟩,.slice none 0 0,.slice none 0 0,.slice none 0 0] 26):=⟨_,rfl⟩
 have b1:Below w.heap.size w w1:=by rw [hw1];exact belowA _ _
 obtain⟨X,hX⟩:∃ X,X=w.heap.size:=⟨_,rfl⟩
 have s1:w1.heap.size=X+1:=by rw [hw1,hX];simp
 have x1:Six w1 (X) (.int .i64 0) (.int .i64 0) (.string ⟨#[]⟩) (.slice none 0 0) (.slice none 0 0) (.slice none 0 0):=⟨by
  rw [hX,hw1]
  have q:=heapNew w (.cells #[.int .i64 0,.int .i64 0,.string ⟨#[]⟩,.slice none 0 0,.slice none 0 0,.slice none 0 0] 26)
  try simp only [World.size_alloc] at q
  exact q⟩
 have HW:Hid (_=_):=hw1
 have HX:Hid (X=w.heap.size):=hX
 have Hb1:Hid (Below w.heap.size w w1):=b1
 clear hw1 hX b1
 go_enter Tryz.func23,Tryz.ntmps23
 go_upto_region 1 with fail
 rw [← HW.out]
 simp only [← HX.out]
 clear HW
 have zz:=x1
 have zz2:=zz.set6 (.int .i64 k) (.int .i64 0) (.string ⟨#[]⟩) (.slice none 0 0) (.slice a n c) (.slice none 0 0)
 obtain⟨o0,o1,o2,o3,o4,o5,ff⟩:=zz.cells
 have f0:=ff 0
 have f1:=ff 1
 have f2:=ff 2
 have f3:=ff 3
 have f4:=ff 4
 have f5:=ff 5
 obtain⟨w4,hwz⟩:∃ W,W=(((((w1.setCell ⟨X,0,none⟩ (.int .i64 k)).setCell ⟨X,1,none⟩ (.int .i64 0)).setCell ⟨X,2,none⟩ (.string ⟨#[]⟩)).setCell ⟨X,3,none⟩ (.slice none 0 0)).setCell ⟨X,4,none⟩ (.slice a n c)).setCell ⟨X,5,none⟩ (.slice none 0 0):=⟨_,rfl⟩
 rw [← hwz] at zz2
 have kz:Kn (fun q=>q≠X) w1 w4:=by rw [hwz];exact kn_set66 _ _ _ _ _ _ _ _
 have hK4:Below w.heap.size w w4:=Hb1.out.trans (kz.below (fun q hq=>by have:=HX.out;omega) (by have:=Hb1.out.size;omega))
 obtain⟨h0,h1,h2,h3,h4,h5,_⟩:=zz2.cells
 have Hwz:Hid (_=_):=hwz
 clear hwz ff kz zz zz2
 go_wp2_with fail
 rw [← Hwz.out]
 exact bodyPost_ret (v:=.agg #[.int .i64 k,.int .i64 0,.string ⟨#[]⟩,.slice none 0 0,.slice a n c,.slice none 0 0]) (by simp only [results,Tryz.results23];simp [go_sem,h0,h1,h2,h3,h4,h5]) rfl ⟨rfl,hK4⟩
set_option maxRecDepth 100000 in
set_option maxHeartbeats 4000000 in
theorem wrong_anyB (V:Int) (D:Nat) (o:Bool) (hD:D≤24) (t:Tm) (v:Value) (w:World) (hv:TmIn Tt w t v) (hb:blk t≤50000) (hsz:sizeT t≤20000) :
  Calls Tryz.prog 54 #[.agg #[.int .i64 V,.int .i64 (D:Int),.bool o],v] w fun e w'=>e=.returned (.int .i64 ((wrongN o V D t:Nat):Int))∧Below w.heap.size w w':=by
 have hd:=depth_size t
 have hs:=size_blk t
 obtain⟨ra,rc,ka,kc,sa,sc,rfl,ht⟩:=hv.form
 obtain⟨W,hW,bW,sW,m1,c6⟩:=box2 w V D o t ra rc ka kc sa sc
 have cc:=measure_any t _ 200 W (hv.blw bW) (by omega)
 have ca:Hid (∀ W2,Below W.heap.size W W2→Calls Tryz.prog 102 #[.agg #[.int .i64 V,.int .i64 (D:Int),.bool o],.pointer (some ⟨w.heap.size+1,0,none⟩),.agg #[.int .i64 0,.int .i64 0]] W2 fun e w'=>e=.returned (.bool (okT o V D t 0 0))∧Below W2.heap.size W2 w'):=fun W2 q=>allows_any V D o hD (blk t) t 0 0 (w.heap.size+1) 0 ra rc ka kc sa sc W2 (c6.blw q) (ht.blw (bchain bW q)) (Nat.le_refl _) (by omega) (by omega)
 obtain⟨_,y0,y1,y2,y3,y4,y5⟩:=c6
 simp only [Nat.zero_add] at y1 y2 y3 y4 y5
 have H1:Hid (_=_):=hW
 have HM:Hid (∀ W2,Below W.heap.size W W2→W2.cell? ⟨w.heap.size,0,none⟩=some (.int .i64 V)∧W2.cell? ⟨w.heap.size,1,none⟩=some (.int .i64 (D:Int))∧W2.cell? ⟨w.heap.size,2,none⟩=some (.bool o)):=fun W2 q=>cells3 ((q.block _ (by omega)).trans m1)
 have HR:Hid (wrongN o V D t=if 200<depthT t then 62 else if okT o V D t 0 0=true then 0 else 100):=rfl
 clear hW hv ht m1 sW
 go_enter Tryz.func54,Tryz.ntmps54
 go_upto_region 1 with fail
 rw [← H1.out]
 clear H1
 go_wp2_with fail
 refine cc.mono ?_
 rintro e w2 ⟨⟨N1,D1,rfl,a1,a2,a3,a4⟩,hb2⟩
 have hal:=bchain bW hb2
 clear cc y0 y1 y2 y3 y4 y5
 by_cases hdep:200<depthT t
 ·have h1:(200:Int) < (D1:Int):=a2 (by omega)
  have HE:Hid (wrongN o V D t=62):=by show _=_;rw [HR.out,if_pos hdep]
  clear a1 a2 HR
  go_wp2
  go_ret
  exact⟨retI (by rw [HE.out];rfl),hal⟩
 ·obtain⟨e1,e2⟩:=a1 (by omega)
  have h1:¬ (200:Int) < (D1:Int):=by omega
  have h2:¬ (20000:Int) < (N1:Int):=by omega
  have HE:Hid (wrongN o V D t=if okT o V D t 0 0=true then 0 else 100):=by show _=_;rw [HR.out,if_neg hdep]
  have c2:=ca.out w2 hb2
  obtain⟨x0,x1,x2⟩:=HM.out w2 hb2
  clear a1 a2 e1 e2 HR ca HM
  cases hok:okT o V D t 0 0 with
  | true =>
   rw [hok] at c2 HE
   go_wp2_with fail
   refine c2.mono ?_
   rintro e w3 ⟨rfl,hb3⟩
   clear c2 x0 x1 x2
   have hal3:=bchain hal hb3
   go_wp2
   go_ret
   exact⟨retI (by rw [HE.out];rfl),hal3⟩
  | false =>
   rw [hok] at c2 HE
   go_wp2_with fail
   refine c2.mono ?_
   rintro e w3 ⟨rfl,hb3⟩
   clear c2 x0 x1 x2
   have hal3:=bchain hal hb3
   go_wp2
   go_ret
   exact⟨retI (by rw [HE.out];rfl),hal3⟩
set_option maxRecDepth 100000 in
set_option maxHeartbeats 4000000 in
theorem formed_anyB (t:Tm) (v:Value) (w:World) (hv:TmIn Tt w t v) (hb:blk t≤50000) (hsz:sizeT t≤20000) :
  Calls Tryz.prog 21 #[v] w fun e w'=>e=.returned (.int .i64 ((wrongN true 0 0 t:Nat):Int))∧Below w.heap.size w w':=by
 obtain⟨ra,rc,ka,kc,sa,sc,rfl,ht⟩:=hv.form
 obtain⟨w1,hw1⟩:∃ w1,w1=w.alloc (.cells #[.int .i64 t.kind,.int .i64 t.n,.string t.name,.slice ra t.r.length rc,.slice ka t.kids.length kc,.slice sa t.sys.length sc] 26):=⟨_,rfl⟩
 have b1:Below w.heap.size w w1:=by rw [hw1];exact belowA _ _
 have c6:Cs6 w1 w.heap.size 0 t ra rc ka kc sa sc:=by rw [hw1];exact cs6_new w t ra rc ka kc sa sc
 have cW:=wrong_anyB 0 0 true (by omega) t _ w1 (hv.blw b1) hb hsz
 obtain⟨_,y0,y1,y2,y3,y4,y5⟩:=c6
 have H1:Hid (_=_):=hw1
 clear hw1 hv ht
 go_enter Tryz.func21,Tryz.ntmps21
 go_upto_region 1 with fail
 rw [← H1.out]
 go_wp2_with fail
 refine cW.mono ?_
 rintro e w3 ⟨rfl,hb3⟩
 clear cW y0 y1 y2 y3 y4 y5
 have hal3:=bchain b1 hb3
 go_wp2
 go_ret
 exact⟨rfl,hal3⟩
theorem when_any (b:Bool) (k:Int) (w:World):Calls Tryz.prog 103 #[.bool b,.int .i64 k] w fun e w'=>e=.returned (.int .i64 (if b=true then k else 0))∧Below w.heap.size w w':=by
 have hB:Below w.heap.size w w:=Below.refl _ _
 cases b
 ·go_enter Tryz.func103,Tryz.ntmps103
  go_wp2_with fail
  go_ret
  exact⟨rfl,hB⟩
 ·go_enter Tryz.func103,Tryz.ntmps103
  go_wp2_with fail
  go_ret
  exact⟨rfl,hB⟩
theorem kn_lt {n:Nat} {w w1:World} (h:Below n w w1):Kn (fun q=>q<n) w w1:=⟨h.os,h.tape,h.output,h.size,fun k hk _=>h.block k hk⟩
end Go.Proofs.YtmblbmdchinflaaGreat
