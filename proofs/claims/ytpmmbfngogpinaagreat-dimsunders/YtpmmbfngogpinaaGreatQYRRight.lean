/- What is wrong with a term, by the document. -/
import Derived.Test.YtpmmbfngogpinaaGreatQYRAll
import Derived.Test.YtpmmbfngogpinaaGreatQYRight
set_option linter.unusedVariables false
set_option linter.unusedSimpArgs false
namespace Go.Proofs.YtpmmbfngogpinaaGreat
open Go.RowKit
theorem rall_any (o:Bool) (ho:o=true) (V:Int) (D:Nat) (hD:D≤24) (N:Nat):RAlC o V D N:=by
 induction N with
 | zero=>intro t v bv bd VV w hb;have:=blk_pos t;omega
 | succ N ih=>cases o with
  | true=>exact rall_stepT true rfl V D hD N ih
  | false=>cases ho
def sizN (t:Tm):Nat:=if 200<depthT t then 62 else 0
set_option maxRecDepth 100000 in
set_option maxHeartbeats 4000000 in
theorem sized_any (t:Tm) (v:Value) (w:World) (hv:TmIn Tt w t v) (hb:blk t≤20000):Calls Tryz.prog 101 #[v] w fun e w'=>e=.returned (.int .i64 ((sizN t:Nat):Int))∧Below w.heap.size w w':=by
 obtain⟨ra,rc,ka,kc,sa,sc,rfl,ht⟩:=hv.form
 obtain⟨W,hW⟩:∃ W,W=w.alloc (.cells #[.int .i64 t.kind,.int .i64 t.n,.string t.name,.slice ra t.r.length rc,.slice ka t.kids.length kc,.slice sa t.sys.length sc] 26):=⟨_,rfl⟩
 have bW:Below w.heap.size w W:=by rw [hW];exact belowA _ _
 have HC:Hid (Cs6 W w.heap.size 0 t ra rc ka kc sa sc):=by rw [hW];exact cs6_new w t ra rc ka kc sa sc
 have HT:Hid (TmTop Tt W t ra rc ka kc sa sc):=ht.blw bW
 have H1:Hid (_=_):=hW
 clear hW hv ht
 have HR:Hid (sizN t=if 200<depthT t then 62 else 0):=rfl
 go_enter Tryz.func101,Tryz.ntmps101
 go_upto_region 1 with fail
 rw [← H1.out]
 clear H1
 obtain⟨_,y0,y1,y2,y3,y4,y5⟩:=HC.out.blw (Below.refl _ _)
 simp only [Nat.zero_add] at y1 y2 y3 y4 y5
 have c1:=rdepth_any (blk t) t _ W (Nat.le_refl _) (by omega) HT.out.value
 have hs:=size_blk t
 have hds:=depth_size t
 obtain⟨d,hd⟩:∃ d,d=depthT t:=⟨_,rfl⟩
 rw [← hd] at c1 HR hds
 clear hd
 go_wp2_with fail
 refine c1.mono ?_
 rintro e w2 ⟨rfl,b2⟩
 clear c1
 clear y0 y1 y2 y3 y4 y5
 by_cases h200:200<d
 ·have hI:(200:Int) < (d:Int):=by omega
  have HE:Hid (sizN t=62):=by show _=_;rw [HR.out,if_pos h200]
  go_wp2_with fail
  go_ret
  exact⟨retI (by rw [HE.out];rfl),bchain bW b2⟩
 ·have hI:¬ (200:Int) < (d:Int):=by omega
  have HE:Hid (sizN t=0):=by show _=_;rw [HR.out,if_neg h200]
  obtain⟨_,y0,y1,y2,y3,y4,y5⟩:=HC.out.blw (b2)
  simp only [Nat.zero_add] at y1 y2 y3 y4 y5
  have c2:=rsize_any (blk t) t _ w2 (Nat.le_refl _) (by omega) (HT.out.blw b2).value
  obtain⟨s,hse⟩:∃ s,s=sizeT t:=⟨_,rfl⟩
  rw [← hse] at c2 hs
  have hI2:¬ (20000:Int) < (s:Int):=by omega
  clear hse
  go_wp2_with fail
  refine c2.mono ?_
  rintro e w3 ⟨rfl,b3⟩
  clear c2
  clear y0 y1 y2 y3 y4 y5
  go_wp2_with fail
  go_ret
  exact⟨retI (by rw [HE.out];rfl),bchain bW (bchain b2 b3)⟩
set_option maxRecDepth 100000 in
set_option maxHeartbeats 4000000 in
theorem rFormed_any (t:Tm) (v:Value) (w:World) (hv:TmIn Tt w t v) (hb:blk t≤20000):Calls Tryz.prog 50 #[v] w fun e w'=>e=.returned (.int .i64 ((wrongN true 0 0 t:Nat):Int))∧Below w.heap.size w w':=by
 obtain⟨ra,rc,ka,kc,sa,sc,rfl,ht⟩:=hv.form
 obtain⟨W,hW⟩:∃ W,W=w.alloc (.cells #[.int .i64 t.kind,.int .i64 t.n,.string t.name,.slice ra t.r.length rc,.slice ka t.kids.length kc,.slice sa t.sys.length sc] 26):=⟨_,rfl⟩
 have bW:Below w.heap.size w W:=by rw [hW];exact belowA _ _
 have HC:Hid (Cs6 W w.heap.size 0 t ra rc ka kc sa sc):=by rw [hW];exact cs6_new w t ra rc ka kc sa sc
 have HT:Hid (TmTop Tt W t ra rc ka kc sa sc):=ht.blw bW
 have H1:Hid (_=_):=hW
 clear hW hv ht
 go_enter Tryz.func50,Tryz.ntmps50
 go_upto_region 1 with fail
 rw [← H1.out]
 clear H1
 obtain⟨_,y0,y1,y2,y3,y4,y5⟩:=HC.out.blw (Below.refl _ _)
 simp only [Nat.zero_add] at y1 y2 y3 y4 y5
 have c1:=sized_any t _ W HT.out.value hb
 obtain⟨z,hz⟩:∃ z,z=sizN t:=⟨_,rfl⟩
 have HZ:Hid (z=sizN t):=hz
 rw [← hz] at c1
 clear hz
 go_wp2_with fail
 refine c1.mono ?_
 rintro e w2 ⟨rfl,b2⟩
 clear c1
 clear y0 y1 y2 y3 y4 y5
 by_cases h200:200<depthT t
 ·have ez:z=62:=by rw [HZ.out];unfold sizN;rw [if_pos h200]
  have HE:Hid (wrongN true 0 0 t=62):=by show _=_;unfold wrongN;rw [if_pos h200]
  subst ez
  go_wp2_with fail
  go_ret
  exact⟨retI (by rw [HE.out];rfl),bchain bW b2⟩
 ·have ez:z=0:=by rw [HZ.out];unfold sizN;rw [if_neg h200]
  have HE:Hid (wrongN true 0 0 t=if okT true 0 0 t 0 0=true then 0 else 100):=by show _=_;unfold wrongN;rw [if_neg h200]
  subst ez
  obtain⟨_,y0,y1,y2,y3,y4,y5⟩:=HC.out.blw (b2)
  simp only [Nat.zero_add] at y1 y2 y3 y4 y5
  have cc:=rall_any true rfl 0 0 (by omega) (blk t) t _ 0 0 (-1) w2 (Nat.le_refl _) (by omega) (by omega) (by omega) ⟨⟨by decide,by decide⟩,.inl ⟨rfl,by decide⟩⟩ (HT.out.blw b2).value
  obtain⟨k,hk⟩:∃ k,k=okT true 0 0 t 0 0:=⟨_,rfl⟩
  rw [← hk] at cc HE
  clear hk h200
  cases k with
  | false =>
   go_wp2_with fail
   refine cc.mono ?_
   rintro e w3 ⟨rfl,b3⟩
   clear cc
   clear y0 y1 y2 y3 y4 y5
   go_wp2_with fail
   go_ret
   exact⟨retI (by rw [HE.out];rfl),bchain bW (bchain b2 b3)⟩
  | true =>
   go_wp2_with fail
   refine cc.mono ?_
   rintro e w3 ⟨rfl,b3⟩
   clear cc
   clear y0 y1 y2 y3 y4 y5
   go_wp2_with fail
   go_ret
   exact⟨retI (by rw [HE.out];rfl),bchain bW (bchain b2 b3)⟩
end Go.Proofs.YtpmmbfngogpinaaGreat
