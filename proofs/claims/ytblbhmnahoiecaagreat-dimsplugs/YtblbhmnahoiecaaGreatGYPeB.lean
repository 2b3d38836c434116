/- The closure that puts a term in a variable's place, at one variable: the whole. -/
import Derived.Test.YtblbhmnahoiecaaGreatGG17
set_option linter.unusedVariables false
set_option linter.unusedSimpArgs false
set_option maxRecDepth 100000
set_option maxHeartbeats 4000000
namespace Go.Proofs.YtblbhmnahoiecaaGreat
open Go.RowKit
theorem set6_at {w:World} {g off M:Nat} {ty:TypeId} (h:BlkC w g ty M) (hM:off+6≤M) (u0 u1 u2 u3 u4 u5:Value) (lo hi:Nat) :
  Chg w ((((((w.setCell ⟨g,off,none⟩ u0).setCell ⟨g,off+1,none⟩ u1).setCell ⟨g,off+2,none⟩ u2).setCell ⟨g,off+3,none⟩ u3).setCell ⟨g,off+4,none⟩ u4).setCell ⟨g,off+5,none⟩ u5) g off lo hi ∧
  (∀ j,((((((w.setCell ⟨g,off,none⟩ u0).setCell ⟨g,off+1,none⟩ u1).setCell ⟨g,off+2,none⟩ u2).setCell ⟨g,off+3,none⟩ u3).setCell ⟨g,off+4,none⟩ u4).setCell ⟨g,off+5,none⟩ u5).cell? ⟨g,j,none⟩=if j=off+5 then some u5 else if j=off+4 then some u4 else if j=off+3 then some u3 else if j=off+2 then some u2 else if j=off+1 then some u1 else if j=off then some u0 else w.cell? ⟨g,j,none⟩):=by
 have h0:=h.set off u0
 have h1:=h0.set (off+1) u1
 have h2:=h1.set (off+2) u2
 have h3:=h2.set (off+3) u3
 have h4:=h3.set (off+4) u4
 have hc:∀ j,((((((w.setCell ⟨g,off,none⟩ u0).setCell ⟨g,off+1,none⟩ u1).setCell ⟨g,off+2,none⟩ u2).setCell ⟨g,off+3,none⟩ u3).setCell ⟨g,off+4,none⟩ u4).setCell ⟨g,off+5,none⟩ u5).cell? ⟨g,j,none⟩=if j=off+5 then some u5 else if j=off+4 then some u4 else if j=off+3 then some u3 else if j=off+2 then some u2 else if j=off+1 then some u1 else if j=off then some u0 else w.cell? ⟨g,j,none⟩:=fun j=>by
  rw [h4.get (by omega),h3.get (by omega),h2.get (by omega),h1.get (by omega),h0.get (by omega),h.get (by omega)]
 refine⟨⟨?_,fun i hi=>?_,fun ty' m q=>?_⟩,hc⟩
 ·have k:Kn (fun q=>q≠g) w _:=(((((kn_set w g off u0).trans (kn_set _ g (off+1) u1)).trans (kn_set _ g (off+2) u2)).trans (kn_set _ g (off+3) u3)).trans (kn_set _ g (off+4) u4)).trans (kn_set _ g (off+5) u5)
  exact k.sub fun q h=>h.2
 ·rw [hc,if_neg (by omega),if_neg (by omega),if_neg (by omega),if_neg (by omega),if_neg (by omega),if_neg (by omega)]
 ·exact (((((q.set _ _).set _ _).set _ _).set _ _).set _ _).set _ _
theorem set1_at {w:World} {g off M:Nat} {ty:TypeId} (h:BlkC w g ty M) (hM:off+6≤M) (u:Value) (lo hi:Nat) :
  Chg w (w.setCell ⟨g,off+1,none⟩ u) g off lo hi∧(∀ j,(w.setCell ⟨g,off+1,none⟩ u).cell? ⟨g,j,none⟩=if j=off+1 then some u else w.cell? ⟨g,j,none⟩):=by
 have hc:∀ j,(w.setCell ⟨g,off+1,none⟩ u).cell? ⟨g,j,none⟩=if j=off+1 then some u else w.cell? ⟨g,j,none⟩:=fun j=>h.get (by omega) _ _
 refine⟨⟨(kn_set w g (off+1) u).sub fun q h=>h.2,fun i hi=>?_,fun ty' m q=>q.set _ _⟩,hc⟩
 rw [hc,if_neg (by omega)]
theorem var_top {w w':World} {lo m1 m2 hi g:Nat} {t:Tm} {ra rc ka kc sa sc} (ht:TsTop w lo m1 m2 hi t ra rc ka kc sa sc) (hk:Kn (fun q=>q≠g) w w') (hg:g<lo∨hi≤g) (hkk:t.kids=[]) (hks:t.sys=[]) (m:Int) (hm:I64 m) :
  TmTop (fun q=>(lo≤q∧q<hi)∨w.heap.size≤q) w' (.mk t.kind m t.name t.r [] []) ra rc ka kc sa sc:=by
 have l2:=ht.l2
 have l3:=ht.l3
 refine⟨ht.ik,hm,ht.row.keep hk.size (fun q hq=>.inl ⟨hq.1,by have:=hq.2;omega⟩) (fun q hq hs=>hk.block q (by have:=hq.1;have:=hq.2;omega) hs),?_,?_⟩
 ·exact⟨ka,kc,rfl,Nat.zero_le _,fun j x hx=>by simp at hx⟩
 ·exact⟨sa,sc,rfl,Nat.zero_le _,fun j x hx=>by simp at hx⟩
theorem var_cs {w w':World} {g off:Nat} {t:Tm} {ra rc ka kc sa sc} (h:Cs6 w g off t ra rc ka kc sa sc) (hs:w.heap.size≤w'.heap.size) (m:Int) (hc:∀ j,w'.cell? ⟨g,j,none⟩=if j=off+1 then some (.int .i64 m) else w.cell? ⟨g,j,none⟩) (hkk:t.kids=[]) (hks:t.sys=[]) :
  Cs6 w' g off (.mk t.kind m t.name t.r [] []) ra rc ka kc sa sc:=by
 obtain⟨h1,c0,c1,c2,c3,c4,c5⟩:=h
 rw [hkk] at c4
 rw [hks] at c5
 refine⟨by omega,?_,?_,?_,?_,?_,?_⟩
 ·rw [hc,if_neg (by omega)];exact c0
 ·rw [hc,if_pos rfl]
 ·rw [hc,if_neg (by omega)];exact c2
 ·rw [hc,if_neg (by omega)];exact c3
 ·rw [hc,if_neg (by omega)];exact c4
 ·rw [hc,if_neg (by omega)];exact c5
theorem pcl_any (hLA:LAll) (n:Int) (u:Tm) (hub:blk u≤20000) (t:Tm) (bv bd g off lo hi m1 m2 B nb ub M:Nat) (ra:Option Addr) (rc:Nat) (ka:Option Addr) (kc:Nat) (sa:Option Addr) (sc:Nat) (w:World)
  (hE:PEnv w B nb ub n u) (h6:Cs6 w g off t ra rc ka kc sa sc) (ht:TsTop w lo m1 m2 hi t ra rc ka kc sa sc) (hB:BlkC w g 26 M) (hM:off+6≤M) (hBl:B≤lo) (hBg:B≤g) (hgl:g<lo∨hi≤g) (hk:t.kind=1) (hn0:0≤t.n) (hkk:t.kids=[]) (hks:t.sys=[]) (hbv:bv≤1000000) (hbd:bd≤1000000) :
  Calls Tryz.prog 129 #[.pointer (some ⟨g,off,none⟩),.agg #[.int .i64 (bv:Int),.int .i64 (bd:Int)],.pointer (some ⟨nb,0,none⟩),.pointer (some ⟨ub,0,none⟩)] w fun e w'=>LOut (eP n u t bv bd) (fun v=>v=.tuple #[]∧PvR w w' g off lo hi (putT n u t bv bd)) e∧Chg w w' g off lo hi:=by
 have HeP:Hid (eP n u t bv bd=if t.n - (bv:Int)=n then bothE bv bd u else 0):=by show _=_;rw [eP_eq,if_pos hk]
 have HpT:Hid (putT n u t bv bd=if t.n - (bv:Int)=n then bothT bv bd u else .mk t.kind (if n<t.n - bv then t.n - 1 else t.n) t.name t.r [] []):=by
  show _=_
  rw [put_eq,hkk,hks]
  by_cases h:t.n - (bv:Int)=n
  ·rw [if_pos ⟨hk,h⟩,if_pos h]
  ·rw [if_neg (fun q=>h q.2),if_neg h]
   unfold pnV
   by_cases h2:n<t.n - bv
   ·rw [if_pos ⟨hk,h2⟩,if_pos h2];rfl
   ·rw [if_neg (fun q=>h2 q.2),if_neg h2];rfl
 obtain⟨eZ,heZ⟩:∃ z,z=eP n u t bv bd:=⟨_,rfl⟩
 obtain⟨tZ,htZ⟩:∃ z,z=putT n u t bv bd:=⟨_,rfl⟩
 rw [← heZ] at HeP ⊢
 rw [← htZ] at HpT ⊢
 clear heZ htZ
 obtain⟨X,hX⟩:∃ X,X=w.heap.size:=⟨_,rfl⟩
 obtain⟨w2,hw2⟩:∃ w2,w2=w.alloc (.cells #[.int .i64 (bv:Int),.int .i64 (bd:Int)] 134):=⟨_,rfl⟩
 have hb2:Below w.heap.size w w2:=by rw [hw2];exact belowA _ _
 have m1':w2.heap[X]? = some (.cells #[.int .i64 (bv:Int),.int .i64 (bd:Int)] 134 (0,0)):=by rw [hw2,hX];exact heapNew w _
 have s2:X<w2.heap.size:=(Array.getElem?_eq_some_iff.1 m1').1
 have e0:w2.cell? ⟨X,0,none⟩=some (.int .i64 (bv:Int)):=by simp [World.cell?,m1']
 have e1:w2.cell? ⟨X,1,none⟩=some (.int .i64 (bd:Int)):=by simp [World.cell?,m1']
 have hin:=ht.inn
 have hgX:g<X:=by have:=h6.lt;omega
 have hE2:=hE.kn (Kn.of_below hb2:Kn (fun q=>q<B) w w2)
 have h62:=h6.blw hb2
 have co:=poutside_any bv bd g off t.n w2 h62.lt h62.c1 ⟨hn0,hin.2⟩ (by omega)
 have hl4:=ht.l4
 have HT:Hid (TsTop w lo m1 m2 hi t ra rc ka kc sa sc):=ht
 have H6:Hid (Cs6 w2 g off t ra rc ka kc sa sc):=h62
 have HBk:Hid (BlkC w2 g 26 M):=hB.kn (No:=fun _=>True) (Kn.of_below hb2) trivial
 have HE:Hid (PEnv w2 B nb ub n u):=hE2
 have Hb2:Hid (Below w.heap.size w w2):=hb2
 have HW2:Hid (_=_):=hw2
 have HX:Hid (X=w.heap.size):=hX
 obtain⟨at_,hat⟩:∃ z,z=t.n - (bv:Int):=⟨_,rfl⟩
 rw [← hat] at HeP HpT co
 have Hat:Hid (at_=t.n - (bv:Int)):=hat
 have Hin:Hid (I64 t.n∧0≤t.n):=⟨hin,hn0⟩
 have Hkk:Hid (t.kids=[]∧t.sys=[]):=⟨hkk,hks⟩
 clear hw2 hX m1' hE hE2 h6 h62 ht hB hkk hks hat hb2 hin hn0
 go_enter Tryz.func129,Tryz.ntmps129
 go_upto_region 1 with fail
 rw [← HW2.out]
 simp only [← HX.out]
 clear HW2
 go_wp2_with fail
 refine co.mono ?_
 rintro e w3 ⟨rfl,hb3⟩
 clear co
 have h63:=H6.out.blw hb3
 have hE3:=HE.out.kn (Kn.of_below hb3:Kn (fun q=>q<B) w2 w3)
 have hB3:=HBk.out.kn (No:=fun _=>True) (Kn.of_below hb3) trivial
 have f0:=(hb3.cell (p:=⟨X,0,none⟩) s2).trans e0
 have f1:=(hb3.cell (p:=⟨X,1,none⟩) s2).trans e1
 have cn:=hE3.cn
 have Hb3:Hid (Below w.heap.size w w3):=bchain Hb2.out hb3
 clear e0 e1
 by_cases hgt:n<at_
 ·have hgb:decide (n<at_)=true:=by simpa using hgt
  have wr:wrap64 (t.n - 1)=t.n - 1:=by have:=Hin.out;unfold I64 at this;simp [wrap64];omega
  have q1:=h63.c1
  have qf:=hB3.soft (off+1)
  obtain⟨p1,p2⟩:=set1_at hB3 hM (.int .i64 (t.n - 1)) lo hi
  obtain⟨w4,hw4⟩:∃ W,W=w3.setCell ⟨g,off+1,none⟩ (.int .i64 (t.n - 1)):=⟨_,rfl⟩
  rw [← hw4] at p1 p2
  have HF:Hid (eZ=0∧PvR w w4 g off lo hi tZ∧Chg w w4 g off lo hi):=by
   have cA:Chg w w3 g off lo hi:=Chg.of_below Hb3.out (by rw [← HX.out];exact hgX) _ _ _
   have cB:=cA.trans p1
   refine⟨by rw [HeP.out,if_neg (by omega)],?_,cB⟩
   rw [HpT.out,if_neg (by omega),if_pos hgt]
   have hkw:Kn (fun q=>q≠g) w w4:=(Kn.of_below Hb3.out).trans (by rw [hw4];exact kn_set _ _ _ _)
   refine⟨ra,rc,ka,kc,sa,sc,var_cs h63 p1.kn.size _ p2 Hkk.out.1 Hkk.out.2,var_top HT.out hkw hgl Hkk.out.1 Hkk.out.2 _ ?_⟩
   have:=Hin.out
   unfold I64 at *
   omega
  have H4:Hid (_=_):=hw4
  clear hw4 p1 p2 h63 hE3 hB3
  go_wp2_with fail
  rw [← H4.out]
  go_end0
  exact⟨.ok HF.out.1 ⟨rfl,HF.out.2.1⟩,HF.out.2.2⟩
 ·have hgb:decide (n<at_)=false:=by simpa using hgt
  by_cases heq:at_=n
  ·have heb:(at_ == n)=true:=by simpa using heq
   obtain⟨ru,rcu,ku,kcu,su,scu,hu6,hut⟩:=hE3.cu
   obtain⟨_,z0,z1,z2,z3,z4,z5⟩:=hu6
   simp only [Nat.zero_add] at z1 z2 z3 z4 z5
   have cb:=lboth_any hLA u _ w3 (hut.value.up fun _ _=>trivial) hub (bv:Int) (bd:Int)
   go_wp2_with fail
   refine cb.mono ?_
   rintro e w5 ⟨v5,rfl,hv5,hb5⟩
   clear cb z0 z1 z2 z3 z4 z5 hut
   obtain⟨r5,rc5,k5,kc5,s5,sc5,rfl,ht5⟩:=hv5.form
   have e5:eZ=bothE bv bd u:=by rw [HeP.out,if_pos heq]
   have e6:tZ=bothT bv bd u:=by rw [HpT.out,if_pos heq]
   rw [← e5]
   rw [← e6] at ht5 ⊢
   have HeZ:Hid (_=_):=e5
   obtain⟨Y,hY⟩:∃ Y,Y=w5.heap.size:=⟨_,rfl⟩
   obtain⟨w6,hw6⟩:∃ W,W=w5.alloc (.cells #[.int .i64 tZ.kind,.int .i64 tZ.n,.string tZ.name,.slice r5 tZ.r.length rc5,.slice k5 tZ.kids.length kc5,.slice s5 tZ.sys.length sc5] 26):=⟨_,rfl⟩
   have b6:Below w5.heap.size w5 w6:=by rw [hw6];exact belowA _ _
   have x6:Cs6 w6 Y 0 tZ r5 rc5 k5 kc5 s5 sc5:=by rw [hw6,hY];exact cs6_new _ _ _ _ _ _ _ _
   have Hb6:Hid (Below w.heap.size w w6):=bchain Hb3.out (bchain hb5 b6)
   have hB6:=(hB3.kn (No:=fun _=>True) (Kn.of_below hb5) trivial).kn (No:=fun _=>True) (Kn.of_below b6) trivial
   have cr:=prefuse_any eZ w6
   have H6w:Hid (_=_):=hw6
   have HY:Hid (Y=w5.heap.size):=hY
   have Ht5:Hid (TmTop (OkN w3.heap.size w5) w5 tZ r5 rc5 k5 kc5 s5 sc5):=ht5
   have Hs:Hid (Below w3.heap.size w3 w5∧Below w5.heap.size w5 w6):=⟨hb5,b6⟩
   clear e5 e6 hw6 hY ht5 hv5 b6 hB3 hb5 hE3 h63
   go_upto_region 6 with fail
   rw [← H6w.out]
   simp only [← HY.out]
   clear H6w HY
   go_wp2_with fail
   refine cr.mono ?_
   rintro e w' ⟨⟨h0,v,rfl,rfl⟩ | ⟨hne,rfl⟩,hw'⟩
   ·replace hw':=hw'.symm
    subst hw'
    clear cr
    obtain⟨_,y0,y1,y2,y3,y4,y5⟩:=x6
    simp only [Nat.zero_add] at y1 y2 y3 y4 y5
    obtain⟨p1,p2⟩:=set6_at hB6 hM (.int .i64 tZ.kind) (.int .i64 tZ.n) (.string tZ.name) (.slice r5 tZ.r.length rc5) (.slice k5 tZ.kids.length kc5) (.slice s5 tZ.sys.length sc5) lo hi
    obtain⟨w7,hw7⟩:∃ W,W=(((((w6.setCell ⟨g,off,none⟩ (.int .i64 tZ.kind)).setCell ⟨g,off+1,none⟩ (.int .i64 tZ.n)).setCell ⟨g,off+2,none⟩ (.string tZ.name)).setCell ⟨g,off+3,none⟩ (.slice r5 tZ.r.length rc5)).setCell ⟨g,off+4,none⟩ (.slice k5 tZ.kids.length kc5)).setCell ⟨g,off+5,none⟩ (.slice s5 tZ.sys.length sc5):=⟨_,rfl⟩
    have k7:Kn (fun q=>q≠g) w6 w7:=by rw [hw7];exact (((((kn_set _ _ _ _).trans (kn_set _ _ _ _)).trans (kn_set _ _ _ _)).trans (kn_set _ _ _ _)).trans (kn_set _ _ _ _)).trans (kn_set _ _ _ _)
    rw [← hw7] at p1 p2
    have HF:Hid (PvR w w7 g off lo hi tZ∧Chg w w7 g off lo hi):=by
     refine⟨⟨r5,rc5,k5,kc5,s5,sc5,?_,?_⟩,(Chg.of_below Hb6.out (by rw [← HX.out];exact hgX) _ _ _).trans p1⟩
     ·have hlt:=hB6.lt
      have hsz:=k7.size
      refine⟨by omega,?_,?_,?_,?_,?_,?_⟩
      ·rw [p2,if_neg (by omega),if_neg (by omega),if_neg (by omega),if_neg (by omega),if_neg (by omega),if_pos rfl]
      ·rw [p2,if_neg (by omega),if_neg (by omega),if_neg (by omega),if_neg (by omega),if_pos rfl]
      ·rw [p2,if_neg (by omega),if_neg (by omega),if_neg (by omega),if_pos rfl]
      ·rw [p2,if_neg (by omega),if_neg (by omega),if_pos rfl]
      ·rw [p2,if_neg (by omega),if_pos rfl]
      ·rw [p2,if_pos rfl]
     ·have q1:=Hb3.out.size
      have q2:=Hs.out.1.size
      have q3:=Hs.out.2.size
      have q4:=HX.out
      exact Ht5.out.keep (by have:=k7.size;omega) (fun q hq=>.inr (by have:=hq.1;omega)) (fun q hq hs=>(k7.block q (by have:=hq.1;omega) (by omega)).trans (Hs.out.2.block q hs))
    obtain⟨c0,d0⟩:=hB6.cell off (by omega)
    obtain⟨c1,d1⟩:=hB6.cell (off+1) (by omega)
    obtain⟨c2,d2⟩:=hB6.cell (off+2) (by omega)
    obtain⟨c3,d3⟩:=hB6.cell (off+3) (by omega)
    obtain⟨c4,d4⟩:=hB6.cell (off+4) (by omega)
    obtain⟨c5,d5⟩:=hB6.cell (off+5) (by omega)
    have g0:=hB6.soft off
    have g1:=hB6.soft (off+1)
    have g2:=hB6.soft (off+2)
    have g3:=hB6.soft (off+3)
    have g4:=hB6.soft (off+4)
    have g5:=hB6.soft (off+5)
    have H7:Hid (_=_):=hw7
    clear hw7 p1 p2 k7 hB6
    go_wp2_with fail
    rw [← H7.out]
    go_end0
    exact⟨.ok h0 ⟨rfl,HF.out.1⟩,HF.out.2⟩
   ·subst hw'
    exact⟨rfl,.inr ⟨hne,rfl⟩,Chg.of_below Hb6.out (by rw [← HX.out];exact hgX) _ _ _⟩
  ·have heb:(at_ == n)=false:=by simpa using heq
   have HF:Hid (eZ=0∧PvR w w3 g off lo hi tZ∧Chg w w3 g off lo hi):=by
    refine⟨by rw [HeP.out,if_neg heq],?_,Chg.of_below Hb3.out (by rw [← HX.out];exact hgX) _ _ _⟩
    rw [HpT.out,if_neg heq,if_neg hgt]
    refine⟨ra,rc,ka,kc,sa,sc,?_,var_top HT.out (Kn.of_below Hb3.out) hgl Hkk.out.1 Hkk.out.2 _ Hin.out.1⟩
    refine var_cs h63 (Nat.le_refl _) _ (fun j=>?_) Hkk.out.1 Hkk.out.2
    by_cases hj:j=off+1
    ·rw [if_pos hj,hj];exact h63.c1
    ·rw [if_neg hj]
   clear h63 hE3 hB3
   go_wp2_with fail
   go_end0
   exact⟨.ok HF.out.1 ⟨rfl,HF.out.2.1⟩,HF.out.2.2⟩
end Go.Proofs.YtblbhmnahoiecaaGreat
