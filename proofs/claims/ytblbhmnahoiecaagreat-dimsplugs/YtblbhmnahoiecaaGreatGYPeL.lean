/- Parts that change in place, one behind the other. -/
import Derived.Test.YtblbhmnahoiecaaGreatGYPeB
import Derived.Test.YtblbhmnahoiecaaGreatGYPcV
set_option linter.unusedVariables false
set_option linter.unusedSimpArgs false
namespace Go.Proofs.YtblbhmnahoiecaaGreat
open Go.RowKit
structure KsAt (w:World) (lo hi:Nat) (l:List Tm) (a:Option Addr) (G:Nat) (cb:Nat→Nat):Prop where
 at_:a=some ⟨G,0,none⟩
 lo:lo≤G
 g0:G<cb 0
 top:cb l.length≤hi
 up:∀ i j,i≤j→j≤l.length→cb i≤cb j
theorem KsAt.le {w:World} {lo hi G:Nat} {l:List Tm} {a:Option Addr} {cb:Nat→Nat} (h:KsAt w lo hi l a G cb) {j:Nat} (hj:j<l.length):G<cb j∧cb j≤cb (j+1)∧cb (j+1)≤hi:=by
 have h1:=h.up 0 j (Nat.zero_le _) (by omega)
 have h2:=h.up j (j+1) (by omega) (by omega)
 have h3:=h.up (j+1) l.length (by omega) (Nat.le_refl _)
 have h4:=h.g0
 have h5:=h.top
 exact⟨by omega,h2,by omega⟩
structure KInv (wr:World) (G:Nat) (cb:Nat→Nat) (l l':List Tm) (k s:Nat):Prop where
 bk:BlkC wr G 26 (l.length*6)
 todo:∀ (j:Nat) (x:Tm),k≤j→l[j]? = some x→∃ u0 u1 u2 u3 u4 u5,TmS wr (cb j) (cb (j+1)) x (.agg #[u0,u1,u2,u3,u4,u5]) ∧
  wr.cell? ⟨G,j*6,none⟩=some u0∧wr.cell? ⟨G,j*6+1,none⟩=some u1∧wr.cell? ⟨G,j*6+2,none⟩=some u2∧wr.cell? ⟨G,j*6+3,none⟩=some u3∧wr.cell? ⟨G,j*6+4,none⟩=some u4∧wr.cell? ⟨G,j*6+5,none⟩=some u5
 done:∀ (j:Nat) (y:Tm),j<k→l'[j]? = some y→∃ u0 u1 u2 u3 u4 u5,TmIn (fun q=>(G<q∧q<cb k)∨s≤q) wr y (.agg #[u0,u1,u2,u3,u4,u5]) ∧
  wr.cell? ⟨G,j*6,none⟩=some u0∧wr.cell? ⟨G,j*6+1,none⟩=some u1∧wr.cell? ⟨G,j*6+2,none⟩=some u2∧wr.cell? ⟨G,j*6+3,none⟩=some u3∧wr.cell? ⟨G,j*6+4,none⟩=some u4∧wr.cell? ⟨G,j*6+5,none⟩=some u5
theorem KdS.open {w:World} {lo hi:Nat} {l:List Tm} {a:Option Addr} {n cap:Nat} (h:KdS w (TmS w) lo hi l (.slice a n cap)):l=[]∨∃ G cb,KsAt w lo hi l a G cb∧∀ l' s,KInv w G cb l l' 0 s:=by
 obtain⟨a',cap',e,_,h3⟩:=h
 cases e
 rcases h3 with h3|⟨G,cb,a1,a2,a3,a4,a5,a6,a7⟩
 ·exact .inl h3
 ·exact .inr ⟨G,cb,⟨a1,a2,a3,a4,a6⟩,fun l' s=>⟨a5,fun j x _ hx=>a7 j x hx,fun j y hj=>by omega⟩⟩
theorem KInv.keep {wr w':World} {G:Nat} {cb:Nat→Nat} {l l':List Tm} {k s:Nat} (h:KInv wr G cb l l' k s) (hs:wr.heap.size≤w'.heap.size) (hb:∀ q,q<wr.heap.size→w'.heap[q]? = wr.heap[q]?):KInv w' G cb l l' k s:=by
 have hG:=hb G h.bk.lt
 have c:=fun i=>World.cell?_of_block (w:=wr) (w':=w') (a:=⟨G,i,none⟩) hG
 refine⟨?_,fun j x hj hx=>?_,fun j y hj hy=>?_⟩
 ·obtain⟨cs,e,es⟩:=h.bk
  exact⟨cs,hG.trans e,es⟩
 ·obtain⟨u0,u1,u2,u3,u4,u5,h1,c0,c1,c2,c3,c4,c5⟩:=h.todo j x hj hx
  exact⟨u0,u1,u2,u3,u4,u5,h1.keep hs (fun q _ _ q3=>hb q q3),(c _).trans c0,(c _).trans c1,(c _).trans c2,(c _).trans c3,(c _).trans c4,(c _).trans c5⟩
 ·obtain⟨u0,u1,u2,u3,u4,u5,h1,c0,c1,c2,c3,c4,c5⟩:=h.done j y hj hy
  exact⟨u0,u1,u2,u3,u4,u5,h1.keep hs (fun _ q=>q) (fun q _ q3=>hb q q3),(c _).trans c0,(c _).trans c1,(c _).trans c2,(c _).trans c3,(c _).trans c4,(c _).trans c5⟩
theorem KInv.at {wr:World} {G:Nat} {cb:Nat→Nat} {l l':List Tm} {k s:Nat} (h:KInv wr G cb l l' k s) {x:Tm} (hx:l[k]? = some x):∃ ra rc ka kc sa sc m1 m2,Cs6 wr G (k*6) x ra rc ka kc sa sc∧TsTop wr (cb k) m1 m2 (cb (k+1)) x ra rc ka kc sa sc:=by
 obtain⟨u0,u1,u2,u3,u4,u5,h1,c0,c1,c2,c3,c4,c5⟩:=h.todo k x (Nat.le_refl _) hx
 obtain⟨ra,rc,ka,kc,sa,sc,m1,m2,e,ht⟩:=h1.form
 injection e with e
 simp only [Array.mk.injEq,List.cons.injEq,and_true] at e
 obtain⟨rfl,rfl,rfl,rfl,rfl,rfl⟩:=e
 exact⟨ra,rc,ka,kc,sa,sc,m1,m2,⟨h.bk.lt,c0,c1,c2,c3,c4,c5⟩,ht⟩
theorem KInv.step {w0 wr w3:World} {lo hi G:Nat} {a:Option Addr} {cb:Nat→Nat} {l l':List Tm} {k s:Nat} (h:KInv wr G cb l l' k s) (hA:KsAt w0 lo hi l a G cb) (hk:k<l.length) (hs:hi≤s) (hsw:s≤wr.heap.size) {y:Tm} (hy:l'[k]? = some y)
  (hc:Chg wr w3 G (k*6) (cb k) (cb (k+1))) (hp:PvR wr w3 G (k*6) (cb k) (cb (k+1)) y):KInv w3 G cb l l' (k+1) s:=by
 obtain⟨q1,q2,q3⟩:=hA.le hk
 refine⟨hc.bk _ _ h.bk,fun j x hj hx=>?_,fun j z hj hz=>?_⟩
 ·obtain⟨u0,u1,u2,u3,u4,u5,h1,c0,c1,c2,c3,c4,c5⟩:=h.todo j x (by omega) hx
  have hjl:=some_lt hx
  have g1:=hA.up (k+1) j (by omega) (by omega)
  refine⟨u0,u1,u2,u3,u4,u5,h1.keep hc.kn.size (fun q z1 z2 z3=>hc.kn.block q ⟨by omega,by omega⟩ z3),?_,?_,?_,?_,?_,?_⟩
  ·rw [hc.ot _ (by omega)];exact c0
  ·rw [hc.ot _ (by omega)];exact c1
  ·rw [hc.ot _ (by omega)];exact c2
  ·rw [hc.ot _ (by omega)];exact c3
  ·rw [hc.ot _ (by omega)];exact c4
  ·rw [hc.ot _ (by omega)];exact c5
 ·rcases Nat.lt_or_ge j k with hjk|hjk
  ·obtain⟨u0,u1,u2,u3,u4,u5,h1,c0,c1,c2,c3,c4,c5⟩:=h.done j z hjk hz
   refine⟨u0,u1,u2,u3,u4,u5,h1.keep hc.kn.size (fun q hq=>by omega) (fun q z1 z3=>hc.kn.block q ⟨by omega,by omega⟩ z3),?_,?_,?_,?_,?_,?_⟩
   ·rw [hc.ot _ (by omega)];exact c0
   ·rw [hc.ot _ (by omega)];exact c1
   ·rw [hc.ot _ (by omega)];exact c2
   ·rw [hc.ot _ (by omega)];exact c3
   ·rw [hc.ot _ (by omega)];exact c4
   ·rw [hc.ot _ (by omega)];exact c5
  ·obtain rfl:j=k:=by omega
   rw [hy] at hz
   cases hz
   obtain⟨ra,rc,ka,kc,sa,sc,h6,ht⟩:=hp
   obtain⟨_,c0,c1,c2,c3,c4,c5⟩:=h6
   exact⟨_,_,_,_,_,_,ht.value.up fun q hq=>by omega,c0,c1,c2,c3,c4,c5⟩
theorem KInv.row {w0 wr:World} {lo hi G:Nat} {a:Option Addr} {cb:Nat→Nat} {l l':List Tm} {s cap:Nat} (h:KInv wr G cb l l' l.length s) (hA:KsAt w0 lo hi l a G cb) (hl:l'.length=l.length) (hcap:l.length≤cap) (hne:l≠[]) :
  KdT (fun q=>(lo≤q∧q<hi)∨s≤q) wr (TmIn (fun q=>(lo≤q∧q<hi)∨s≤q) wr) l' (.slice a l'.length cap):=by
 refine⟨a,cap,rfl,by omega,fun j y hy=>?_⟩
 have hj:=some_lt hy
 obtain⟨u0,u1,u2,u3,u4,u5,h1,c⟩:=h.done j y (by omega) hy
 have g1:=hA.lo
 have g2:=hA.top
 have g3:=hA.g0
 have g4:=hA.up 0 l.length (Nat.zero_le _) (Nat.le_refl _)
 exact⟨G,0,u0,u1,u2,u3,u4,u5,hA.at_,.inl ⟨g1,by omega⟩,h.bk.lt,h1.up fun q hq=>by omega,by simpa using c⟩
theorem chg_of {w V:World} {g off lo hi:Nat} (h:Kn (fun q=>¬ (lo≤q∧q<hi)) w V) (hg:g<w.heap.size) (hgl:g<lo∨hi≤g):Chg w V g off lo hi:=by
 have e:=h.block g (by omega) hg
 refine⟨h.sub fun q hq=>hq.1,fun i _=>World.cell?_of_block (w:=w) (a:=⟨g,i,none⟩) e,fun ty m q=>?_⟩
 obtain⟨cs,e1,e2⟩:=q
 exact⟨cs,e.trans e1,e2⟩
theorem kd_keep {lo hi a b s:Nat} {w V:World} {l:List Tm} {v:Value} (h:KdT (fun q=>(a≤q∧q<b)∨s≤q) w (TmIn (fun q=>(a≤q∧q<b)∨s≤q) w) l v) (hk:Kn (fun q=>¬ (lo≤q∧q<hi)) w V) (h1:b≤lo∨hi≤a) (h2:hi≤s) :
  KdT (fun q=>(a≤q∧q<b)∨s≤q) V (TmIn (fun q=>(a≤q∧q<b)∨s≤q) V) l v :=
 h.all hk.size (fun _ q=>q) (fun q hq hs=>hk.block q (by omega) hs)
theorem KdS.open' {w:World} {lo hi:Nat} {l:List Tm} {a:Option Addr} {n cap:Nat} (h:KdS w (TmS w) lo hi l (.slice a n cap)):∃ G cb,l≠[]→KsAt w lo hi l a G cb∧∀ l' s,KInv w G cb l l' 0 s:=by
 rcases h.open with h|⟨G,cb,h⟩
 ·exact⟨0,fun _=>0,fun q=>absurd h q⟩
 ·exact⟨G,cb,fun _=>h⟩
structure SsAt (lo hi:Nat) (l:List (List C × List Tm)) (a:Option Addr) (G:Nat) (cb:Nat→Nat):Prop where
 at_:a=some ⟨G,0,none⟩
 lo:lo≤G
 g0:G<cb 0
 top:cb l.length≤hi
 up:∀ i j,i≤j→j≤l.length→cb i≤cb j
theorem SsAt.le {lo hi G:Nat} {l:List (List C × List Tm)} {a:Option Addr} {cb:Nat→Nat} (h:SsAt lo hi l a G cb) {j:Nat} (hj:j<l.length):G<cb j∧cb j≤cb (j+1)∧cb (j+1)≤hi:=by
 have h1:=h.up 0 j (Nat.zero_le _) (by omega)
 have h2:=h.up j (j+1) (by omega) (by omega)
 have h3:=h.up (j+1) l.length (by omega) (Nat.le_refl _)
 have h4:=h.g0
 have h5:=h.top
 exact⟨by omega,h2,by omega⟩
structure SInv (wr:World) (G:Nat) (cb:Nat→Nat) (l l':List (List C × List Tm)) (k s:Nat):Prop where
 bk:BlkC wr G 40 (l.length*2)
 todo:∀ (j:Nat) (x:List C × List Tm),k≤j→l[j]? = some x→∃ m vf vk,cb j≤m∧m≤cb (j+1)∧ClRow (Iv (cb j) m) wr x.1 vf∧KdS wr (TmS wr) m (cb (j+1)) x.2 vk∧wr.cell? ⟨G,j*2,none⟩=some vf∧wr.cell? ⟨G,j*2+1,none⟩=some vk
 done:∀ (j:Nat) (y:List C × List Tm),j<k→l'[j]? = some y→∃ vf vk,ClRow (fun q=>(G<q∧q<cb k)∨s≤q) wr y.1 vf∧KdT (fun q=>(G<q∧q<cb k)∨s≤q) wr (TmIn (fun q=>(G<q∧q<cb k)∨s≤q) wr) y.2 vk∧wr.cell? ⟨G,j*2,none⟩=some vf∧wr.cell? ⟨G,j*2+1,none⟩=some vk
theorem SyS.open' {w:World} {lo hi:Nat} {l:List (List C × List Tm)} {a:Option Addr} {n cap:Nat} (h:SyS w (TmS w) lo hi l (.slice a n cap)):∃ G cb,l≠[]→SsAt lo hi l a G cb∧∀ l' s,SInv w G cb l l' 0 s:=by
 obtain⟨a',cap',e,_,h3⟩:=h
 cases e
 rcases h3 with h3|⟨G,cb,a1,a2,a3,a4,a5,a6,a7⟩
 ·exact⟨0,fun _=>0,fun q=>absurd h3 q⟩
 ·exact⟨G,cb,fun _=>⟨⟨a1,a2,a3,a4,a6⟩,fun l' s=>⟨a5,fun j x _ hx=>a7 j x hx,fun j y hj=>by omega⟩⟩⟩
theorem SInv.keep {lo hi:Nat} {wr w':World} {a:Option Addr} {G:Nat} {cb:Nat→Nat} {l l':List (List C × List Tm)} {k s:Nat} (h:SInv wr G cb l l' k s) (hA:SsAt lo hi l a G cb) (hs:wr.heap.size≤w'.heap.size) (hl:k≤l.length) (hl':l'.length=l.length) (hb:∀ q,(lo≤q∧q<hi)∨s≤q→q<wr.heap.size→w'.heap[q]? = wr.heap[q]?):SInv w' G cb l l' k s:=by
 have g1:=hA.lo
 have g2:=hA.top
 have g3:=hA.g0
 have g4:=hA.up 0 l.length (Nat.zero_le _) (Nat.le_refl _)
 have g5:=hA.up k l.length hl (Nat.le_refl _)
 have hG:=hb G (.inl ⟨g1,by omega⟩) h.bk.lt
 have c:=fun i=>World.cell?_of_block (w:=wr) (w':=w') (a:=⟨G,i,none⟩) hG
 refine⟨?_,fun j x hj hx=>?_,fun j y hj hy=>?_⟩
 ·obtain⟨cs,e,es⟩:=h.bk
  exact⟨cs,hG.trans e,es⟩
 ·obtain⟨m,vf,vk,p1,p2,h1,h2,c0,c1⟩:=h.todo j x hj hx
  obtain⟨q1,q2,q3⟩:=hA.le (some_lt hx)
  exact⟨m,vf,vk,p1,p2,h1.keep hs (fun _ q=>q) (fun q hq hs=>hb q (.inl ⟨by have:=hq.1;omega,by have:=hq.2;omega⟩) hs),h2.keep hs (fun q z1 z2 z3=>hb q (.inl ⟨by omega,by omega⟩) z3),(c _).trans c0,(c _).trans c1⟩
 ·obtain⟨vf,vk,h1,h2,c0,c1⟩:=h.done j y hj hy
  exact⟨vf,vk,h1.keep hs (fun _ q=>q) (fun q hq hs=>hb q (by omega) hs),h2.all hs (fun _ q=>q) (fun q hq hs=>hb q (by omega) hs),(c _).trans c0,(c _).trans c1⟩
theorem SInv.at {wr:World} {G:Nat} {cb:Nat→Nat} {l l':List (List C × List Tm)} {k s:Nat} (h:SInv wr G cb l l' k s) {x:List C × List Tm} (hx:l[k]? = some x):∃ m fa fc ka kc,cb k≤m∧m≤cb (k+1)∧Cs2 wr G (k*2) x fa fc ka kc∧ClRow (Iv (cb k) m) wr x.1 (.slice fa x.1.length fc)∧KdS wr (TmS wr) m (cb (k+1)) x.2 (.slice ka x.2.length kc):=by
 obtain⟨m,vf,vk,p1,p2,h1,h2,c0,c1⟩:=h.todo k x (Nat.le_refl _) hx
 obtain⟨fa,fc,rfl,_⟩:=id h1
 obtain⟨ka,kc,rfl,_⟩:=id h2
 exact⟨m,fa,fc,ka,kc,p1,p2,⟨h.bk.lt,c0,c1⟩,h1,h2⟩
theorem SInv.step {wo w':World} {lo hi G m:Nat} {a:Option Addr} {cb:Nat→Nat} {l l':List (List C × List Tm)} {k s fc kc:Nat} {fa ka:Option Addr} (h:SInv wo G cb l l' k s) (hA:SsAt lo hi l a G cb) {x:List C × List Tm} (hx:l[k]? = some x) (hs:hi≤s) {l2:List Tm} (hy:l'[k]? = some (x.1,l2)) (hl2:l2.length=x.2.length)
  (p1:cb k≤m) (p2:m≤cb (k+1)) (h2:Cs2 wo G (k*2) x fa fc ka kc) (hcl:ClRow (Iv (cb k) m) wo x.1 (.slice fa x.1.length fc)) (hc:Kn (fun q=>¬ (m≤q∧q<cb (k+1))) wo w') (hp:KdT (fun q=>(m≤q∧q<cb (k+1))∨s≤q) w' (TmIn (fun q=>(m≤q∧q<cb (k+1))∨s≤q) w') l2 (.slice ka l2.length kc)):SInv w' G cb l l' (k+1) s:=by
 have hk:=some_lt hx
 obtain⟨q1,q2,q3⟩:=hA.le hk
 have hG:=hc.block G (by omega) h.bk.lt
 have c:=fun i=>World.cell?_of_block (w:=wo) (w':=w') (a:=⟨G,i,none⟩) hG
 refine⟨?_,fun j z hj hz=>?_,fun j z hj hz=>?_⟩
 ·obtain⟨cs,e,es⟩:=h.bk
  exact⟨cs,hG.trans e,es⟩
 ·obtain⟨m',vf,vk,z1,z2,h1,h2,c0,c1⟩:=h.todo j z (by omega) hz
  have g1:=hA.up (k+1) j (by omega) (by have:=some_lt hz;omega)
  exact⟨m',vf,vk,z1,z2,h1.keep hc.size (fun _ q=>q) (fun q hq hs=>hc.block q (by have:=hq.1;omega) hs),h2.keep hc.size (fun q y1 y2 y3=>hc.block q (by omega) y3),(c _).trans c0,(c _).trans c1⟩
 ·rcases Nat.lt_or_ge j k with hjk|hjk
  ·obtain⟨vf,vk,h1,h2,c0,c1⟩:=h.done j z hjk hz
   exact⟨vf,vk,h1.keep hc.size (fun q hq=>by omega) (fun q hq hs=>hc.block q (by omega) hs),h2.all hc.size (fun q hq=>by omega) (fun q hq hs=>hc.block q (by omega) hs),(c _).trans c0,(c _).trans c1⟩
  ·obtain rfl:j=k:=by omega
   rw [hy] at hz
   cases hz
   have c1:=h2.c1
   rw [← hl2] at c1
   exact⟨_,_,hcl.keep hc.size (fun q hq=>.inl ⟨by have:=hq.1;omega,by have:=hq.2;omega⟩) (fun q hq hs=>hc.block q (by have:=hq.2;omega) hs),hp.all (Nat.le_refl _) (fun q hq=>by omega) (fun _ _ _=>rfl),(c _).trans h2.c0,(c _).trans c1⟩
theorem SInv.row {wr:World} {lo hi G:Nat} {a:Option Addr} {cb:Nat→Nat} {l l':List (List C × List Tm)} {s cap:Nat} (h:SInv wr G cb l l' l.length s) (hA:SsAt lo hi l a G cb) (hl:l'.length=l.length) (hcap:l.length≤cap) :
  SyT (fun q=>(lo≤q∧q<hi)∨s≤q) wr (TmIn (fun q=>(lo≤q∧q<hi)∨s≤q) wr) l' (.slice a l'.length cap):=by
 refine⟨a,cap,rfl,by omega,fun j y hy=>?_⟩
 have hj:=some_lt hy
 obtain⟨vf,vk,h1,h2,c⟩:=h.done j y (by omega) hy
 have g1:=hA.lo
 have g2:=hA.top
 have g3:=hA.g0
 have g4:=hA.up 0 l.length (Nat.zero_le _) (Nat.le_refl _)
 exact⟨G,0,vf,vk,hA.at_,.inl ⟨g1,by omega⟩,h.bk.lt,h1.keep (Nat.le_refl _) (fun q hq=>by omega) (fun _ _ _=>rfl),h2.all (Nat.le_refl _) (fun q hq=>by omega) (fun _ _ _=>rfl),by simpa using c⟩
theorem firstE_hit {l:List Int} {k:Nat} {a:Int} (h:l[k]? = some a) (h0:firstE (l.take k)=0) (ha:a≠0):firstE l=a:=by
 have e:=firstE_step h
 rw [if_pos h0] at e
 rw [firstE_stuck (k:=k+1) (by rw [e];exact ha),e]
theorem firstE_next {l:List Int} {k:Nat} (h:l[k]? = some 0) (h0:firstE (l.take k)=0):firstE (l.take (k+1))=0:=by
 rw [firstE_step h,if_pos h0]
theorem firstE_all {l:List Int} {k:Nat} (hk:l.length≤k) (h0:firstE (l.take k)=0):firstE l=0:=by rwa [List.take_of_length_le hk] at h0
end Go.Proofs.YtblbhmnahoiecaaGreat
