/- Terms whose parts lie apart from each other: each has blocks of its own, one behind the other. -/
import Derived.Test.YtblbhmnahoiecaaGreatGG8
import Derived.Laws.EntriesVeiled
import Derived.Laws.MakeOwn
import Derived.Deep.Cut
import Derived.Deep.RegionHeld3
set_option linter.unusedVariables false
set_option linter.unusedSimpArgs false
set_option maxRecDepth 100000
set_option maxHeartbeats 4000000
namespace Go.Proofs.YtblbhmnahoiecaaGreat
open Go.RowKit
def Iv (lo hi q:Nat):Prop:=lo≤q∧q<hi
def KdS (w:World) (P:Nat→Nat→Tm→Value→Prop) (lo hi:Nat) (l:List Tm) (v:Value):Prop :=
 ∃ a cap,v=.slice a l.length cap∧l.length≤cap∧(l=[]∨∃ (G:Nat) (cb:Nat→Nat),a=some ⟨G,0,none⟩∧lo≤G∧G<cb 0∧cb l.length≤hi∧BlkC w G 26 (l.length*6)∧(∀ i j,i≤j→j≤l.length→cb i≤cb j) ∧
  ∀ (j:Nat) (x:Tm),l[j]? = some x→∃ u0 u1 u2 u3 u4 u5,P (cb j) (cb (j+1)) x (.agg #[u0,u1,u2,u3,u4,u5]) ∧
   w.cell? ⟨G,j*6,none⟩=some u0∧w.cell? ⟨G,j*6+1,none⟩=some u1∧w.cell? ⟨G,j*6+2,none⟩=some u2∧w.cell? ⟨G,j*6+3,none⟩=some u3∧w.cell? ⟨G,j*6+4,none⟩=some u4∧w.cell? ⟨G,j*6+5,none⟩=some u5)
def SyS (w:World) (P:Nat→Nat→Tm→Value→Prop) (lo hi:Nat) (l:List (List C × List Tm)) (v:Value):Prop :=
 ∃ a cap,v=.slice a l.length cap∧l.length≤cap∧(l=[]∨∃ (G:Nat) (cb:Nat→Nat),a=some ⟨G,0,none⟩∧lo≤G∧G<cb 0∧cb l.length≤hi∧BlkC w G 40 (l.length*2)∧(∀ i j,i≤j→j≤l.length→cb i≤cb j) ∧
  ∀ (j:Nat) (x:List C × List Tm),l[j]? = some x→∃ m vf vk,cb j≤m∧m≤cb (j+1)∧ClRow (Iv (cb j) m) w x.1 vf∧KdS w P m (cb (j+1)) x.2 vk∧w.cell? ⟨G,j*2,none⟩=some vf∧w.cell? ⟨G,j*2+1,none⟩=some vk)
def TsCl (w:World) (P:Nat→Nat→Tm→Value→Prop):Prop :=
 ∀ (lo m1 m2 hi:Nat) (k n:Int) (nm:ByteArray) (r:List C) (kids:List Tm) (sys:List (List C × List Tm)) (vr vk vs:Value),lo≤m1→m1≤m2→m2≤hi→hi≤w.heap.size→I64 k→I64 n→ClRow (Iv lo m1) w r vr→KdS w P m1 m2 kids vk→SyS w P m2 hi sys vs→P lo hi (.mk k n nm r kids sys) (.agg #[.int .i64 k,.int .i64 n,.string nm,vr,vk,vs])
def TmS (w:World) (lo hi:Nat) (t:Tm) (v:Value):Prop:=∀ P:Nat→Nat→Tm→Value→Prop,TsCl w P→P lo hi t v
theorem KdS.mono {w:World} {P Q:Nat→Nat→Tm→Value→Prop} {lo hi:Nat} {l:List Tm} {v:Value} (h:KdS w P lo hi l v) (hq:∀ c d x v,lo≤c→d≤hi→P c d x v→Q c d x v):KdS w Q lo hi l v:=by
 obtain⟨a,cap,h1,h2,h3⟩:=h
 refine⟨a,cap,h1,h2,?_⟩
 rcases h3 with h3|⟨G,cb,a1,a2,a3,a4,a5,a6,a7⟩
 ·exact .inl h3
 ·refine .inr ⟨G,cb,a1,a2,a3,a4,a5,a6,fun j x hx=>?_⟩
  obtain⟨u0,u1,u2,u3,u4,u5,b1,b2⟩:=a7 j x hx
  have hj:=some_lt hx
  exact⟨u0,u1,u2,u3,u4,u5,hq _ _ _ _ (by have:=a6 0 j (Nat.zero_le _) (by omega);omega) (by have:=a6 (j+1) l.length (by omega) (Nat.le_refl _);omega) b1,b2⟩
theorem SyS.mono {w:World} {P Q:Nat→Nat→Tm→Value→Prop} {lo hi:Nat} {l:List (List C × List Tm)} {v:Value} (h:SyS w P lo hi l v) (hq:∀ c d x v,lo≤c→d≤hi→P c d x v→Q c d x v):SyS w Q lo hi l v:=by
 obtain⟨a,cap,h1,h2,h3⟩:=h
 refine⟨a,cap,h1,h2,?_⟩
 rcases h3 with h3|⟨G,cb,a1,a2,a3,a4,a5,a6,a7⟩
 ·exact .inl h3
 ·refine .inr ⟨G,cb,a1,a2,a3,a4,a5,a6,fun j x hx=>?_⟩
  obtain⟨m,vf,vk,b1,b2,b3,b4,b5⟩:=a7 j x hx
  have hj:=some_lt hx
  exact⟨m,vf,vk,b1,b2,b3,b4.mono fun c d x v q1 q2 q=>hq c d x v (by have:=a6 0 j (Nat.zero_le _) (by omega);omega) (by have:=a6 (j+1) l.length (by omega) (Nat.le_refl _);omega) q,b5⟩
theorem TmS.mk {w:World} {lo hi:Nat} (m1 m2:Nat) (k n:Int) (nm:ByteArray) (r:List C) (kids:List Tm) (sys:List (List C × List Tm)) (vr vk vs:Value) (l1:lo≤m1) (l2:m1≤m2) (l3:m2≤hi) (l4:hi≤w.heap.size) (hk:I64 k) (hn:I64 n) (h1:ClRow (Iv lo m1) w r vr) (h2:KdS w (TmS w) m1 m2 kids vk) (h3:SyS w (TmS w) m2 hi sys vs) :
  TmS w lo hi (.mk k n nm r kids sys) (.agg #[.int .i64 k,.int .i64 n,.string nm,vr,vk,vs]) :=
 fun P h=>h lo m1 m2 hi k n nm r kids sys vr vk vs l1 l2 l3 l4 hk hn h1 (h2.mono fun _ _ _ _ _ _ hx=>hx P h) (h3.mono fun _ _ _ _ _ _ hx=>hx P h)
structure TsTop (w:World) (lo m1 m2 hi:Nat) (t:Tm) (ra:Option Addr) (rc:Nat) (ka:Option Addr) (kc:Nat) (sa:Option Addr) (sc:Nat):Prop where
 l1:lo≤m1
 l2:m1≤m2
 l3:m2≤hi
 l4:hi≤w.heap.size
 ik:I64 t.kind
 inn:I64 t.n
 row:ClRow (Iv lo m1) w t.r (.slice ra t.r.length rc)
 kids:KdS w (TmS w) m1 m2 t.kids (.slice ka t.kids.length kc)
 sys:SyS w (TmS w) m2 hi t.sys (.slice sa t.sys.length sc)
theorem TsTop.value {w:World} {lo m1 m2 hi:Nat} {t:Tm} {ra rc ka kc sa sc} (h:TsTop w lo m1 m2 hi t ra rc ka kc sa sc):TmS w lo hi t (.agg #[.int .i64 t.kind,.int .i64 t.n,.string t.name,.slice ra t.r.length rc,.slice ka t.kids.length kc,.slice sa t.sys.length sc]):=by
 obtain⟨k,n,s,r,kids,sys⟩:=t
 exact .mk m1 m2 _ _ _ _ _ _ _ _ _ h.l1 h.l2 h.l3 h.l4 h.ik h.inn h.row h.kids h.sys
theorem TmS.form {w:World} {lo hi:Nat} {t:Tm} {v:Value} (h:TmS w lo hi t v):∃ ra rc ka kc sa sc m1 m2,v=.agg #[.int .i64 t.kind,.int .i64 t.n,.string t.name,.slice ra t.r.length rc,.slice ka t.kids.length kc,.slice sa t.sys.length sc]∧TsTop w lo m1 m2 hi t ra rc ka kc sa sc:=by
 have h2:=h (fun lo hi t v=>TmS w lo hi t v∧∃ ra rc ka kc sa sc m1 m2,v=.agg #[.int .i64 t.kind,.int .i64 t.n,.string t.name,.slice ra t.r.length rc,.slice ka t.kids.length kc,.slice sa t.sys.length sc]∧TsTop w lo m1 m2 hi t ra rc ka kc sa sc) (fun lo m1 m2 hi k n nm r kids sys vr vk vs l1 l2 l3 l4 hk hn h1 h2 h3=>by
  have e2:=h2.mono (Q:=TmS w) fun _ _ _ _ _ _ h=>h.1
  have e3:=h3.mono (Q:=TmS w) fun _ _ _ _ _ _ h=>h.1
  refine⟨.mk m1 m2 k n nm r kids sys vr vk vs l1 l2 l3 l4 hk hn h1 e2 e3,?_⟩
  obtain⟨ra,rc,rfl,_⟩:=id h1
  obtain⟨ka,kc,rfl,_⟩:=id h2
  obtain⟨sa,sc,rfl,_⟩:=id h3
  exact⟨ra,rc,ka,kc,sa,sc,m1,m2,rfl,l1,l2,l3,l4,hk,hn,h1,e2,e3⟩)
 exact h2.2
theorem KdS.keepB {w w':World} {P:Nat→Nat→Tm→Value→Prop} {lo hi:Nat} {l:List Tm} {v:Value} (h:KdS w P lo hi l v) (hb:∀ q,lo≤q→q<hi→q<w.heap.size→w'.heap[q]? = w.heap[q]?):KdS w' P lo hi l v:=by
 obtain⟨a,cap,h1,h2,h3⟩:=h
 refine⟨a,cap,h1,h2,?_⟩
 rcases h3 with h3|⟨G,cb,a1,a2,a3,a4,a5,a6,a7⟩
 ·exact .inl h3
 ·have hG:w'.heap[G]? = w.heap[G]?:=hb G a2 (by have:=a6 0 l.length (Nat.zero_le _) (Nat.le_refl _);omega) a5.lt
  refine .inr ⟨G,cb,a1,a2,a3,a4,?_,a6,fun j x hx=>?_⟩
  ·obtain⟨cs,e,es⟩:=a5
   exact⟨cs,hG.trans e,es⟩
  ·obtain⟨u0,u1,u2,u3,u4,u5,b1,c0,c1,c2,c3,c4,c5⟩:=a7 j x hx
   have c:=fun i=>World.cell?_of_block (w:=w) (w':=w') (a:=⟨G,i,none⟩) hG
   exact⟨u0,u1,u2,u3,u4,u5,b1,(c _).trans c0,(c _).trans c1,(c _).trans c2,(c _).trans c3,(c _).trans c4,(c _).trans c5⟩
theorem SyS.keepB {w w':World} {P:Nat→Nat→Tm→Value→Prop} {lo hi:Nat} {l:List (List C × List Tm)} {v:Value} (h:SyS w P lo hi l v) (hs:w.heap.size≤w'.heap.size) (hb:∀ q,lo≤q→q<hi→q<w.heap.size→w'.heap[q]? = w.heap[q]?):SyS w' P lo hi l v:=by
 obtain⟨a,cap,h1,h2,h3⟩:=h
 refine⟨a,cap,h1,h2,?_⟩
 rcases h3 with h3|⟨G,cb,a1,a2,a3,a4,a5,a6,a7⟩
 ·exact .inl h3
 ·have hG:w'.heap[G]? = w.heap[G]?:=hb G a2 (by have:=a6 0 l.length (Nat.zero_le _) (Nat.le_refl _);omega) a5.lt
  refine .inr ⟨G,cb,a1,a2,a3,a4,?_,a6,fun j x hx=>?_⟩
  ·obtain⟨cs,e,es⟩:=a5
   exact⟨cs,hG.trans e,es⟩
  ·obtain⟨m,vf,vk,b1,b2,b3,b4,c0,c1⟩:=a7 j x hx
   have hj:=some_lt hx
   have g1:=a6 0 j (Nat.zero_le _) (by omega)
   have g2:=a6 (j+1) l.length (by omega) (Nat.le_refl _)
   have c:=fun i=>World.cell?_of_block (w:=w) (w':=w') (a:=⟨G,i,none⟩) hG
   exact⟨m,vf,vk,b1,b2,b3.keep hs (fun _ q=>q) (fun q hq hs=>hb q (by have:=hq.1;omega) (by have:=hq.2;omega) hs),b4.keepB (fun q q1 q2 hs=>hb q (by omega) (by omega) hs),(c _).trans c0,(c _).trans c1⟩
theorem TmS.keep {w w':World} {lo hi:Nat} {t:Tm} {v:Value} (h:TmS w lo hi t v) (hs:w.heap.size≤w'.heap.size) (hb:∀ q,lo≤q→q<hi→q<w.heap.size→w'.heap[q]? = w.heap[q]?):TmS w' lo hi t v:=by
 refine h (fun lo hi t v=>(∀ q,lo≤q→q<hi→q<w.heap.size→w'.heap[q]? = w.heap[q]?)→TmS w' lo hi t v) ?_ hb
 intro lo m1 m2 hi k n nm r kids sys vr vk vs l1 l2 l3 l4 hk hn h1 h2 h3 hb
 refine .mk m1 m2 _ _ _ _ _ _ _ _ _ l1 l2 l3 (by omega) hk hn (h1.keep hs (fun _ q=>q) (fun q hq hs=>hb q hq.1 (by have:=hq.2;omega) hs)) ?_ ?_
 ·exact (h2.mono fun c d x v q1 q2 q=>q fun z z1 z2 z3=>hb z (by omega) (by omega) z3).keepB fun q q1 q2 q3=>hb q (by omega) (by omega) q3
 ·exact (h3.mono fun c d x v q1 q2 q=>q fun z z1 z2 z3=>hb z (by omega) (by omega) z3).keepB hs fun q q1 q2 q3=>hb q (by omega) (by omega) q3
theorem TsTop.keep {w w':World} {lo m1 m2 hi:Nat} {t:Tm} {ra rc ka kc sa sc} (h:TsTop w lo m1 m2 hi t ra rc ka kc sa sc) (hs:w.heap.size≤w'.heap.size) (hb:∀ q,lo≤q→q<hi→q<w.heap.size→w'.heap[q]? = w.heap[q]?):TsTop w' lo m1 m2 hi t ra rc ka kc sa sc:=by
 have l1:=h.l1
 have l2:=h.l2
 have l3:=h.l3
 exact⟨l1,l2,l3,by have:=h.l4;omega,h.ik,h.inn,h.row.keep hs (fun _ q=>q) (fun q hq hs=>hb q hq.1 (by have:=hq.2;omega) hs),
  (h.kids.mono fun c d x v q1 q2 q=>q.keep hs fun z z1 z2 z3=>hb z (by omega) (by omega) z3).keepB (fun q q1 q2 q3=>hb q (by omega) (by omega) q3),
  (h.sys.mono fun c d x v q1 q2 q=>q.keep hs fun z z1 z2 z3=>hb z (by omega) (by omega) z3).keepB hs (fun q q1 q2 q3=>hb q (by omega) (by omega) q3)⟩
theorem KdS.keep {w w':World} {lo hi:Nat} {l:List Tm} {v:Value} (h:KdS w (TmS w) lo hi l v) (hs:w.heap.size≤w'.heap.size) (hb:∀ q,lo≤q→q<hi→q<w.heap.size→w'.heap[q]? = w.heap[q]?):KdS w' (TmS w') lo hi l v :=
 (h.mono fun c d x v q1 q2 q=>q.keep hs fun z z1 z2 z3=>hb z (by omega) (by omega) z3).keepB hb
theorem SyS.keep {w w':World} {lo hi:Nat} {l:List (List C × List Tm)} {v:Value} (h:SyS w (TmS w) lo hi l v) (hs:w.heap.size≤w'.heap.size) (hb:∀ q,lo≤q→q<hi→q<w.heap.size→w'.heap[q]? = w.heap[q]?):SyS w' (TmS w') lo hi l v :=
 (h.mono fun c d x v q1 q2 q=>q.keep hs fun z z1 z2 z3=>hb z (by omega) (by omega) z3).keepB hs hb
theorem KdS.wide {w:World} {P:Nat→Nat→Tm→Value→Prop} {lo hi lo' hi':Nat} {l:List Tm} {v:Value} (h:KdS w P lo hi l v) (h1:lo'≤lo) (h2:hi≤hi'):KdS w P lo' hi' l v:=by
 obtain⟨a,cap,e1,e2,e3⟩:=h
 refine⟨a,cap,e1,e2,?_⟩
 rcases e3 with e3|⟨G,cb,a1,a2,a3,a4,a5⟩
 ·exact .inl e3
 ·exact .inr ⟨G,cb,a1,by omega,a3,by omega,a5⟩
theorem SyS.wide {w:World} {P:Nat→Nat→Tm→Value→Prop} {lo hi lo' hi':Nat} {l:List (List C × List Tm)} {v:Value} (h:SyS w P lo hi l v) (h1:lo'≤lo) (h2:hi≤hi'):SyS w P lo' hi' l v:=by
 obtain⟨a,cap,e1,e2,e3⟩:=h
 refine⟨a,cap,e1,e2,?_⟩
 rcases e3 with e3|⟨G,cb,a1,a2,a3,a4,a5⟩
 ·exact .inl e3
 ·exact .inr ⟨G,cb,a1,by omega,a3,by omega,a5⟩
theorem cl_wide {w:World} {lo hi lo' hi':Nat} {l:List C} {v:Value} (h:ClRow (Iv lo hi) w l v) (h1:lo'≤lo) (h2:hi≤hi'):ClRow (Iv lo' hi') w l v :=
 h.keep (Nat.le_refl _) (fun q hq=>⟨by have:=hq.1;omega,by have:=hq.2;omega⟩) (fun _ _ _=>rfl)
theorem TmS.wide {w:World} {lo hi lo' hi':Nat} {t:Tm} {v:Value} (h:TmS w lo hi t v) (h1:lo'≤lo) (h2:hi≤hi') (h3:hi'≤w.heap.size):TmS w lo' hi' t v:=by
 obtain⟨ra,rc,ka,kc,sa,sc,m1,m2,rfl,ht⟩:=h.form
 have l1:=ht.l1
 have l2:=ht.l2
 have l3:=ht.l3
 exact TsTop.value ⟨by omega,l2,by omega,h3,ht.ik,ht.inn,cl_wide ht.row h1 (Nat.le_refl _),ht.kids,ht.sys.wide (Nat.le_refl _) h2⟩
theorem KdS.kd {w:World} {P:Nat→Nat→Tm→Value→Prop} {Q:Tm→Value→Prop} {lo hi:Nat} {l:List Tm} {v:Value} (h:KdS w P lo hi l v) (hh:hi≤w.heap.size) (hq:∀ c d x v,lo≤c→d≤hi→P c d x v→Q x v):KdT (Iv lo hi) w Q l v:=by
 obtain⟨a,cap,h1,h2,h3⟩:=h
 refine⟨a,cap,h1,h2,fun j x hx=>?_⟩
 rcases h3 with h3|⟨G,cb,a1,a2,a3,a4,a5,a6,a7⟩
 ·subst h3;simp at hx
 ·obtain⟨u0,u1,u2,u3,u4,u5,b1,c⟩:=a7 j x hx
  have hj:=some_lt hx
  have g1:=a6 0 j (Nat.zero_le _) (by omega)
  have g2:=a6 (j+1) l.length (by omega) (Nat.le_refl _)
  have g3:=a6 0 l.length (Nat.zero_le _) (Nat.le_refl _)
  exact⟨G,0,u0,u1,u2,u3,u4,u5,a1,⟨a2,by omega⟩,a5.lt,hq _ _ _ _ (by omega) (by omega) b1,by simpa using c⟩
theorem SyS.sy {w:World} {P:Nat→Nat→Tm→Value→Prop} {Q:Tm→Value→Prop} {lo hi:Nat} {l:List (List C × List Tm)} {v:Value} (h:SyS w P lo hi l v) (hh:hi≤w.heap.size) (hq:∀ c d x v,lo≤c→d≤hi→P c d x v→Q x v):SyT (Iv lo hi) w Q l v:=by
 obtain⟨a,cap,h1,h2,h3⟩:=h
 refine⟨a,cap,h1,h2,fun j x hx=>?_⟩
 rcases h3 with h3|⟨G,cb,a1,a2,a3,a4,a5,a6,a7⟩
 ·subst h3;simp at hx
 ·obtain⟨m,vf,vk,b1,b2,b3,b4,c⟩:=a7 j x hx
  have hj:=some_lt hx
  have g1:=a6 0 j (Nat.zero_le _) (by omega)
  have g2:=a6 (j+1) l.length (by omega) (Nat.le_refl _)
  have g3:=a6 0 l.length (Nat.zero_le _) (Nat.le_refl _)
  refine⟨G,0,vf,vk,a1,⟨a2,by omega⟩,a5.lt,cl_wide b3 (by omega) (by omega),?_,by simpa using c⟩
  exact (b4.kd (by omega) fun c d x v q1 q2 q=>hq c d x v (by omega) (by omega) q).keep (Nat.le_refl _) (fun q hq=>⟨by have:=hq.1;omega,by have:=hq.2;omega⟩) (fun _ _ _=>rfl)
theorem TmS.tm {w:World} {lo hi:Nat} {t:Tm} {v:Value} (h:TmS w lo hi t v):TmIn (Iv lo hi) w t v:=by
 refine h (fun lo hi t v=>TmIn (Iv lo hi) w t v) ?_
 intro lo m1 m2 hi k n nm r kids sys vr vk vs l1 l2 l3 l4 hk hn h1 h2 h3
 refine .mk _ _ _ _ _ _ _ _ _ hk hn (cl_wide h1 (Nat.le_refl _) (by omega)) ?_ ?_
 ·exact (h2.kd (Q:=TmIn (Iv lo hi) w) (by omega) fun c d x v q1 q2 q=>q.up fun z hz=>⟨by have:=hz.1;omega,by have:=hz.2;omega⟩).keep (Nat.le_refl _) (fun z hz=>⟨by have:=hz.1;omega,by have:=hz.2;omega⟩) (fun _ _ _=>rfl)
 ·exact (h3.sy (Q:=TmIn (Iv lo hi) w) (by omega) fun c d x v q1 q2 q=>q.up fun z hz=>⟨by have:=hz.1;omega,by have:=hz.2;omega⟩).keep (Nat.le_refl _) (fun z hz=>⟨by have:=hz.1;omega,by have:=hz.2;omega⟩) (fun _ _ _=>rfl)
theorem ks_nil (w:World) (P:Nat→Nat→Tm→Value→Prop) (lo hi:Nat):KdS w P lo hi [] (.slice none 0 0):=⟨none,0,rfl,Nat.le_refl _,.inl rfl⟩
theorem ss_nil (w:World) (P:Nat→Nat→Tm→Value→Prop) (lo hi:Nat):SyS w P lo hi [] (.slice none 0 0):=⟨none,0,rfl,Nat.le_refl _,.inl rfl⟩
theorem OwnsC.iv {w w':World} {base:Nat} {v:Value} {l:List C} (h:OwnsC w base v l):ClRow (Iv base w.heap.size) w l v:=by
 obtain⟨a,cap,h1,h2,h3⟩:=OwnsC.cl h
 refine⟨a,cap,h1,h2,fun j c hj=>?_⟩
 obtain⟨g,off,a1,a2,a3,a4⟩:=h3 j c hj
 exact⟨g,off,a1,⟨a2,a3⟩,a3,a4⟩
def CpS (N:Nat):Prop:=∀ (t:Tm) (v:Value) (w:World),TmIn Tt w t v→blk t≤N→Calls Tryz.prog 98 #[v] w fun e w'=>∃ v',e=.returned v'∧TmS w' w.heap.size w'.heap.size t v'∧Below w.heap.size w w'
structure Mo (G k top:Nat) (cb:Nat→Nat):Prop where
 lo:G<cb 0
 up:∀ i j,i≤j→j≤k→cb i≤cb j
 top:cb k≤top
theorem Mo.more {G k top top':Nat} {cb:Nat→Nat} (h:Mo G k top cb) (ht:top≤top'):Mo G k top' cb:=⟨h.lo,h.up,Nat.le_trans h.top ht⟩
def nextB (k:Nat) (cb:Nat→Nat) (c:Nat):Nat→Nat:=fun i=>if i≤k then cb i else c
theorem Mo.next {G k top c:Nat} {cb:Nat→Nat} (h:Mo G k top cb) (hc:top≤c):Mo G (k+1) c (nextB k cb c):=by
 have h3:=h.top
 refine⟨by unfold nextB;rw [if_pos (Nat.zero_le _)];exact h.lo,fun i j hij hj=>?_,by unfold nextB;rw [if_neg (by omega)];exact Nat.le_refl _⟩
 unfold nextB
 by_cases q1:j≤k
 ·rw [if_pos (by omega),if_pos q1];exact h.up i j hij q1
 ·rw [if_neg q1]
  by_cases q2:i≤k
  ·rw [if_pos q2];have:=h.up i k q2 (Nat.le_refl _);omega
  ·rw [if_neg q2];exact Nat.le_refl _
def PutS (w:World) (G:Nat) (l:List Tm) (k:Nat) (cb:Nat→Nat):Prop:=∀ (j:Nat) (x:Tm),j<k→l[j]? = some x→∃ u0 u1 u2 u3 u4 u5,TmS w (cb j) (cb (j+1)) x (.agg #[u0,u1,u2,u3,u4,u5]) ∧
 w.cell? ⟨G,j*6,none⟩=some u0∧w.cell? ⟨G,j*6+1,none⟩=some u1∧w.cell? ⟨G,j*6+2,none⟩=some u2∧w.cell? ⟨G,j*6+3,none⟩=some u3∧w.cell? ⟨G,j*6+4,none⟩=some u4∧w.cell? ⟨G,j*6+5,none⟩=some u5
theorem PutS.row {w:World} {G top:Nat} {l:List Tm} {cb:Nat→Nat} (h:PutS w G l l.length cb) (hm:Mo G l.length top cb) (hb:BlkC w G 26 (l.length*6)) (base:Nat) (hG:base≤G):KdS w (TmS w) base top l (.slice (some ⟨G,0,none⟩) l.length l.length) :=
 ⟨_,_,rfl,Nat.le_refl _,.inr ⟨G,cb,rfl,hG,hm.lo,hm.top,hb,hm.up,fun j x hx=>h j x (some_lt hx) hx⟩⟩
theorem PutS.kn {w w':World} {G:Nat} {l:List Tm} {k:Nat} {cb:Nat→Nat} (h:PutS w G l k cb) (hb:Below w.heap.size w w') (hG:G<w.heap.size):PutS w' G l k cb:=fun j x hj hx=>by
 obtain⟨u0,u1,u2,u3,u4,u5,h1,c0,c1,c2,c3,c4,c5⟩:=h j x hj hx
 have c:=fun i=>hb.cell (p:=⟨G,i,none⟩) hG
 exact⟨u0,u1,u2,u3,u4,u5,h1.keep hb.size (fun g _ _ hg=>hb.block g hg),(c _).trans c0,(c _).trans c1,(c _).trans c2,(c _).trans c3,(c _).trans c4,(c _).trans c5⟩
theorem PutS.put {w:World} {G k m top:Nat} {l:List Tm} {x:Tm} {cb:Nat→Nat} (hP:PutS w G l k cb) (hm:Mo G k top cb) (hB:BlkC w G 26 m) (hx:l[k]? = some x) (hk:k*6+5<m) (u0 u1 u2 u3 u4 u5:Value) (c:Nat) (htc:top≤c) (hcw:c≤w.heap.size) (hv:TmS w top c x (.agg #[u0,u1,u2,u3,u4,u5])) :
  PutS (set6 w G k u0 u1 u2 u3 u4 u5) G l (k+1) (nextB k cb c)∧Mo G (k+1) c (nextB k cb c)∧BlkC (set6 w G k u0 u1 u2 u3 u4 u5) G 26 m∧Kn (fun q=>q≠G) w (set6 w G k u0 u1 u2 u3 u4 u5):=by
 obtain⟨b1,b2,b3⟩:=set6_all hB hk u0 u1 u2 u3 u4 u5
 have hlo:=hm.lo
 have htp:=hm.top
 have up:∀ lo hi y v,G<lo→TmS w lo hi y v→TmS (set6 w G k u0 u1 u2 u3 u4 u5) lo hi y v:=fun lo hi y v hl h=>h.keep b2.size (fun g q1 q2 q3=>b2.block g (by omega) q3)
 refine⟨fun j y hj hy=>?_,hm.next htc,b1,b2⟩
 rcases Nat.lt_or_ge j k with hjk|hjk
 ·obtain⟨a0,a1,a2,a3,a4,a5,h1,c0,c1,c2,c3,c4,c5⟩:=hP j y hjk hy
  have e1:nextB k cb c j=cb j:=by unfold nextB;rw [if_pos (by omega)]
  have e2:nextB k cb c (j+1)=cb (j+1):=by unfold nextB;rw [if_pos (by omega)]
  rw [e1,e2]
  refine⟨a0,a1,a2,a3,a4,a5,up _ _ _ _ (by have:=hm.up 0 j (Nat.zero_le _) (by omega);omega) h1,?_,?_,?_,?_,?_,?_⟩
  all_goals
   rw [b3,if_neg (by omega),if_neg (by omega),if_neg (by omega),if_neg (by omega),if_neg (by omega),if_neg (by omega)]
   assumption
 ·obtain rfl:j=k:=by omega
  rw [hx] at hy
  cases hy
  have e1:nextB j cb c j=cb j:=by unfold nextB;rw [if_pos (Nat.le_refl _)]
  have e2:nextB j cb c (j+1)=c:=by unfold nextB;rw [if_neg (by omega)]
  have g0:=hm.up 0 j (Nat.zero_le _) (Nat.le_refl _)
  rw [e1,e2]
  refine⟨u0,u1,u2,u3,u4,u5,up _ _ _ _ (by omega) (hv.wide htp (Nat.le_refl _) hcw),?_,?_,?_,?_,?_,?_⟩
  ·rw [b3,if_neg (by omega),if_neg (by omega),if_neg (by omega),if_neg (by omega),if_neg (by omega),if_pos rfl]
  ·rw [b3,if_neg (by omega),if_neg (by omega),if_neg (by omega),if_neg (by omega),if_pos rfl]
  ·rw [b3,if_neg (by omega),if_neg (by omega),if_neg (by omega),if_pos rfl]
  ·rw [b3,if_neg (by omega),if_neg (by omega),if_pos rfl]
  ·rw [b3,if_neg (by omega),if_pos rfl]
  ·rw [b3,if_pos rfl]
def BcS (N:Nat):Prop:=∀ (l:List Tm) (v:Value) (w:World),KdT Tt w (TmIn Tt w) l v→blkL l≤N→Calls Tryz.prog 146 #[v,.func (.func 98) #[] #[]] w fun e w'=>∃ v',e=.returned v'∧KdS w' (TmS w') w.heap.size w'.heap.size l v'∧Below w.heap.size w w'
theorem becomeS_step (N:Nat) (hN:N≤100000) (IH:CpS N):BcS N:=by
 intro l v w hl hb
 obtain⟨a,cap,rfl,_⟩:=id hl
 have eg:=copy_eg
 have hll:=blkL_len l
 by_cases hz:l=[]
 ·subst hz
  go_enter Tryz.func146,Tryz.ntmps146
  go_wp2
  go_ret
  exact⟨_,rfl,ks_nil _ _ _ _,Below.refl _ _⟩
 ·have hpos:0<l.length:=List.length_pos_iff.2 hz
  obtain⟨L,hL⟩:∃ L,L=l.length:=⟨_,rfl⟩
  have HL:Hid (L=l.length):=hL
  have Hl:Hid (KdT Tt w (TmIn Tt w) l (.slice a L cap)):=by rw [hL];exact hl
  rw [← hL] at hpos hll ⊢
  have q0:((L:Int) == 0)=false:=by simp;omega
  obtain⟨W,hmk,hBlk,hbW,sW⟩:=makeT L w (by omega)
  have hLm:L≤100000:=by omega
  clear hL hl hz hll
  go_enter Tryz.func146,Tryz.ntmps146
  go_wp2
  go_loopw [16] (fun i wr=>∃ (k:Nat) (cb:Nat→Nat),k≤L∧i=.int .i64 k∧PutS wr w.heap.size l k cb∧Mo w.heap.size k wr.heap.size cb∧BlkC wr w.heap.size 26 (L*6)∧Below w.heap.size w wr) (fun i _=>L - (intOf i).toNat)
  case atStart=>exact⟨0,fun _=>w.heap.size+1,Nat.zero_le _,rfl,fun j x hj=>by omega,⟨by omega,fun _ _ _ _=>Nat.le_refl _,by rw [sW];exact Nat.le_refl _⟩,hBlk,hbW⟩
  case round =>
   obtain⟨k,cb,hk,rfl,hP,hMo,hBk,hB⟩:=hrel
   by_cases hlt:k<L
   ·obtain⟨x,hx⟩:=someL (l:=l) (k:=k) (by rw [← HL.out];exact hlt)
    obtain⟨g1,o1,ra,rc,ka,kc,sa,sc,rfl,_,h6,ht⟩:=(Hl.out.blw hB).at hx
    obtain⟨_,y0,y1,y2,y3,y4,y5⟩:=h6
    have hbx:blk x≤N:=Nat.le_trans (sumN_mem (List.mem_map_of_mem (f:=blk) (List.mem_of_getElem? hx))) hb
    obtain⟨w1,hw1⟩:∃ w1,w1=wr.alloc (.cells #[.int .i64 x.kind,.int .i64 x.n,.string x.name,.slice ra x.r.length rc,.slice ka x.kids.length kc,.slice sa x.sys.length sc] 26):=⟨_,rfl⟩
    have b1:Below wr.heap.size wr w1:=by rw [hw1];exact belowA _ _
    have cc:=IH x _ w1 (ht.blw b1).value hbx
    obtain⟨_,z0,z1,z2,z3,z4,z5⟩:Cs6 w1 wr.heap.size 0 x ra rc ka kc sa sc:=by rw [hw1];exact cs6_new wr x ra rc ka kc sa sc
    simp only [Nat.zero_add] at z1 z2 z3 z4 z5
    have H1:Hid (_=_):=hw1
    have hBk1:=hBk.kn (No:=fun _=>True) (Kn.of_below b1) trivial
    have hP1:=hP.kn b1 hBk.lt
    have hGlt:=hBk.lt
    have s1:wr.heap.size<w1.heap.size:=by rw [hw1];simp
    have hB1:=bchain hB b1
    clear hw1 hP hBk ht b1 hbx
    go_upto_region 7 with fail
    rw [← H1.out]
    clear H1
    go_wp2_with fail
    refine cc.mono ?_
    rintro e w2 ⟨v2,rfl,hv2,hb2⟩
    have hMo:=hMo.more (Nat.le_of_lt s1)
    clear cc y0 y1 y2 y3 y4 y5 z0 z1 z2 z3 z4 z5
    obtain⟨ra2,rc2,ka2,kc2,sa2,sc2,m1,m2,rfl,ht2⟩:=hv2.form
    have hBk2:=hBk1.kn (No:=fun _=>True) (Kn.of_below hb2) trivial
    have hP2:=hP1.kn hb2 hBk1.lt
    have hB2:=bchain hB1 hb2
    obtain⟨o0,e0⟩:=hBk2.cell (k*6) (by omega)
    obtain⟨o1,e1⟩:=hBk2.cell (k*6+1) (by omega)
    obtain⟨o2,e2⟩:=hBk2.cell (k*6+2) (by omega)
    obtain⟨o3,e3⟩:=hBk2.cell (k*6+3) (by omega)
    obtain⟨o4,e4⟩:=hBk2.cell (k*6+4) (by omega)
    obtain⟨o5,e5⟩:=hBk2.cell (k*6+5) (by omega)
    have f0:=hBk2.soft (k*6)
    have f1:=hBk2.soft (k*6+1)
    have f2:=hBk2.soft (k*6+2)
    have f3:=hBk2.soft (k*6+3)
    have f4:=hBk2.soft (k*6+4)
    have f5:=hBk2.soft (k*6+5)
    have hfin:=hP2.put hMo hBk2 hx (by omega) _ _ _ _ _ _ _ hb2.size (Nat.le_refl _) ht2.value
    unfold set6 at hfin
    have HF:Hid (_∧_∧_∧_):=hfin
    clear hfin
    go_wp2_with fail
    obtain⟨q1,qm,q2,q3⟩:=HF.out
    refine⟨⟨k+1,_,by omega,by go_num,q1,qm.more q3.size,q2,?_⟩,by simp [intOf];omega⟩
    exact hB2.trans (q3.below (fun q hq=>by omega) hB2.size)
   ·obtain rfl:k=L:=by omega
    have hr:=PutS.row (base:=w.heap.size) (l:=l) (G:=w.heap.size) (cb:=cb) (top:=wr.heap.size) (by rw [← HL.out];exact hP) (by rw [← HL.out];exact hMo) (by rw [← HL.out];exact hBk) (Nat.le_refl _)
    rw [← HL.out] at hr
    clear hP hBk
    go_wp2
    go_ret
    exact⟨_,rfl,hr,hB⟩
def CbS (N:Nat):Prop:=∀ (b:List C × List Tm) (fa:Option Addr) (n1 fc:Nat) (ka:Option Addr) (n2 kc:Nat) (w:World),ClRow Tt w b.1 (.slice fa n1 fc)→KdT Tt w (TmIn Tt w) b.2 (.slice ka n2 kc)→b.1.length≤N→blkL b.2≤N →
 Calls Tryz.prog 148 #[.agg #[.slice fa n1 fc,.slice ka n2 kc]] w fun e w'=>∃ fa' fc' ka' kc',e=.returned (.agg #[.slice fa' b.1.length fc',.slice ka' b.2.length kc'])∧∃ m,w.heap.size≤m∧m≤w'.heap.size∧ClRow (Iv w.heap.size m) w' b.1 (.slice fa' b.1.length fc')∧KdS w' (TmS w') m w'.heap.size b.2 (.slice ka' b.2.length kc')∧Below w.heap.size w w'
theorem copyBranchS_step (N:Nat) (hN:N≤100000) (IH:BcS N):CbS N:=by
 intro b fa n1 fc ka n2 kc w h1 h2 hb hb'
 have eg:=copy_eg
 obtain⟨w2,hw2⟩:∃ w2,w2=(w.alloc (.cells #[.slice fa n1 fc,.slice ka n2 kc] 40)).alloc (.cells #[.slice none 0 0,.slice none 0 0] 40):=⟨_,rfl⟩
 have hb2:Below w.heap.size w w2:=by rw [hw2];exact bchain (belowA _ _) (belowA _ _)
 have m1:w2.heap[w.heap.size]? = some (.cells #[.slice fa n1 fc,.slice ka n2 kc] 40 (0,0)):=by
  rw [hw2];exact (Below.heap_alloc _ _ _ (by simp)).trans (heapNew w _)
 have m2:BlkC w2 (w.heap.size+1) 40 2:=⟨#[.slice none 0 0,.slice none 0 0],by
  rw [hw2];have:=heapNew (w.alloc (.cells #[.slice fa n1 fc,.slice ka n2 kc] 40)) (.cells #[.slice none 0 0,.slice none 0 0] 40);rwa [World.size_alloc] at this,rfl⟩
 have s2:w2.heap.size=w.heap.size+2:=by rw [hw2];simp
 have hS0:BrS w.heap.size (.slice fa n1 fc) (.slice ka n2 kc) w2:=by
  refine⟨?_,?_⟩ <;> (unfold World.cell?; simp [m1])
 have HS:Hid (∀ w',Below w2.heap.size w2 w'→BrS w.heap.size (.slice fa n1 fc) (.slice ka n2 kc) w'):=fun w' q=>⟨(q.cell (p:=⟨w.heap.size,0,none⟩) (by show w.heap.size<_;omega)).trans hS0.1,(q.cell (p:=⟨w.heap.size,1,none⟩) (by show w.heap.size<_;omega)).trans hS0.2⟩
 have H2:Hid (_=_):=hw2
 have c1:=clone_any b.1 _ w2.drew ((h1.blw hb2).keep (Nat.le_refl _) (fun _ h=>h) (fun _ _ _=>rfl)) (by omega)
 have Hk:Hid (∀ w',Below w2.heap.size w2 w'→Calls Tryz.prog 146 #[.slice ka n2 kc,.func (.func 98) #[] #[]] w' fun e w''=>∃ v',e=.returned v'∧KdS w'' (TmS w'') w'.heap.size w''.heap.size b.2 v'∧Below w'.heap.size w' w''):=fun w' q=>IH b.2 _ w' (h2.blw (bchain hb2 q)) hb'
 obtain⟨s,hs⟩:∃ s,s=w.heap.size:=⟨_,rfl⟩
 clear hw2 m1 h1 h2
 go_enter Tryz.func148,Tryz.ntmps148
 go_upto_region 1 with fail
 rw [← H2.out]
 clear H2
 refine wp_region_held_drew (S:=BrS w.heap.size (.slice fa n1 fc) (.slice ka n2 kc)) (by kernel_rfl) hS0 (fun hS=>?_)
 refine wpAnyH_take (i:=0) (v:=.pointer (some ⟨w.heap.size,0,none⟩)) rfl (by kernel_rfl) (by kernel_rfl) (by kernel_rfl) (fun _ _ _ h=>h) (Or.inl ⟨by rfl,fun w hS=>by go_simp⟩) hS ?_
 simp only [Act.put,List.getElem_toArray,List.getElem_cons_zero,List.getElem_cons_succ,List.setIfInBounds_toArray,List.set_cons_zero,List.set_cons_succ]
 refine wpAnyH_take (i:=1) (v:=.slice fa n1 fc) rfl (by kernel_rfl) (by kernel_rfl) (by kernel_rfl) (fun _ _ _ h=>h) (Or.inl ⟨by rfl,fun w hS=>by have e:=hS.1;go_simp⟩) hS ?_
 simp only [Act.put,List.getElem_toArray,List.getElem_cons_zero,List.getElem_cons_succ,List.setIfInBounds_toArray,List.set_cons_zero,List.set_cons_succ]
 refine wpAnyH_take (i:=3) (v:=.pointer (some ⟨w.heap.size,1,none⟩)) rfl (by kernel_rfl) (by kernel_rfl) (by kernel_rfl) (fun _ _ _ h=>h) (Or.inl ⟨by rfl,fun w hS=>by go_simp⟩) hS ?_
 simp only [Act.put,List.getElem_toArray,List.getElem_cons_zero,List.getElem_cons_succ,List.setIfInBounds_toArray,List.set_cons_zero,List.set_cons_succ]
 refine wpAnyH_take (i:=4) (v:=.slice ka n2 kc) rfl (by kernel_rfl) (by kernel_rfl) (by kernel_rfl) (fun _ _ _ h=>h) (Or.inl ⟨by rfl,fun w hS=>by have e:=hS.2;go_simp⟩) hS ?_
 simp only [Act.put,List.getElem_toArray,List.getElem_cons_zero,List.getElem_cons_succ,List.setIfInBounds_toArray,List.set_cons_zero,List.set_cons_succ]
 refine wpAnyH_ready (rs:=[2]) (by kernel_rfl) (by simp) ?_
 refine ready_cons rfl (fun KK hKK=>?_) AllReadyH.nil
 refine⟨?_⟩
 go_simp
 refine c1.mono ?_
 rintro e w3 ⟨v3,rfl,hO3,hb3⟩
 have q3:Below w2.heap.size w2 w3:=((Below.refl _ _).drew).trans hb3
 obtain⟨pa,ca,rfl⟩:=OwnsC.len hO3
 have cB:=Hk.out w3 q3
 refine hKK.out _ _ (HS.out w3 q3) (fun hS3=>?_)
 clear c1 hKK KK
 try simp only [Act.put,List.getElem_toArray,List.getElem_cons_zero,List.getElem_cons_succ,List.setIfInBounds_toArray,List.set_cons_zero,List.set_cons_succ]
 refine wpAnyH_ready (rs:=[5]) (by kernel_rfl) (by simp) ?_
 refine ready_cons rfl (fun KK hKK=>?_) AllReadyH.nil
 refine⟨?_⟩
 go_simp
 refine cB.mono ?_
 rintro e w4 ⟨v4,rfl,hK4,hb4⟩
 have q4:=bchain q3 hb4
 obtain⟨ka4,kc4,rfl,_⟩:=id hK4
 refine hKK.out _ _ (HS.out w4 q4) (fun hS4=>?_)
 clear cB hKK KK
 try simp only [Act.put,List.getElem_toArray,List.getElem_cons_zero,List.getElem_cons_succ,List.setIfInBounds_toArray,List.set_cons_zero,List.set_cons_succ]
 have m4:=m2.kn (No:=fun _=>True) (Kn.of_below q4) trivial
 obtain⟨o0,e0⟩:=m4.cell 0 (by omega)
 obtain⟨o1,e1⟩:=m4.cell 1 (by omega)
 have f0:=m4.soft 0
 have f1:=m4.soft 1
 obtain⟨z1,hz1⟩:∃ z,z=b.1.length:=⟨_,rfl⟩
 obtain⟨z2,hz2⟩:∃ z,z=b.2.length:=⟨_,rfl⟩
 have hcl:ClRow (Iv w2.heap.size w3.heap.size) w4 b.1 (.slice pa b.1.length ca):=(OwnsC.iv (w':=w3) hO3).blw hb4
 have hsz34:=hb4.size
 obtain⟨w5,hw5⟩:∃ w5,w5=(w4.setCell ⟨w.heap.size+1,0,none⟩ (.slice pa b.1.length ca)).setCell ⟨w.heap.size+1,1,none⟩ (.slice ka4 b.2.length kc4):=⟨_,rfl⟩
 have k5:Kn (fun q=>q≠w.heap.size+1) w4 w5:=by
  rw [hw5]
  exact ((Kn.refl _ _).setCell (p:=⟨w.heap.size+1,0,none⟩) (.inl fun h=>h rfl) _).setCell (p:=⟨w.heap.size+1,1,none⟩) (.inl fun h=>h rfl) _
 have hS5:BrS w.heap.size (.slice fa n1 fc) (.slice ka n2 kc) w5:=⟨(k5.cell (p:=⟨w.heap.size,0,none⟩) (by show w.heap.size≠_;omega) (by show w.heap.size<_;have:=q4.size;omega)).trans hS4.1,(k5.cell (p:=⟨w.heap.size,1,none⟩) (by show w.heap.size≠_;omega) (by show w.heap.size<_;have:=q4.size;omega)).trans hS4.2⟩
 have m40:=m4.set 0 (.slice pa b.1.length ca)
 have g0:w5.cell? ⟨w.heap.size+1,0,none⟩=some (.slice pa b.1.length ca):=by rw [hw5,m40.get (by omega),if_neg (by omega),m4.get (by omega),if_pos rfl]
 have g1:w5.cell? ⟨w.heap.size+1,1,none⟩=some (.slice ka4 b.2.length kc4):=by rw [hw5,m40.get (by omega),if_pos rfl]
 have hsz3:w2.heap.size≤w3.heap.size:=q3.size
 have HR:Hid (w.heap.size≤w3.heap.size∧w3.heap.size≤w5.heap.size∧ClRow (Iv w.heap.size w3.heap.size) w5 b.1 (.slice pa b.1.length ca)∧KdS w5 (TmS w5) w3.heap.size w5.heap.size b.2 (.slice ka4 b.2.length kc4)∧Below w.heap.size w w5):=by
  have s45:=k5.size
  refine⟨by omega,by omega,hcl.keep k5.size (fun q hq=>⟨by have:=hq.1;omega,hq.2⟩) (fun g hg hs=>k5.block g (by have:=hg.1;omega) hs),(hK4.keep k5.size (fun g q1 q2 q3=>k5.block g (by omega) q3)).wide (Nat.le_refl _) s45,?_⟩
  exact (bchain hb2 q4).trans (k5.below (fun q hq=>by omega) (by have:=q4.size;omega))
 rw [← hz1,← hz2] at hw5 HR
 rw [← hz1] at g0
 rw [← hz2] at g1
 have Hz:Hid (z1=b.1.length∧z2=b.2.length):=⟨hz1,hz2⟩
 try simp only [← hz1,← hz2]
 have H5:Hid (_=_):=hw5
 clear hw5 hz1 hz2 hcl m40 hK4 hO3 hb3 hb4 k5 m4 m2 hS hS0 hS3
 refine wpAnyH_take (i:=6) (v:=.agg #[.slice pa z1 ca,.slice ka4 z2 kc4]) rfl (by kernel_rfl) (by kernel_rfl) (by kernel_rfl) (fun _ _ _ h=>h) (Or.inl ⟨by rfl,fun w hS=>by go_simp⟩) hS4 ?_
 try simp only [Act.put,List.getElem_toArray,List.getElem_cons_zero,List.getElem_cons_succ,List.setIfInBounds_toArray,List.set_cons_zero,List.set_cons_succ]
 refine wpAnyH_ready (rs:=[7]) (by kernel_rfl) (by simp) ?_
 refine ready_cons rfl (fun KK hKK=>?_) AllReadyH.nil
 refine⟨?_⟩
 go_simp
 rw [← H5.out]
 refine hKK.out _ _ hS5 (fun hS6=>?_)
 clear hKK KK H5
 try simp only [Act.put,List.getElem_toArray,List.getElem_cons_zero,List.getElem_cons_succ,List.setIfInBounds_toArray,List.set_cons_zero,List.set_cons_succ]
 refine wpAnyH_done (by kernel_rfl) ?_ _
 clear e0 e1 f0 f1 hS4 hS5 hS6
 go_wp2
 obtain⟨p1,p2,a1,a2,a3⟩:=HR.out
 obtain⟨a4,a5⟩:=Hz.out
 rw [← a4,← a5]
 exact bodyPost_ret (v:=.agg #[.slice pa z1 ca,.slice ka4 z2 kc4]) (by simp only [results,Tryz.results148];simp [go_sem,g0,g1]) rfl ⟨pa,ca,ka4,kc4,rfl,_,p1,p2,a1,a2,a3⟩
end Go.Proofs.YtblbhmnahoiecaaGreat
