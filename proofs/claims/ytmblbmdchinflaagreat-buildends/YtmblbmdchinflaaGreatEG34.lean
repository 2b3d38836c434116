/- What goes along a line, at the ends. -/
import Derived.Test.YtmblbmdchinflaaGreatEYBdE
import Derived.Test.YtmblbmdchinflaaGreatEYBdS
import Derived.Deep.RegionHeld3
import Derived.Test.YtmblbmdchinflaaGreatEG20
import Derived.Test.YtmblbmdchinflaaGreatEG12
import Derived.Test.YtmblbmdchinflaaGreatEYMeas
import Derived.Test.YtmblbmdchinflaaGreatEYDmT
set_option linter.unusedVariables false
set_option linter.unusedSimpArgs false
set_option maxRecDepth 100000
set_option maxHeartbeats 16000000
namespace Go.Proofs.YtmblbmdchinflaaGreat
open Go.RowKit
theorem wr_ok {t:Tm} (h:wrongN true 0 0 t=0):okT true 0 0 t 0 0=true:=by
 unfold wrongN at h
 split at h
 ·cases h
 ·split at h
  ·assumption
  ·cases h
theorem take_ok {T:Tm} (hw:wrongN true 0 0 T=0) {r:List C} (hr:r=[top0]∨r=[]):takE 0 r T=0∧takT 0 r T=dT (dropOp 0) (dT (putOp 0 r) T 0) 0:=by
 have hl:(liftFF r 0 1).2=0∧(liftFF r 0 1).1=r∧rightF r=true:=by
  rcases hr with rfl|rfl <;> decide +kernel
 have hs:DStp.ok ⟨0,r,if r=[] then negB 0 else posB 0⟩:=by
  rcases hr with rfl|rfl
  ·exact⟨by decide,.inl ⟨rfl,rfl⟩⟩
  ·exact⟨by decide,.inr ⟨rfl,rfl⟩⟩
 have he:eT (putOp 0 r) T 0=0:=e_ok hs _ T 0 0 0 (Nat.le_refl _) (wr_ok hw)
 have hd:wrD 0 r T=0:=by
  unfold wrD
  rw [if_pos hw,if_pos ⟨by decide,hl.2.2⟩]
 have hx:eT (dropOp 0) (dT (putOp 0 r) T 0) 0=0:=e_drop _
 unfold takE takT ansD
 rw [if_pos hd,if_pos hd,if_pos hl.1,if_pos hl.1,hl.2.1,if_pos he,if_pos he,if_pos he,if_pos hx]
 exact⟨hx,rfl⟩
theorem dims_ok {t:Tm} (h:dimsE 1 2 t=0):erT s2 t 0 0=0∧dimsT 1 2 t=liT s2 t 0 0:=by
 unfold dimsE apE at h
 unfold dimsT apT
 by_cases hw:wrL 1 2 t=0
 ·rw [if_pos hw] at h
  refine⟨h,?_⟩
  rw [if_pos hw]
  unfold ansL
  rw [if_pos (show erT ⟨0,0,1,2⟩ t 0 0=0 from h)]
  rfl
 ·rw [if_neg hw] at h
  exact absurd h hw
theorem both_ok {t:Tm} (h:bothE 0 1 t=0):erT (sd (0:Int)) t 0 0=0∧bothT 0 1 t=liT (sd (0:Int)) t 0 0:=by
 have e:bothT 0 1 t=liT ⟨0,0,0,1⟩ (liT ⟨0,0,0,0⟩ t 0 0) 0 0:=by unfold bothT;rw [if_pos h]
 have hz:liT ⟨0,0,0,0⟩ t 0 0=t:=li_zero _ t 0 0 (Nat.le_refl _)
 rw [hz] at e
 unfold bothE at h
 split at h
 ·split at h
  ·split at h
   ·cases h
   ·rw [hz] at h;exact⟨h,e⟩
  ·exact absurd h ‹_›
 ·exact absurd h ‹_›
theorem line_end {t:Tm} (hw:wrongN true 0 0 t=0) (hne:neT t) (h1:dimsE 1 2 t=0) (h2:takE 0 [e2 0 1] (dimsT 1 2 t)=0) {b1 b2:Nat} (hok:okT true 0 0 (lineT [e2 0 1] t) b1 b2=true):dT (dropOp 0) (dT (putOp 0 [top0]) (lineT [e2 0 1] t) 1) 1=t:=by
 obtain⟨g1,g2⟩:=dims_ok h1
 have hl:(liftFF [e2 0 1] 0 1).2=0∧(liftFF [e2 0 1] 0 1).1=[e2 1 2]:=by decide +kernel
 have key:lineT [e2 0 1] t=dT (dropOp 0) (dT (putOp 0 [e2 1 2]) (liT s2 t 0 0) 0) 0∧eT (putOp 0 [e2 1 2]) (liT s2 t 0 0) 0=0:=by
  rw [g2] at h2
  unfold lineT
  rw [g2]
  unfold takE at h2
  unfold takT
  split at h2
  ·rename_i hd
   rw [if_pos hd]
   split at h2
   ·rename_i hf
    rw [if_pos hf]
    rw [hl.2] at h2 ⊢
    split at h2
    ·rename_i hp
     rw [if_pos hp]
     refine⟨?_,hp⟩
     unfold ansD
     rw [if_pos hp,if_pos (e_drop _)]
    ·exact absurd h2 ‹_›
   ·exact absurd h2 ‹_›
  ·exact absurd h2 ‹_›
 rw [key.1] at hok ⊢
 exact chain_T _ t 0 0 0 0 b1 b2 (Nat.le_refl _) (wr_ok hw) hne g1 key.2 hok
theorem both_end {t:Tm} (hne:neT t) (h:bothE 0 1 t=0):dT (dropOp 0) (dT (putOp 0 [top0]) (bothT 0 1 t) 0) 0=t:=by
 obtain⟨h1,h2⟩:=both_ok h
 rw [h2]
 have hhs:hsT (liT (sd (0:Int)) t 0 0) 0=false:=hs_sd (p:=0) (by omega) (by omega) _ t 0 0 (Nat.le_refl _)
 have hn:neT (liT (sd (0:Int)) t 0 0):=ne_li (i:=0) (by decide) _ t 0 0 (Nat.le_refl _) hne h1
 have d1:dT (putOp 0 [top0]) (liT (sd (0:Int)) t 0 0) 0=liT (sd (0:Int)) t 0 0:=d_same (s:=⟨0,[top0],top0⟩) _ (liT (sd (0:Int)) t 0 0) 0 (Nat.le_refl _) hn hhs
 rw [d1]
 exact drop_li (i:=0) (by decide) _ t 0 0 (Nat.le_refl _) hne h1
theorem lift0 {phi:List C} (hA:rightA phi=true) (h:(liftFF phi 0 1).2=0):rightA (liftFF phi 0 1).1=true∧∀ c∈(liftFF phi 0 1).1,c.1.val.testBit 0=false∧c.2.val.testBit 0=false:=by
 have e:rowP (sd (0:Int)) 0 phi=liftFF phi 0 1:=rowP_sd (i:=0) (by decide) 0 phi
 refine⟨by rw [← e];exact rowP_rightA (s:=sd (0:Int)) (by show (0:Int)≤1;decide) 0 hA,fun c hc=>?_⟩
 obtain⟨_,hall,m1,_,_⟩:=liftFF_facts (fr:=0) (by_:=1) h
 obtain⟨c0,hc0,rfl⟩:=m1 c hc
 have hb:=liftC_bits (j:=0) (m:=1) (hall c0 hc0) 0
 exact⟨by have:=hb.1;simpa using this,by have:=hb.2;simpa using this⟩
theorem neg0_right:rightA [negB 0]=true:=by decide +kernel
theorem pos0_right:rightA [posB 0]=true:=by decide +kernel
theorem top_all {Q:List C} (hQ:rightF Q=true) (h:top0∈Q):Q=[top0] :=
 rightF_ext hQ (by decide +kernel) fun c _=>⟨fun _=>dn_top c,fun h1=>by
  obtain⟨d,hd,hb⟩:=h1
  rw [List.mem_singleton.1 hd] at hb
  exact⟨top0,h,hb⟩⟩
theorem no_bits {c:C} (h1:∀ m,c.1.val.testBit m=false) (h2:∀ m,c.2.val.testBit m=false):c=top0:=c_bits (fun k=>by rw [h1 k];simp [top0]) (fun k=>by rw [h2 k];simp [top0])
theorem end_row1 {phi:List C} (hA:rightA phi=true) (h:(liftFF phi 0 1).2=0) (hj:(jnA (liftFF phi 0 1).1 [negB 0]).2=0):(putRow ptA 0 [top0] (jnA (liftFF phi 0 1).1 [negB 0]).1 0).1.map (drC 0)=phi:=by
 obtain⟨hL,hf⟩:=lift0 hA h
 have hJA:=jnA_right (liftFF phi 0 1).1 [negB 0]
 obtain⟨hQ,hQr⟩:=ones_ptA 0 hJA
 have hj':(leastF ((liftFF phi 0 1).1 ++ [negB 0])).2=0:=by rw [← jnA_ok hL neg0_right];exact hj
 have e:(putRow ptA 0 [top0] (jnA (liftFF phi 0 1).1 [negB 0]).1 0).1=(liftFF phi 0 1).1:=by
  refine rightF_ext (rightA_right hQr) (rightA_right hL) fun y _=>⟨fun ⟨q,hq,hy⟩=>?_,fun ⟨x,hx,hy⟩=>?_⟩
  ·obtain⟨p,hp,hn,hb⟩:=hQ.dn1 q hq
   rw [jnA_ok hL neg0_right] at hp
   rcases List.mem_append.1 (leastF_sub p hp) with hp|hp
   ·refine⟨p,hp,belC_trans hy (bits_bel fun k=>?_)⟩
    by_cases hk:k=0
    ·subst hk
     exact⟨(fun q=>by rw [(hf p hp).1] at q;cases q),(fun q=>by rw [(hf p hp).2] at q;cases q)⟩
    ·exact hb k hk
   ·rw [List.mem_singleton.1 hp,(negB_bits 0 0 (by decide)).2] at hn
    simp at hn
  ·have hdn:dn (jnA (liftFF phi 0 1).1 [negB 0]).1 x:=by
    rw [jnA_ok hL neg0_right]
    exact (leastF_dn hj' x).2 (dn_append.2 (.inl ⟨x,hx,belC_refl x⟩))
   obtain⟨p,hp,hb⟩:=hdn
   have hb2:=bel_bits (mem_right (rightA_right hJA) hp) hb
   have hn:p.2.val.testBit 0=false:=by
    cases hp0:p.2.val.testBit 0
    ·rfl
    ·have:=(hb2 0).2 hp0;rw [(hf x hx).2] at this;cases this
   obtain⟨q,hq,hw⟩:=hQ.up1 p hp hn
   exact⟨q,hq,belC_trans hy (bits_bel fun k=>⟨fun g=>(hb2 k).1 ((hw k).1 g).2,fun g=>(hb2 k).2 ((hw k).2 g).2⟩)⟩
 rw [e]
 exact drop_row (j:=0) h
theorem end_row0 {phi:List C} (hA:rightA phi=true) (h:(liftFF phi 0 1).2=0) (hj:(jnA (liftFF phi 0 1).1 [negB 0]).2=0):(putRow ptA 0 [] (jnA (liftFF phi 0 1).1 [negB 0]).1 0).1.map (drC 0)=[top0]:=by
 obtain⟨hL,hf⟩:=lift0 hA h
 have hJA:=jnA_right (liftFF phi 0 1).1 [negB 0]
 obtain⟨hQ,hQr⟩:=zers_ptA 0 hJA
 have hj':(leastF ((liftFF phi 0 1).1 ++ [negB 0])).2=0:=by rw [← jnA_ok hL neg0_right];exact hj
 have hdn:dn (jnA (liftFF phi 0 1).1 [negB 0]).1 (negB 0):=by
  rw [jnA_ok hL neg0_right]
  exact (leastF_dn hj' _).2 (dn_append.2 (.inr ⟨negB 0,by simp,belC_refl _⟩))
 obtain⟨p,hp,hb⟩:=hdn
 have hb2:=bel_bits (mem_right (rightA_right hJA) hp) hb
 have n1:∀ m,p.1.val.testBit m=false:=fun m=>by
  cases hm:p.1.val.testBit m
  ·rfl
  ·have:=(hb2 m).1 hm;rw [(negB_bits 0 m (by decide)).1] at this;cases this
 obtain⟨q,hq,hw⟩:=hQ p hp (n1 0)
 have hq0:q=top0:=no_bits (fun m=>by
  cases hm:q.1.val.testBit m
  ·rfl
  ·have:=((hw m).1 hm).2;rw [n1 m] at this;cases this) (fun m=>by
  cases hm:q.2.val.testBit m
  ·rfl
  ·obtain⟨g1,g2⟩:=(hw m).2 hm
   have:=(hb2 m).2 g2;rw [(negB_bits 0 m (by decide)).2] at this
   simp at this;exact absurd this.symm g1)
 rw [hq0] at hq
 rw [top_all (rightA_right hQr) hq]
 decide +kernel
theorem end_rowB {phi:List C} (hA:rightA phi=true) (h:(liftFF phi 0 1).2=0) (hj:(jnA (liftFF phi 0 1).1 [posB 0]).2=0):(putRow ptA 0 [top0] (jnA (liftFF phi 0 1).1 [posB 0]).1 0).1.map (drC 0)=[top0]:=by
 obtain⟨hL,hf⟩:=lift0 hA h
 have hJA:=jnA_right (liftFF phi 0 1).1 [posB 0]
 obtain⟨hQ,hQr⟩:=ones_ptA 0 hJA
 have hj':(leastF ((liftFF phi 0 1).1 ++ [posB 0])).2=0:=by rw [← jnA_ok hL pos0_right];exact hj
 have hdn:dn (jnA (liftFF phi 0 1).1 [posB 0]).1 (posB 0):=by
  rw [jnA_ok hL pos0_right]
  exact (leastF_dn hj' _).2 (dn_append.2 (.inr ⟨posB 0,by simp,belC_refl _⟩))
 obtain⟨p,hp,hb⟩:=hdn
 have hb2:=bel_bits (mem_right (rightA_right hJA) hp) hb
 have n2:∀ m,p.2.val.testBit m=false:=fun m=>by
  cases hm:p.2.val.testBit m
  ·rfl
  ·have:=(hb2 m).2 hm;rw [(posB_bits 0 m (by decide)).2] at this;cases this
 obtain⟨q,hq,hw⟩:=hQ.up1 p hp (n2 0)
 have hq0:q=top0:=no_bits (fun m=>by
  cases hm:q.1.val.testBit m
  ·rfl
  ·obtain⟨g1,g2⟩:=(hw m).1 hm
   have:=(hb2 m).1 g2;rw [(posB_bits 0 m (by decide)).1] at this
   simp at this;exact absurd this.symm g1) (fun m=>by
  cases hm:q.2.val.testBit m
  ·rfl
  ·have:=((hw m).2 hm).2;rw [n2 m] at this;cases this)
 rw [hq0] at hq
 rw [top_all (rightA_right hQr) hq]
 decide +kernel
theorem along_ok {line a:Tm} {phi E r:List C} (h:alongE line phi a E r=0):wrongN true 0 0 line=0∧wrongN true 0 0 a=0∧rightA phi=true∧(liftFF phi 0 1).2=0∧(jnA (liftFF phi 0 1).1 E).2=0∧dimsE 1 2 line=0∧takE 0 r (dimsT 1 2 line)=0∧bothE 0 1 a=0∧wrongN true 0 0 (alT line phi a E r)=0∧alongT line phi a E r=alT line phi a E r:=by
 unfold alongE at h
 unfold alongT
 by_cases hw:wrE [line,a]=0
 ·rw [if_pos hw] at h ⊢
  by_cases hp:rightA phi=true
  ·rw [if_pos hp] at h ⊢
   have hd:doneT (alF line phi a E r) (alT line phi a E r)=alT line phi a E r:=by unfold doneT;rw [if_pos h]
   unfold doneE at h
   obtain⟨h1,h2⟩:=fstE_zero.1 h
   unfold alF at h1
   obtain⟨h1,h3⟩:=fstE_zero.1 h1
   unfold lineE at h1
   obtain⟨h1,h4⟩:=fstE_zero.1 h1
   obtain⟨h1,h5⟩:=fstE_zero.1 h1
   obtain⟨h1,h6⟩:=fstE_zero.1 h1
   obtain⟨_,h7⟩:=fstE_zero.1 h1
   have hw2:=firstE_zero.1 (show firstE ([line,a].map wrN)=0 from hw)
   have w1:=hw2 (wrN line) (by simp)
   have w2:=hw2 (wrN a) (by simp)
   unfold wrN at w1 w2
   exact⟨by omega,by omega,hp,h7,h6,h5,h4,h3,by omega,hd⟩
  ·rw [if_neg hp] at h;cases h
 ·rw [if_neg hw] at h;exact absurd h hw
theorem dK2 (o:DOp) (x y:Tm) (bd:Nat):dK o 14 [x,y] bd=[dT o x (bd+1),dT o y bd]:=by
 simp [dK,bdK]
theorem dT14 (o:DOp) (r:List C) (x y:Tm) (bd:Nat):dT o (.mk 14 0 ⟨#[]⟩ r [x,y] []) bd=.mk 14 0 ⟨#[]⟩ (o.fc r bd).1 [dT o x (bd+1),dT o y bd] []:=by
 rw [d_eq]
 dsimp only
 rw [dK2]
 rfl
theorem ends_run {line a:Tm} {phi:List C} (h:runE line phi a=0) (h1:neT line) (h2:neT a) :
  takE 0 [top0] (runT line phi a)=0∧takT 0 [top0] (runT line phi a)=.mk 14 0 ⟨#[]⟩ phi [line,a] []∧takE 0 [] (runT line phi a)=0∧(takT 0 [] (runT line phi a)).r=[top0]:=by
 obtain⟨w1,w2,hp,e1,e2',e3,e4,e5,w3,hT⟩:=along_ok (show alongE line phi a [negB 0] [e2 0 1]=0 from h)
 have hT:runT line phi a=alT line phi a [negB 0] [e2 0 1]:=hT
 rw [hT]
 obtain⟨t1,t2⟩:=take_ok w3 (r:=[top0]) (.inl rfl)
 obtain⟨t3,t4⟩:=take_ok w3 (r:=[]) (.inr rfl)
 refine⟨t1,?_,t3,?_⟩
 ·rw [t2]
  have hok:=wr_ok w3
  have hok1:=ok_kid (i:=0) (x:=lineT [e2 0 1] line) hok rfl
  unfold alT alJ
  rw [dT14,dT14]
  have r1:((dropOp 0).fc ((putOp 0 [top0]).fc (jnA (liftFF phi 0 1).1 [negB 0]).1 0).1 0).1=phi:=end_row1 hp e1 e2'
  have r2:dT (dropOp 0) (dT (putOp 0 [top0]) (lineT [e2 0 1] line) (0+1)) (0+1)=line:=line_end w1 h1 e3 e4 hok1
  have r3:dT (dropOp 0) (dT (putOp 0 [top0]) (bothT 0 1 a) 0) 0=a:=both_end h2 e5
  rw [r1,r2,r3]
 ·rw [t4]
  unfold alT alJ
  rw [dT14,dT14]
  exact end_row0 hp e1 e2'
theorem ends_back {line a:Tm} {phi:List C} (h:backE line phi a=0) :
  takE 0 [top0] (backT line phi a)=0∧(takT 0 [top0] (backT line phi a)).r=[top0]:=by
 obtain⟨w1,w2,hp,e1,e2',e3,e4,e5,w3,hT⟩:=along_ok (show alongE line phi a [posB 0] [negB 0,posB 1]=0 from h)
 have hT:backT line phi a=alT line phi a [posB 0] [negB 0,posB 1]:=hT
 rw [hT]
 obtain⟨t1,t2⟩:=take_ok w3 (r:=[top0]) (.inl rfl)
 refine⟨t1,?_⟩
 rw [t2]
 unfold alT alJ
 rw [dT14,dT14]
 exact end_rowB hp e1 e2'
theorem cl_nil0 (w:World):ClRow Tt w [] (.slice none 0 0):=⟨none,0,rfl,Nat.le_refl _,fun j c h=>by simp at h⟩
theorem kd_nil0 (w:World):KdT Tt w (TmIn Tt w) [] (.slice none 0 0):=⟨none,0,rfl,Nat.le_refl _,fun j c h=>by simp at h⟩
theorem sy_nil0 (w:World):SyT Tt w (TmIn Tt w) [] (.slice none 0 0):=⟨none,0,rfl,Nat.le_refl _,fun j c h=>by simp at h⟩
def BulkR (m B r:Nat):Prop:=(B≤m→r=B)∧(m<B→m<r)∧r≤2*m+2∧1≤r
def BulkC (N:Nat):Prop:=∀ (m:Nat) (q:Int) (t:Tm) (v:Value) (w:World),q=(m:Nat)→m≤1000000→blk t≤N→TmIn Tt w t v→Calls Tryz.prog 27 #[v,.int .i64 q] w fun e w'=>(∃ r:Nat,e=.returned (.int .i64 r)∧BulkR m (blk t) r)∧Below w.heap.size w w'
structure Pt (m S P:Nat):Prop where
 out:S=P∨(m<S∧m<P)
theorem Pt.step {m S P B r:Nat} (h:Pt m S P) (hS:S≤m) (hr:BulkR (m - S) B r):Pt m (S+r) (P+B):=by
 obtain⟨r1,r2,r3,r4⟩:=hr
 refine⟨?_⟩
 rcases h.out with h|h
 ·by_cases hz:B≤m - S
  ·have:=r1 hz;left;omega
  ·have:=r2 (by omega);right;omega
 ·omega
theorem Pt.add {m S P:Nat} (h:Pt m S P) (x:Nat):Pt m (S+x) (P+x):=⟨by have:=h.out;omega⟩
theorem Pt.to {m S P P':Nat} (h:Pt m S P) (e:P=P'):Pt m S P':=e ▸ h
theorem Pt.bulk {m S P B:Nat} (h:Pt m S P) (hP:P≤B) (he:P=B∨m<S) (h2:S≤2*m+2) (h1:1≤S):BulkR m B S:=by
 have:=h.out
 refine⟨?_,?_,h2,h1⟩ <;> omega
theorem bulk_step (N:Nat) (IH:BulkC N):BulkC (N+1):=by
 intro m q t v w hq hm hbN h
 subst hq
 obtain⟨ra,rc,ka,kc,sa,sc,rfl,ht⟩:=h.form
 obtain⟨w1,hw1⟩:∃ w1,w1=w.alloc (.cells #[.int .i64 t.kind,.int .i64 t.n,.string t.name,.slice ra t.r.length rc,.slice ka t.kids.length kc,.slice sa t.sys.length sc] 26):=⟨_,rfl⟩
 have b1:Below w.heap.size w w1:=by rw [hw1];exact belowA _ _
 have c6:Cs6 w1 w.heap.size 0 t ra rc ka kc sa sc:=by rw [hw1];exact cs6_new w t ra rc ka kc sa sc
 have HT:Hid (TmTop Tt w1 t ra rc ka kc sa sc):=ht.blw b1
 have HC:Hid (Cs6 w1 w.heap.size 0 t ra rc ka kc sa sc):=c6
 have hbs:=blk_eq t
 have HB:Hid (blk t=1+t.r.length+t.name.size+blkL t.kids+blkS t.sys):=hbs
 obtain⟨R,hR⟩:∃ R,R=t.r.length:=⟨_,rfl⟩
 obtain⟨Q,hQ⟩:∃ Q,Q=t.name.size:=⟨_,rfl⟩
 have HR:Hid (R=t.r.length∧Q=t.name.size):=⟨hR,hQ⟩
 obtain⟨_,y0,y1,y2,y3,y4,y5⟩:=c6
 simp only [Nat.zero_add] at y1 y2 y3 y4 y5
 rw [← hR] at y3 hw1
 rw [← hR,← hQ] at hbs
 have HW:Hid (_=_):=hw1
 clear hw1 h ht
 rw [← hR]
 have hsz:t.name.size=Q:=hQ.symm
 clear hR hQ
 by_cases h1:m<R
 ·have hi:(m:Int) < (R:Int):=by omega
  go_enter Tryz.func27,Tryz.ntmps27
  go_wp2_with fail
  rw [← HW.out]
  go_wp2_with fail
  go_ret
  exact⟨⟨m+1,by go_num,by unfold BulkR;omega⟩,b1⟩
 ·have hi:¬ (m:Int) < (R:Int):=by omega
  by_cases h2:m<Q
  ·have hi2:(m:Int) < (Q:Int):=by omega
   go_enter Tryz.func27,Tryz.ntmps27
   go_wp2_with fail
   rw [← HW.out]
   go_wp2_with fail
   go_ret
   exact⟨⟨m+1,by go_num,by unfold BulkR;omega⟩,b1⟩
  ·have hi2:¬ (m:Int) < (Q:Int):=by omega
   obtain⟨L,hL⟩:∃ L,L=t.kids.length:=⟨_,rfl⟩
   have HL:Hid (L=t.kids.length):=hL
   obtain⟨M,hM⟩:∃ M,M=t.sys.length:=⟨_,rfl⟩
   have HM:Hid (M=t.sys.length):=hM
   have HBs:Hid (blk t=1+R+Q+blkL t.kids+blkS t.sys):=hbs
   clear hL hM hbs
   go_enter Tryz.func27,Tryz.ntmps27
   go_wp2_with fail
   rw [← HW.out]
   clear y0 y1 y2 y3 y4 y5
   go_loopw [5,6] (fun s i wr=>∃ k S:Nat,k≤L∧i=.int .i64 k∧s=.int .i64 S∧Pt m S (1+R+Q+blkL (t.kids.take k))∧S≤2*m+2∧k+1≤S∧Below w1.heap.size w1 wr) (fun _ i _=>L - (intOf i).toNat)
   case atStart=>exact⟨0,1+R+Q,Nat.zero_le _,rfl,by go_num,⟨.inl (by simp [blkL])⟩,by omega,by omega,Below.refl _ _⟩
   case round =>
    obtain⟨wo,hwo⟩:∃ wo,wo=wr:=⟨_,rfl⟩
    subst hwo
    obtain⟨k,S,hk,rfl,rfl,hS,hSm,hkS,hBr⟩:=hrel
    obtain⟨_,x0,x1,x2,x3,x4,x5⟩:=HC.out.blw hBr
    simp only [Nat.zero_add] at x1 x2 x3 x4 x5
    rw [← HL.out] at x4
    rw [← HM.out] at x5
    by_cases hgo:k<L∧S≤m
    ·obtain⟨hlt,hSl⟩:=hgo
     have hkI:(k:Int) < (L:Int):=by omega
     have hSI:(S:Int)≤(m:Int):=by omega
     obtain⟨y,hy⟩:=someL (l:=t.kids) (k:=k) (by rw [← HL.out];exact hlt)
     obtain⟨g,off,ra1,rc1,ka1,kc1,sa1,sc1,rfl,hg,q6,qt⟩:=(HT.out.blw hBr).kids.at hy
     have hby:blk y<blk t:=blk_kid (List.mem_of_getElem? hy)
     have HY:Hid (_=_):=blkL_step hy
     have cc:=IH (m - S) ((m:Int) - (S:Int)) y _ wo (by omega) (by omega) (by omega) qt.value
     obtain⟨_,c0,c1,c2,c3,c4,c5⟩:=q6
     clear hy qt
     go_wp2_with fail
     refine cc.mono ?_
     rintro e w6 ⟨⟨r,rfl,hr⟩,hb6⟩
     clear cc
     have hP:=(hS.step hSl hr).to (show _=1+R+Q+blkL (t.kids.take (k+1)) by rw [HY.out];omega)
     obtain⟨_,_,r3,r4⟩:=hr
     clear HY hS x0 x1 x2 x3 x4 x5 c0 c1 c2 c3 c4 c5
     go_wp2_with fail
     go_roundw
     case rel=>exact⟨k+1,S+r,by omega,by go_num,by go_num,hP,by omega,by omega,hBr.trans (hb6.mono hBr.size)⟩
     case measure=>simp [intOf];omega
    ·have HP0:Pt m S (1+R+Q+blkL (t.kids.take k))∧(blkL (t.kids.take k)=blkL t.kids∨m<S):=⟨hS,by
      by_cases hkL:k<L
      ·right;omega
      ·left;rw [List.take_of_length_le (by rw [← HL.out];omega)]⟩
     have HPt:Hid (Pt m S (1+R+Q+blkL t.kids)):=(by
      have h9:=blkL_take t.kids k
      have:=HP0.1.out
      rcases HP0.2 with e|e
      ·rw [← e];exact HP0.1
      ·exact⟨.inr ⟨e,by omega⟩⟩:Pt m S (1+R+Q+blkL t.kids))
     clear HP0 hS
     rcases (show L≤k∨(k<L∧m<S) by omega) with hend|⟨hend,hend2⟩
     ·have hkI:¬ (k:Int) < (L:Int):=by omega
      go_wp2_with fail
      clear x0 x1 x2 x3 x4 x5
      have hS1:1≤S:=by omega
      go_loopw [5,7] (fun s i wr=>∃ k S:Nat,k≤M∧i=.int .i64 k∧s=.int .i64 S∧Pt m S (1+R+Q+blkL t.kids+blkS (t.sys.take k))∧S≤2*m+2∧k+1≤S∧Below w1.heap.size w1 wr) (fun _ i _=>M - (intOf i).toNat)
      case atStart=>exact⟨0,S,Nat.zero_le _,rfl,rfl,HPt.out.to (by simp [blkS]),hSm,by omega,hBr⟩
      case round =>
       obtain⟨wp,hwp⟩:∃ wp,wp=wr:=⟨_,rfl⟩
       subst hwp
       clear hkI hBr hSm hkS HPt hS1
       obtain⟨k,S,hk,rfl,rfl,hS,hSm,hkS,hBr⟩:=hrel
       obtain⟨_,x0,x1,x2,x3,x4,x5⟩:=HC.out.blw hBr
       simp only [Nat.zero_add] at x1 x2 x3 x4 x5
       rw [← HM.out] at x5
       by_cases hgo:k<M∧S≤m
       ·obtain⟨hlt,hSl⟩:=hgo
        have hkI:(k:Int) < (M:Int):=by omega
        have hSI:(S:Int)≤(m:Int):=by omega
        obtain⟨b,hb⟩:=someL (l:=t.sys) (k:=k) (by rw [← HM.out];exact hlt)
        obtain⟨g,off,fa,fc,ka1,kc1,rfl,hg,q2,qf,qk⟩:=(HT.out.blw hBr).sys.at hb
        have HY:Hid (_=_):=blkS_step hb
        have HMm:Hid (b∈t.sys):=List.mem_of_getElem? hb
        have hle:=blkS_take t.sys (k+1)
        have hle2:=HY.out
        have HQ2:Hid (Cs2 wp g (off+k*2) b fa fc ka1 kc1):=q2
        have HK:Hid (KdT Tt wp (TmIn Tt wp) b.2 (.slice ka1 b.2.length kc1)):=qk
        obtain⟨_,c0,c1⟩:=q2
        obtain⟨Fl,hFl⟩:∃ Fl,Fl=b.1.length:=⟨_,rfl⟩
        have HF:Hid (Fl=b.1.length):=hFl
        obtain⟨K,hK⟩:∃ K,K=b.2.length:=⟨_,rfl⟩
        have HKl:Hid (K=b.2.length):=hK
        rw [← hFl] at c0 hle2
        rw [← hK] at c1
        clear hFl hK hb qf qk
        by_cases hf:m<Fl
        ·have hfI:(m:Int) < (Fl:Int):=by omega
         have HRR:Hid (BulkR m (blk t) (m+1)):=(by have:=HBs.out;unfold BulkR;omega:BulkR m (blk t) (m+1))
         clear hle hle2
         go_wp2_with fail
         go_ret
         exact⟨⟨m+1,by go_num,HRR.out⟩,bchain b1 hBr⟩
        ·have hfI:¬ (m:Int) < (Fl:Int):=by omega
         clear hle hle2
         go_wp2_with fail
         have HP1:Hid (Pt m (S+1+Fl) (1+R+Q+blkL t.kids+blkS (t.sys.take k) + 1+Fl+blkL (b.2.take 0))):=((hS.add 1).add Fl).to (by simp [blkL])
         clear hS x0 x1 x2 x3 x4 x5 c0 c1
         have hS2:S+1+Fl≤2*m+2:=by omega
         go_loopw [5,8] (fun s i wr=>∃ j S':Nat,j≤K∧i=.int .i64 j∧s=.int .i64 S'∧Pt m S' (1+R+Q+blkL t.kids+blkS (t.sys.take k) + 1+Fl+blkL (b.2.take j))∧S'≤2*m+2∧k+2+j≤S'∧Below wp.heap.size wp wr) (fun _ i _=>K - (intOf i).toNat)
         case atStart=>exact⟨0,S+1+Fl,Nat.zero_le _,rfl,by go_num,HP1.out,hS2,by omega,Below.refl _ _⟩
         case round =>
          obtain⟨wq,hwq⟩:∃ wq,wq=wr:=⟨_,rfl⟩
          subst hwq
          obtain⟨j,S',hj,rfl,rfl,hS',hSm',hjS,hBq⟩:=hrel
          have hB2:=bchain hBr hBq
          obtain⟨_,x0,x1,x2,x3,x4,x5⟩:=HC.out.blw hB2
          simp only [Nat.zero_add] at x1 x2 x3 x4 x5
          rw [← HM.out] at x5
          obtain⟨_,c0,c1⟩:=HQ2.out.blw hBq
          rw [← HKl.out] at c1
          by_cases hgo2:j<K∧S'≤m
          ·obtain⟨hlt2,hSl2⟩:=hgo2
           have hjI:(j:Int) < (K:Int):=by omega
           have hSI2:(S':Int)≤(m:Int):=by omega
           obtain⟨y,hy⟩:=someL (l:=b.2) (k:=j) (by rw [← HKl.out];exact hlt2)
           obtain⟨g2,off2,ra2,rc2,ka2,kc2,sa2,sc2,rfl,hg2,q6,qt⟩:=(HK.out.blw hBq).at hy
           have hby:blk y<blk t:=blk_sub HMm.out (List.mem_of_getElem? hy)
           have HY2:Hid (_=_):=blkL_step hy
           have cc:=IH (m - S') ((m:Int) - (S':Int)) y _ wq (by omega) (by omega) (by omega) qt.value
           obtain⟨_,d0,d1,d2,d3,d4,d5⟩:=q6
           clear hy qt
           go_wp2_with fail
           refine cc.mono ?_
           rintro e w6 ⟨⟨r,rfl,hr⟩,hb6⟩
           clear cc
           have hP:=(hS'.step hSl2 hr).to (show _=1+R+Q+blkL t.kids+blkS (t.sys.take k) + 1+Fl+blkL (b.2.take (j+1)) by rw [HY2.out];omega)
           obtain⟨_,_,r3,r4⟩:=hr
           clear HY2 hS' x0 x1 x2 x3 x4 x5 c0 c1 d0 d1 d2 d3 d4 d5
           go_wp2_with fail
           go_roundw
           case rel=>exact⟨j+1,S' + r,by omega,by go_num,by go_num,hP,by omega,by omega,hBq.trans (hb6.mono hBq.size)⟩
           case measure=>simp [intOf];omega
          ·have HPn:Hid (Pt m S' (1+R+Q+blkL t.kids+blkS (t.sys.take (k+1)))):=(by
            have e0:=HY.out
            rw [← HF.out] at e0
            have h9:=blkL_take b.2 j
            have h8:=hS'.out
            by_cases hjK:j<K
            ·exact⟨.inr ⟨by omega,by omega⟩⟩
            ·have e9:b.2.take j=b.2:=List.take_of_length_le (by rw [← HKl.out];omega)
             rw [e9] at hS'
             exact hS'.to (by omega):Pt m S' (1+R+Q+blkL t.kids+blkS (t.sys.take (k+1))))
           clear hS'
           rcases (show K≤j∨(j<K∧m<S') by omega) with hend|⟨hend,hend2⟩
           ·have hjI:¬ (j:Int) < (K:Int):=by omega
            go_wp2_with fail
            go_roundw
            case rel=>exact⟨k+1,S',by omega,by go_num,rfl,HPn.out,hSm',by omega,hB2⟩
            case measure=>simp [intOf];omega
           ·have hjI:(j:Int) < (K:Int):=by omega
            have hSI2:¬ (S':Int)≤(m:Int):=by omega
            go_wp2_with fail
            go_roundw
            case rel=>exact⟨k+1,S',by omega,by go_num,rfl,HPn.out,hSm',by omega,hB2⟩
            case measure=>simp [intOf];omega
       ·have HRR:Hid (BulkR m (blk t) S):=(by
         have h3:=HBs.out
         have h9:=blkS_take t.sys k
         refine hS.bulk (by omega) ?_ hSm (by omega)
         by_cases hkM:k<M
         ·right;omega
         ·left;rw [List.take_of_length_le (by rw [← HM.out];omega)];omega:BulkR m (blk t) S)
        clear hS
        rcases (show M≤k∨(k<M∧m<S) by omega) with hend|⟨hend,hend2⟩
        ·have hkI:¬ (k:Int) < (M:Int):=by omega
         go_wp2_with fail
         go_ret
         exact⟨⟨S,rfl,HRR.out⟩,bchain b1 hBr⟩
        ·have hkI:(k:Int) < (M:Int):=by omega
         have hSI:¬ (S:Int)≤(m:Int):=by omega
         go_wp2_with fail
         go_ret
         exact⟨⟨S,rfl,HRR.out⟩,bchain b1 hBr⟩
     ·have hkI:(k:Int) < (L:Int):=by omega
      have hSI:¬ (S:Int)≤(m:Int):=by omega
      go_wp2_with fail
      clear x0 x1 x2 x3 x4 x5
      have hS1:1≤S:=by omega
      go_loopw [5,7] (fun s i wr=>∃ k S:Nat,k≤M∧i=.int .i64 k∧s=.int .i64 S∧Pt m S (1+R+Q+blkL t.kids+blkS (t.sys.take k))∧S≤2*m+2∧k+1≤S∧Below w1.heap.size w1 wr) (fun _ i _=>M - (intOf i).toNat)
      case atStart=>exact⟨0,S,Nat.zero_le _,rfl,rfl,HPt.out.to (by simp [blkS]),hSm,by omega,hBr⟩
      case round =>
       obtain⟨wp,hwp⟩:∃ wp,wp=wr:=⟨_,rfl⟩
       subst hwp
       clear hkI hBr hSm hkS HPt hS1
       obtain⟨k,S,hk,rfl,rfl,hS,hSm,hkS,hBr⟩:=hrel
       obtain⟨_,x0,x1,x2,x3,x4,x5⟩:=HC.out.blw hBr
       simp only [Nat.zero_add] at x1 x2 x3 x4 x5
       rw [← HM.out] at x5
       by_cases hgo:k<M∧S≤m
       ·obtain⟨hlt,hSl⟩:=hgo
        have hkI:(k:Int) < (M:Int):=by omega
        have hSI:(S:Int)≤(m:Int):=by omega
        obtain⟨b,hb⟩:=someL (l:=t.sys) (k:=k) (by rw [← HM.out];exact hlt)
        obtain⟨g,off,fa,fc,ka1,kc1,rfl,hg,q2,qf,qk⟩:=(HT.out.blw hBr).sys.at hb
        have HY:Hid (_=_):=blkS_step hb
        have HMm:Hid (b∈t.sys):=List.mem_of_getElem? hb
        have hle:=blkS_take t.sys (k+1)
        have hle2:=HY.out
        have HQ2:Hid (Cs2 wp g (off+k*2) b fa fc ka1 kc1):=q2
        have HK:Hid (KdT Tt wp (TmIn Tt wp) b.2 (.slice ka1 b.2.length kc1)):=qk
        obtain⟨_,c0,c1⟩:=q2
        obtain⟨Fl,hFl⟩:∃ Fl,Fl=b.1.length:=⟨_,rfl⟩
        have HF:Hid (Fl=b.1.length):=hFl
        obtain⟨K,hK⟩:∃ K,K=b.2.length:=⟨_,rfl⟩
        have HKl:Hid (K=b.2.length):=hK
        rw [← hFl] at c0 hle2
        rw [← hK] at c1
        clear hFl hK hb qf qk
        by_cases hf:m<Fl
        ·have hfI:(m:Int) < (Fl:Int):=by omega
         have HRR:Hid (BulkR m (blk t) (m+1)):=(by have:=HBs.out;unfold BulkR;omega:BulkR m (blk t) (m+1))
         clear hle hle2
         go_wp2_with fail
         go_ret
         exact⟨⟨m+1,by go_num,HRR.out⟩,bchain b1 hBr⟩
        ·have hfI:¬ (m:Int) < (Fl:Int):=by omega
         clear hle hle2
         go_wp2_with fail
         have HP1:Hid (Pt m (S+1+Fl) (1+R+Q+blkL t.kids+blkS (t.sys.take k) + 1+Fl+blkL (b.2.take 0))):=((hS.add 1).add Fl).to (by simp [blkL])
         clear hS x0 x1 x2 x3 x4 x5 c0 c1
         have hS2:S+1+Fl≤2*m+2:=by omega
         go_loopw [5,8] (fun s i wr=>∃ j S':Nat,j≤K∧i=.int .i64 j∧s=.int .i64 S'∧Pt m S' (1+R+Q+blkL t.kids+blkS (t.sys.take k) + 1+Fl+blkL (b.2.take j))∧S'≤2*m+2∧k+2+j≤S'∧Below wp.heap.size wp wr) (fun _ i _=>K - (intOf i).toNat)
         case atStart=>exact⟨0,S+1+Fl,Nat.zero_le _,rfl,by go_num,HP1.out,hS2,by omega,Below.refl _ _⟩
         case round =>
          obtain⟨wq,hwq⟩:∃ wq,wq=wr:=⟨_,rfl⟩
          subst hwq
          obtain⟨j,S',hj,rfl,rfl,hS',hSm',hjS,hBq⟩:=hrel
          have hB2:=bchain hBr hBq
          obtain⟨_,x0,x1,x2,x3,x4,x5⟩:=HC.out.blw hB2
          simp only [Nat.zero_add] at x1 x2 x3 x4 x5
          rw [← HM.out] at x5
          obtain⟨_,c0,c1⟩:=HQ2.out.blw hBq
          rw [← HKl.out] at c1
          by_cases hgo2:j<K∧S'≤m
          ·obtain⟨hlt2,hSl2⟩:=hgo2
           have hjI:(j:Int) < (K:Int):=by omega
           have hSI2:(S':Int)≤(m:Int):=by omega
           obtain⟨y,hy⟩:=someL (l:=b.2) (k:=j) (by rw [← HKl.out];exact hlt2)
           obtain⟨g2,off2,ra2,rc2,ka2,kc2,sa2,sc2,rfl,hg2,q6,qt⟩:=(HK.out.blw hBq).at hy
           have hby:blk y<blk t:=blk_sub HMm.out (List.mem_of_getElem? hy)
           have HY2:Hid (_=_):=blkL_step hy
           have cc:=IH (m - S') ((m:Int) - (S':Int)) y _ wq (by omega) (by omega) (by omega) qt.value
           obtain⟨_,d0,d1,d2,d3,d4,d5⟩:=q6
           clear hy qt
           go_wp2_with fail
           refine cc.mono ?_
           rintro e w6 ⟨⟨r,rfl,hr⟩,hb6⟩
           clear cc
           have hP:=(hS'.step hSl2 hr).to (show _=1+R+Q+blkL t.kids+blkS (t.sys.take k) + 1+Fl+blkL (b.2.take (j+1)) by rw [HY2.out];omega)
           obtain⟨_,_,r3,r4⟩:=hr
           clear HY2 hS' x0 x1 x2 x3 x4 x5 c0 c1 d0 d1 d2 d3 d4 d5
           go_wp2_with fail
           go_roundw
           case rel=>exact⟨j+1,S' + r,by omega,by go_num,by go_num,hP,by omega,by omega,hBq.trans (hb6.mono hBq.size)⟩
           case measure=>simp [intOf];omega
          ·have HPn:Hid (Pt m S' (1+R+Q+blkL t.kids+blkS (t.sys.take (k+1)))):=(by
            have e0:=HY.out
            rw [← HF.out] at e0
            have h9:=blkL_take b.2 j
            have h8:=hS'.out
            by_cases hjK:j<K
            ·exact⟨.inr ⟨by omega,by omega⟩⟩
            ·have e9:b.2.take j=b.2:=List.take_of_length_le (by rw [← HKl.out];omega)
             rw [e9] at hS'
             exact hS'.to (by omega):Pt m S' (1+R+Q+blkL t.kids+blkS (t.sys.take (k+1))))
           clear hS'
           rcases (show K≤j∨(j<K∧m<S') by omega) with hend|⟨hend,hend2⟩
           ·have hjI:¬ (j:Int) < (K:Int):=by omega
            go_wp2_with fail
            go_roundw
            case rel=>exact⟨k+1,S',by omega,by go_num,rfl,HPn.out,hSm',by omega,hB2⟩
            case measure=>simp [intOf];omega
           ·have hjI:(j:Int) < (K:Int):=by omega
            have hSI2:¬ (S':Int)≤(m:Int):=by omega
            go_wp2_with fail
            go_roundw
            case rel=>exact⟨k+1,S',by omega,by go_num,rfl,HPn.out,hSm',by omega,hB2⟩
            case measure=>simp [intOf];omega
       ·have HRR:Hid (BulkR m (blk t) S):=(by
         have h3:=HBs.out
         have h9:=blkS_take t.sys k
         refine hS.bulk (by omega) ?_ hSm (by omega)
         by_cases hkM:k<M
         ·right;omega
         ·left;rw [List.take_of_length_le (by rw [← HM.out];omega)];omega:BulkR m (blk t) S)
        clear hS
        rcases (show M≤k∨(k<M∧m<S) by omega) with hend|⟨hend,hend2⟩
        ·have hkI:¬ (k:Int) < (M:Int):=by omega
         go_wp2_with fail
         go_ret
         exact⟨⟨S,rfl,HRR.out⟩,bchain b1 hBr⟩
        ·have hkI:(k:Int) < (M:Int):=by omega
         have hSI:¬ (S:Int)≤(m:Int):=by omega
         go_wp2_with fail
         go_ret
         exact⟨⟨S,rfl,HRR.out⟩,bchain b1 hBr⟩
theorem bulk_any (N:Nat):BulkC N:=by
 induction N with
 | zero=>intro m q t v w _ _ hb;have:=blk_pos t;omega
 | succ N ih=>exact bulk_step N ih
def cP (n:Fin 4294967296):C:=(n,0)
def wU:Tm:=.mk 3 0 ⟨#[]⟩ [] [] []
def wA:Tm:=.mk 21 0 ⟨#[]⟩ [cP 1] [] []
def wB:Tm:=.mk 21 0 ⟨#[]⟩ [cP 1,cP 2] [] []
theorem wU_in (w:World):TmIn Tt w wU (.agg #[.int .i64 3,.int .i64 0,.string ⟨#[]⟩,.slice none 0 0,.slice none 0 0,.slice none 0 0]) :=
 .mk _ _ _ _ _ _ _ _ _ ⟨by decide,by decide⟩ ⟨by decide,by decide⟩ (cl_nil0 w) (kd_nil0 w) (sy_nil0 w)
end Go.Proofs.YtmblbmdchinflaaGreat
