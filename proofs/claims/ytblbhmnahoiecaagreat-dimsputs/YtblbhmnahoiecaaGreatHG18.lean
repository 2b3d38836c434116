/- A part of the proof. -/
import Derived.Test.YtblbhmnahoiecaaGreatHYMeas
import Derived.Test.YtblbhmnahoiecaaGreatHYUses
import Derived.Deep.DeepCutAuto
set_option linter.unusedVariables false
set_option linter.unusedSimpArgs false
set_option maxRecDepth 100000
set_option maxHeartbeats 16000000
namespace Go.Proofs.YtblbhmnahoiecaaGreat
open Go.RowKit
def wrongN (o:Bool) (V:Int) (D:Nat) (t:Tm):Nat:=if 200<depthT t then 62 else if okT o V D t 0 0=true then 0 else 100
theorem box2 (w:World) (V D:Int) (o:Bool) (t:Tm) (ra:Option Addr) (rc:Nat) (ka:Option Addr) (kc:Nat) (sa:Option Addr) (sc:Nat):∃ W,W=(w.alloc (.cells #[.int .i64 V,.int .i64 D,.bool o] 101)).alloc (.cells #[.int .i64 t.kind,.int .i64 t.n,.string t.name,.slice ra t.r.length rc,.slice ka t.kids.length kc,.slice sa t.sys.length sc] 26) /\
  Below w.heap.size w W/\W.heap.size=w.heap.size+2/\W.heap[w.heap.size]? = some (.cells #[.int .i64 V,.int .i64 D,.bool o] 101 (0,0))/\Cs6 W (w.heap.size+1) 0 t ra rc ka kc sa sc:=by
 refine⟨_,rfl,bchain (belowA _ _) (belowA _ _),by simp,(Below.heap_alloc _ _ _ (by simp)).trans (heapNew w _),?_⟩
 have:=cs6_new (w.alloc (.cells #[.int .i64 V,.int .i64 D,.bool o] 101)) t ra rc ka kc sa sc
 rwa [World.size_alloc] at this
theorem wrong_any (V:Int) (D:Nat) (o:Bool) (hD:D<=24) (t:Tm) (v:Value) (w:World) (hv:TmIn Tt w t v) (hb:blk t<=20000) :
  Calls Tryz.prog 80 #[.agg #[.int .i64 V,.int .i64 (D:Int),.bool o],v] w fun e w'=>e=.returned (.int .i64 ((wrongN o V D t:Nat):Int))/\Below w.heap.size w w':=by
 have hd:=depth_size t
 have hs:=size_blk t
 obtain⟨ra,rc,ka,kc,sa,sc,rfl,ht⟩:=hv.form
 obtain⟨W,hW,bW,sW,m1,c6⟩:=box2 w V D o t ra rc ka kc sa sc
 have cc:=measure_any t _ 200 W (hv.blw bW) (by omega)
 have ca:Hid (∀ W2,Below W.heap.size W W2->Calls Tryz.prog 136 #[.agg #[.int .i64 V,.int .i64 (D:Int),.bool o],.pointer (some ⟨w.heap.size+1,0,none⟩),.agg #[.int .i64 0,.int .i64 0]] W2 fun e w'=>e=.returned (.bool (okT o V D t 0 0))/\Below W2.heap.size W2 w'):=fun W2 q=>allows_any V D o hD (blk t) t 0 0 (w.heap.size+1) 0 ra rc ka kc sa sc W2 (c6.blw q) (ht.blw (bchain bW q)) (Nat.le_refl _) (by omega) (by omega)
 obtain⟨_,y0,y1,y2,y3,y4,y5⟩:=c6
 simp only [Nat.zero_add] at y1 y2 y3 y4 y5
 have H1:Hid (_=_):=hW
 have HM:Hid (∀ W2,Below W.heap.size W W2->W2.cell? ⟨w.heap.size,0,none⟩=some (.int .i64 V)/\W2.cell? ⟨w.heap.size,1,none⟩=some (.int .i64 (D:Int))/\W2.cell? ⟨w.heap.size,2,none⟩=some (.bool o)):=fun W2 q=>cells3 ((q.block _ (by omega)).trans m1)
 have HR:Hid (wrongN o V D t=if 200<depthT t then 62 else if okT o V D t 0 0=true then 0 else 100):=rfl
 clear hW hv ht m1 sW
 go_enter Tryz.func80,Tryz.ntmps80
 go_upto_region 1 with fail
 rw [<- H1.out]
 clear H1
 go_wp2_with fail
 refine cc.mono ?_
 rintro e w2 ⟨⟨N1,D1,rfl,a1,a2,a3,a4⟩,hb2⟩
 have hal:=bchain bW hb2
 clear cc y0 y1 y2 y3 y4 y5
 by_cases hdep:200<depthT t
 ·have h1:(200:Int) < (D1:Int):=a2 (by omega)
  have HE:Hid (wrongN o V D t=62):=by show _=_;rw [HR.out,if_pos hdep]
  clear a1 a2 HR
  go_wp2
  go_ret
  exact⟨retI (by rw [HE.out];rfl),hal⟩
 ·obtain⟨e1,e2⟩:=a1 (by omega)
  have h1:¬ (200:Int) < (D1:Int):=by omega
  have h2:¬ (20000:Int) < (N1:Int):=by omega
  have HE:Hid (wrongN o V D t=if okT o V D t 0 0=true then 0 else 100):=by show _=_;rw [HR.out,if_neg hdep]
  have c2:=ca.out w2 hb2
  obtain⟨x0,x1,x2⟩:=HM.out w2 hb2
  clear a1 a2 e1 e2 HR ca HM
  cases hok:okT o V D t 0 0 with
  | true =>
   rw [hok] at c2 HE
   go_wp2_with fail
   refine c2.mono ?_
   rintro e w3 ⟨rfl,hb3⟩
   clear c2 x0 x1 x2
   have hal3:=bchain hal hb3
   go_wp2
   go_ret
   exact⟨retI (by rw [HE.out];rfl),hal3⟩
  | false =>
   rw [hok] at c2 HE
   go_wp2_with fail
   refine c2.mono ?_
   rintro e w3 ⟨rfl,hb3⟩
   clear c2 x0 x1 x2
   have hal3:=bchain hal hb3
   go_wp2
   go_ret
   exact⟨retI (by rw [HE.out];rfl),hal3⟩
theorem formed_any (t:Tm) (v:Value) (w:World) (hv:TmIn Tt w t v) (hb:blk t<=20000) :
  Calls Tryz.prog 52 #[v] w fun e w'=>e=.returned (.int .i64 ((wrongN true 0 0 t:Nat):Int))/\Below w.heap.size w w':=by
 obtain⟨ra,rc,ka,kc,sa,sc,rfl,ht⟩:=hv.form
 obtain⟨w1,hw1⟩:∃ w1,w1=w.alloc (.cells #[.int .i64 t.kind,.int .i64 t.n,.string t.name,.slice ra t.r.length rc,.slice ka t.kids.length kc,.slice sa t.sys.length sc] 26):=⟨_,rfl⟩
 have b1:Below w.heap.size w w1:=by rw [hw1];exact belowA _ _
 have c6:Cs6 w1 w.heap.size 0 t ra rc ka kc sa sc:=by rw [hw1];exact cs6_new w t ra rc ka kc sa sc
 have cW:=wrong_any 0 0 true (by omega) t _ w1 (hv.blw b1) hb
 obtain⟨_,y0,y1,y2,y3,y4,y5⟩:=c6
 have H1:Hid (_=_):=hw1
 clear hw1 hv ht
 go_enter Tryz.func52,Tryz.ntmps52
 go_upto_region 1 with fail
 rw [<- H1.out]
 go_wp2_with fail
 refine cW.mono ?_
 rintro e w3 ⟨rfl,hb3⟩
 clear cW y0 y1 y2 y3 y4 y5
 have hal3:=bchain b1 hb3
 go_wp2
 go_ret
 exact⟨rfl,hal3⟩
def tV (n:Int):Tm:=.mk 1 n ⟨#[]⟩ [] [] []
def tL (n:Int):Tm:=.mk 5 0 ⟨#[]⟩ [] [tV n] []
def tA:Tm:=.mk 6 0 ⟨#[]⟩ [] [tV 1,tL 2] []
theorem cl_nil0 (w:World):ClRow Tt w [] (.slice none 0 0):=⟨none,0,rfl,Nat.le_refl _,fun j c h=>by simp at h⟩
theorem kd_nil0 (w:World):KdT Tt w (TmIn Tt w) [] (.slice none 0 0):=⟨none,0,rfl,Nat.le_refl _,fun j c h=>by simp at h⟩
theorem sy_nil0 (w:World):SyT Tt w (TmIn Tt w) [] (.slice none 0 0):=⟨none,0,rfl,Nat.le_refl _,fun j c h=>by simp at h⟩
def BulkR (m B r:Nat):Prop:=(B<=m->r=B)/\(m<B->m<r)/\r<=2*m+2/\1<=r
def BulkC (N:Nat):Prop:=∀ (m:Nat) (q:Int) (t:Tm) (v:Value) (w:World),q=(m:Nat)->m<=1000000->blk t<=N->TmIn Tt w t v->Calls Tryz.prog 15 #[v,.int .i64 q] w fun e w'=>(∃ r:Nat,e=.returned (.int .i64 r)/\BulkR m (blk t) r)/\Below w.heap.size w w'
structure Pt (m S P:Nat):Prop where
 out:S=P\/(m<S/\m<P)
theorem Pt.step {m S P B r:Nat} (h:Pt m S P) (hS:S<=m) (hr:BulkR (m - S) B r):Pt m (S+r) (P+B):=by
 obtain⟨r1,r2,r3,r4⟩:=hr
 refine⟨?_⟩
 rcases h.out with h|h
 ·by_cases hz:B<=m - S
  ·have:=r1 hz;left;omega
  ·have:=r2 (by omega);right;omega
 ·omega
theorem Pt.add {m S P:Nat} (h:Pt m S P) (x:Nat):Pt m (S+x) (P+x):=⟨by have:=h.out;omega⟩
theorem Pt.to {m S P P':Nat} (h:Pt m S P) (e:P=P'):Pt m S P':=e ▸ h
theorem Pt.bulk {m S P B:Nat} (h:Pt m S P) (hP:P<=B) (he:P=B\/m<S) (h2:S<=2*m+2) (h1:1<=S):BulkR m B S:=by
 have:=h.out
 refine⟨?_,?_,h2,h1⟩ <;> omega
theorem bulk_step (N:Nat) (IH:BulkC N):BulkC (N+1):=by
 intro m q t v w hq hm hbN h
 subst hq
 obtain⟨ra,rc,ka,kc,sa,sc,rfl,ht⟩:=h.form
 obtain⟨w1,hw1⟩:∃ w1,w1=w.alloc (.cells #[.int .i64 t.kind,.int .i64 t.n,.string t.name,.slice ra t.r.length rc,.slice ka t.kids.length kc,.slice sa t.sys.length sc] 26):=⟨_,rfl⟩
 have b1:Below w.heap.size w w1:=by rw [hw1];exact belowA _ _
 have c6:Cs6 w1 w.heap.size 0 t ra rc ka kc sa sc:=by rw [hw1];exact cs6_new w t ra rc ka kc sa sc
 have HT:Hid (TmTop Tt w1 t ra rc ka kc sa sc):=ht.blw b1
 have HC:Hid (Cs6 w1 w.heap.size 0 t ra rc ka kc sa sc):=c6
 have hbs:=blk_eq t
 have HB:Hid (blk t=1+t.r.length+t.name.size+blkL t.kids+blkS t.sys):=hbs
 obtain⟨R,hR⟩:∃ R,R=t.r.length:=⟨_,rfl⟩
 obtain⟨Q,hQ⟩:∃ Q,Q=t.name.size:=⟨_,rfl⟩
 have HR:Hid (R=t.r.length/\Q=t.name.size):=⟨hR,hQ⟩
 obtain⟨_,y0,y1,y2,y3,y4,y5⟩:=c6
 simp only [Nat.zero_add] at y1 y2 y3 y4 y5
 rw [<- hR] at y3 hw1
 rw [<- hR,<- hQ] at hbs
 have HW:Hid (_=_):=hw1
 clear hw1 h ht
 rw [<- hR]
 have hsz:t.name.size=Q:=hQ.symm
 clear hR hQ
 by_cases h1:m<R
 ·have hi:(m:Int) < (R:Int):=by omega
  go_enter Tryz.func15,Tryz.ntmps15
  go_wp2_with fail
  rw [<- HW.out]
  go_wp2_with fail
  go_ret
  exact⟨⟨m+1,by go_num,by unfold BulkR;omega⟩,b1⟩
 ·have hi:¬ (m:Int) < (R:Int):=by omega
  by_cases h2:m<Q
  ·have hi2:(m:Int) < (Q:Int):=by omega
   go_enter Tryz.func15,Tryz.ntmps15
   go_wp2_with fail
   rw [<- HW.out]
   go_wp2_with fail
   go_ret
   exact⟨⟨m+1,by go_num,by unfold BulkR;omega⟩,b1⟩
  ·have hi2:¬ (m:Int) < (Q:Int):=by omega
   obtain⟨L,hL⟩:∃ L,L=t.kids.length:=⟨_,rfl⟩
   have HL:Hid (L=t.kids.length):=hL
   obtain⟨M,hM⟩:∃ M,M=t.sys.length:=⟨_,rfl⟩
   have HM:Hid (M=t.sys.length):=hM
   have HBs:Hid (blk t=1+R+Q+blkL t.kids+blkS t.sys):=hbs
   clear hL hM hbs
   go_enter Tryz.func15,Tryz.ntmps15
   go_wp2_with fail
   rw [<- HW.out]
   clear y0 y1 y2 y3 y4 y5
   go_loopw [5,6] (fun s i wr=>∃ k S:Nat,k<=L/\i=.int .i64 k/\s=.int .i64 S/\Pt m S (1+R+Q+blkL (t.kids.take k))/\S<=2*m+2/\k+1<=S/\Below w1.heap.size w1 wr) (fun _ i _=>L - (intOf i).toNat)
   case atStart=>exact⟨0,1+R+Q,Nat.zero_le _,rfl,by go_num,⟨.inl (by simp [blkL])⟩,by omega,by omega,Below.refl _ _⟩
   case round =>
    obtain⟨wo,hwo⟩:∃ wo,wo=wr:=⟨_,rfl⟩
    subst hwo
    obtain⟨k,S,hk,rfl,rfl,hS,hSm,hkS,hBr⟩:=hrel
    obtain⟨_,x0,x1,x2,x3,x4,x5⟩:=HC.out.blw hBr
    simp only [Nat.zero_add] at x1 x2 x3 x4 x5
    rw [<- HL.out] at x4
    rw [<- HM.out] at x5
    by_cases hgo:k<L/\S<=m
    ·obtain⟨hlt,hSl⟩:=hgo
     have hkI:(k:Int) < (L:Int):=by omega
     have hSI:(S:Int)<=(m:Int):=by omega
     obtain⟨y,hy⟩:=someL (l:=t.kids) (k:=k) (by rw [<- HL.out];exact hlt)
     obtain⟨g,off,ra1,rc1,ka1,kc1,sa1,sc1,rfl,hg,q6,qt⟩:=(HT.out.blw hBr).kids.at hy
     have hby:blk y<blk t:=blk_kid (List.mem_of_getElem? hy)
     have HY:Hid (_=_):=blkL_step hy
     have cc:=IH (m - S) ((m:Int) - (S:Int)) y _ wo (by omega) (by omega) (by omega) qt.value
     obtain⟨_,c0,c1,c2,c3,c4,c5⟩:=q6
     clear hy qt
     go_wp2_with fail
     refine cc.mono ?_
     rintro e w6 ⟨⟨r,rfl,hr⟩,hb6⟩
     clear cc
     have hP:=(hS.step hSl hr).to (show _=1+R+Q+blkL (t.kids.take (k+1)) by rw [HY.out];omega)
     obtain⟨_,_,r3,r4⟩:=hr
     clear HY hS x0 x1 x2 x3 x4 x5 c0 c1 c2 c3 c4 c5
     go_wp2_with fail
     go_roundw
     case rel=>exact⟨k+1,S+r,by omega,by go_num,by go_num,hP,by omega,by omega,hBr.trans (hb6.mono hBr.size)⟩
     case measure=>simp [intOf];omega
    ·have HP0:Pt m S (1+R+Q+blkL (t.kids.take k))/\(blkL (t.kids.take k)=blkL t.kids\/m<S):=⟨hS,by
      by_cases hkL:k<L
      ·right;omega
      ·left;rw [List.take_of_length_le (by rw [<- HL.out];omega)]⟩
     have HPt:Hid (Pt m S (1+R+Q+blkL t.kids)):=(by
      have h9:=blkL_take t.kids k
      have:=HP0.1.out
      rcases HP0.2 with e|e
      ·rw [<- e];exact HP0.1
      ·exact⟨.inr ⟨e,by omega⟩⟩:Pt m S (1+R+Q+blkL t.kids))
     clear HP0 hS
     rcases (show L<=k\/(k<L/\m<S) by omega) with hend|⟨hend,hend2⟩
     ·have hkI:¬ (k:Int) < (L:Int):=by omega
      go_wp2_with fail
      clear x0 x1 x2 x3 x4 x5
      have hS1:1<=S:=by omega
      go_loopw [5,7] (fun s i wr=>∃ k S:Nat,k<=M/\i=.int .i64 k/\s=.int .i64 S/\Pt m S (1+R+Q+blkL t.kids+blkS (t.sys.take k))/\S<=2*m+2/\k+1<=S/\Below w1.heap.size w1 wr) (fun _ i _=>M - (intOf i).toNat)
      case atStart=>exact⟨0,S,Nat.zero_le _,rfl,rfl,HPt.out.to (by simp [blkS]),hSm,by omega,hBr⟩
      case round =>
       obtain⟨wp,hwp⟩:∃ wp,wp=wr:=⟨_,rfl⟩
       subst hwp
       clear hkI hBr hSm hkS HPt hS1
       obtain⟨k,S,hk,rfl,rfl,hS,hSm,hkS,hBr⟩:=hrel
       obtain⟨_,x0,x1,x2,x3,x4,x5⟩:=HC.out.blw hBr
       simp only [Nat.zero_add] at x1 x2 x3 x4 x5
       rw [<- HM.out] at x5
       by_cases hgo:k<M/\S<=m
       ·obtain⟨hlt,hSl⟩:=hgo
        have hkI:(k:Int) < (M:Int):=by omega
        have hSI:(S:Int)<=(m:Int):=by omega
        obtain⟨b,hb⟩:=someL (l:=t.sys) (k:=k) (by rw [<- HM.out];exact hlt)
        obtain⟨g,off,fa,fc,ka1,kc1,rfl,hg,q2,qf,qk⟩:=(HT.out.blw hBr).sys.at hb
        have HY:Hid (_=_):=blkS_step hb
        have HMm:Hid (b∈t.sys):=List.mem_of_getElem? hb
        have hle:=blkS_take t.sys (k+1)
        have hle2:=HY.out
        have HQ2:Hid (Cs2 wp g (off+k*2) b fa fc ka1 kc1):=q2
        have HK:Hid (KdT Tt wp (TmIn Tt wp) b.2 (.slice ka1 b.2.length kc1)):=qk
        obtain⟨_,c0,c1⟩:=q2
        obtain⟨Fl,hFl⟩:∃ Fl,Fl=b.1.length:=⟨_,rfl⟩
        have HF:Hid (Fl=b.1.length):=hFl
        obtain⟨K,hK⟩:∃ K,K=b.2.length:=⟨_,rfl⟩
        have HKl:Hid (K=b.2.length):=hK
        rw [<- hFl] at c0 hle2
        rw [<- hK] at c1
        clear hFl hK hb qf qk
        by_cases hf:m<Fl
        ·have hfI:(m:Int) < (Fl:Int):=by omega
         have HRR:Hid (BulkR m (blk t) (m+1)):=(by have:=HBs.out;unfold BulkR;omega:BulkR m (blk t) (m+1))
         clear hle hle2
         go_wp2_with fail
         go_ret
         exact⟨⟨m+1,by go_num,HRR.out⟩,bchain b1 hBr⟩
        ·have hfI:¬ (m:Int) < (Fl:Int):=by omega
         clear hle hle2
         go_wp2_with fail
         have HP1:Hid (Pt m (S+1+Fl) (1+R+Q+blkL t.kids+blkS (t.sys.take k) + 1+Fl+blkL (b.2.take 0))):=((hS.add 1).add Fl).to (by simp [blkL])
         clear hS x0 x1 x2 x3 x4 x5 c0 c1
         have hS2:S+1+Fl<=2*m+2:=by omega
         go_loopw [5,8] (fun s i wr=>∃ j S':Nat,j<=K/\i=.int .i64 j/\s=.int .i64 S'/\Pt m S' (1+R+Q+blkL t.kids+blkS (t.sys.take k) + 1+Fl+blkL (b.2.take j))/\S'<=2*m+2/\k+2+j<=S'/\Below wp.heap.size wp wr) (fun _ i _=>K - (intOf i).toNat)
         case atStart=>exact⟨0,S+1+Fl,Nat.zero_le _,rfl,by go_num,HP1.out,hS2,by omega,Below.refl _ _⟩
         case round =>
          obtain⟨wq,hwq⟩:∃ wq,wq=wr:=⟨_,rfl⟩
          subst hwq
          obtain⟨j,S',hj,rfl,rfl,hS',hSm',hjS,hBq⟩:=hrel
          have hB2:=bchain hBr hBq
          obtain⟨_,x0,x1,x2,x3,x4,x5⟩:=HC.out.blw hB2
          simp only [Nat.zero_add] at x1 x2 x3 x4 x5
          rw [<- HM.out] at x5
          obtain⟨_,c0,c1⟩:=HQ2.out.blw hBq
          rw [<- HKl.out] at c1
          by_cases hgo2:j<K/\S'<=m
          ·obtain⟨hlt2,hSl2⟩:=hgo2
           have hjI:(j:Int) < (K:Int):=by omega
           have hSI2:(S':Int)<=(m:Int):=by omega
           obtain⟨y,hy⟩:=someL (l:=b.2) (k:=j) (by rw [<- HKl.out];exact hlt2)
           obtain⟨g2,off2,ra2,rc2,ka2,kc2,sa2,sc2,rfl,hg2,q6,qt⟩:=(HK.out.blw hBq).at hy
           have hby:blk y<blk t:=blk_sub HMm.out (List.mem_of_getElem? hy)
           have HY2:Hid (_=_):=blkL_step hy
           have cc:=IH (m - S') ((m:Int) - (S':Int)) y _ wq (by omega) (by omega) (by omega) qt.value
           obtain⟨_,d0,d1,d2,d3,d4,d5⟩:=q6
           clear hy qt
           go_wp2_with fail
           refine cc.mono ?_
           rintro e w6 ⟨⟨r,rfl,hr⟩,hb6⟩
           clear cc
           have hP:=(hS'.step hSl2 hr).to (show _=1+R+Q+blkL t.kids+blkS (t.sys.take k) + 1+Fl+blkL (b.2.take (j+1)) by rw [HY2.out];omega)
           obtain⟨_,_,r3,r4⟩:=hr
           clear HY2 hS' x0 x1 x2 x3 x4 x5 c0 c1 d0 d1 d2 d3 d4 d5
           go_wp2_with fail
           go_roundw
           case rel=>exact⟨j+1,S' + r,by omega,by go_num,by go_num,hP,by omega,by omega,hBq.trans (hb6.mono hBq.size)⟩
           case measure=>simp [intOf];omega
          ·have HPn:Hid (Pt m S' (1+R+Q+blkL t.kids+blkS (t.sys.take (k+1)))):=(by
            have e0:=HY.out
            rw [<- HF.out] at e0
            have h9:=blkL_take b.2 j
            have h8:=hS'.out
            by_cases hjK:j<K
            ·exact⟨.inr ⟨by omega,by omega⟩⟩
            ·have e9:b.2.take j=b.2:=List.take_of_length_le (by rw [<- HKl.out];omega)
             rw [e9] at hS'
             exact hS'.to (by omega):Pt m S' (1+R+Q+blkL t.kids+blkS (t.sys.take (k+1))))
           clear hS'
           rcases (show K<=j\/(j<K/\m<S') by omega) with hend|⟨hend,hend2⟩
           ·have hjI:¬ (j:Int) < (K:Int):=by omega
            go_wp2_with fail
            go_roundw
            case rel=>exact⟨k+1,S',by omega,by go_num,rfl,HPn.out,hSm',by omega,hB2⟩
            case measure=>simp [intOf];omega
           ·have hjI:(j:Int) < (K:Int):=by omega
            have hSI2:¬ (S':Int)<=(m:Int):=by omega
            go_wp2_with fail
            go_roundw
            case rel=>exact⟨k+1,S',by omega,by go_num,rfl,HPn.out,hSm',by omega,hB2⟩
            case measure=>simp [intOf];omega
       ·have HRR:Hid (BulkR m (blk t) S):=(by
         have h3:=HBs.out
         have h9:=blkS_take t.sys k
         refine hS.bulk (by omega) ?_ hSm (by omega)
         by_cases hkM:k<M
         ·right;omega
         ·left;rw [List.take_of_length_le (by rw [<- HM.out];omega)];omega:BulkR m (blk t) S)
        clear hS
        rcases (show M<=k\/(k<M/\m<S) by omega) with hend|⟨hend,hend2⟩
        ·have hkI:¬ (k:Int) < (M:Int):=by omega
         go_wp2_with fail
         go_ret
         exact⟨⟨S,rfl,HRR.out⟩,bchain b1 hBr⟩
        ·have hkI:(k:Int) < (M:Int):=by omega
         have hSI:¬ (S:Int)<=(m:Int):=by omega
         go_wp2_with fail
         go_ret
         exact⟨⟨S,rfl,HRR.out⟩,bchain b1 hBr⟩
     ·have hkI:(k:Int) < (L:Int):=by omega
      have hSI:¬ (S:Int)<=(m:Int):=by omega
      go_wp2_with fail
      clear x0 x1 x2 x3 x4 x5
      have hS1:1<=S:=by omega
      go_loopw [5,7] (fun s i wr=>∃ k S:Nat,k<=M/\i=.int .i64 k/\s=.int .i64 S/\Pt m S (1+R+Q+blkL t.kids+blkS (t.sys.take k))/\S<=2*m+2/\k+1<=S/\Below w1.heap.size w1 wr) (fun _ i _=>M - (intOf i).toNat)
      case atStart=>exact⟨0,S,Nat.zero_le _,rfl,rfl,HPt.out.to (by simp [blkS]),hSm,by omega,hBr⟩
      case round =>
       obtain⟨wp,hwp⟩:∃ wp,wp=wr:=⟨_,rfl⟩
       subst hwp
       clear hkI hBr hSm hkS HPt hS1
       obtain⟨k,S,hk,rfl,rfl,hS,hSm,hkS,hBr⟩:=hrel
       obtain⟨_,x0,x1,x2,x3,x4,x5⟩:=HC.out.blw hBr
       simp only [Nat.zero_add] at x1 x2 x3 x4 x5
       rw [<- HM.out] at x5
       by_cases hgo:k<M/\S<=m
       ·obtain⟨hlt,hSl⟩:=hgo
        have hkI:(k:Int) < (M:Int):=by omega
        have hSI:(S:Int)<=(m:Int):=by omega
        obtain⟨b,hb⟩:=someL (l:=t.sys) (k:=k) (by rw [<- HM.out];exact hlt)
        obtain⟨g,off,fa,fc,ka1,kc1,rfl,hg,q2,qf,qk⟩:=(HT.out.blw hBr).sys.at hb
        have HY:Hid (_=_):=blkS_step hb
        have HMm:Hid (b∈t.sys):=List.mem_of_getElem? hb
        have hle:=blkS_take t.sys (k+1)
        have hle2:=HY.out
        have HQ2:Hid (Cs2 wp g (off+k*2) b fa fc ka1 kc1):=q2
        have HK:Hid (KdT Tt wp (TmIn Tt wp) b.2 (.slice ka1 b.2.length kc1)):=qk
        obtain⟨_,c0,c1⟩:=q2
        obtain⟨Fl,hFl⟩:∃ Fl,Fl=b.1.length:=⟨_,rfl⟩
        have HF:Hid (Fl=b.1.length):=hFl
        obtain⟨K,hK⟩:∃ K,K=b.2.length:=⟨_,rfl⟩
        have HKl:Hid (K=b.2.length):=hK
        rw [<- hFl] at c0 hle2
        rw [<- hK] at c1
        clear hFl hK hb qf qk
        by_cases hf:m<Fl
        ·have hfI:(m:Int) < (Fl:Int):=by omega
         have HRR:Hid (BulkR m (blk t) (m+1)):=(by have:=HBs.out;unfold BulkR;omega:BulkR m (blk t) (m+1))
         clear hle hle2
         go_wp2_with fail
         go_ret
         exact⟨⟨m+1,by go_num,HRR.out⟩,bchain b1 hBr⟩
        ·have hfI:¬ (m:Int) < (Fl:Int):=by omega
         clear hle hle2
         go_wp2_with fail
         have HP1:Hid (Pt m (S+1+Fl) (1+R+Q+blkL t.kids+blkS (t.sys.take k) + 1+Fl+blkL (b.2.take 0))):=((hS.add 1).add Fl).to (by simp [blkL])
         clear hS x0 x1 x2 x3 x4 x5 c0 c1
         have hS2:S+1+Fl<=2*m+2:=by omega
         go_loopw [5,8] (fun s i wr=>∃ j S':Nat,j<=K/\i=.int .i64 j/\s=.int .i64 S'/\Pt m S' (1+R+Q+blkL t.kids+blkS (t.sys.take k) + 1+Fl+blkL (b.2.take j))/\S'<=2*m+2/\k+2+j<=S'/\Below wp.heap.size wp wr) (fun _ i _=>K - (intOf i).toNat)
         case atStart=>exact⟨0,S+1+Fl,Nat.zero_le _,rfl,by go_num,HP1.out,hS2,by omega,Below.refl _ _⟩
         case round =>
          obtain⟨wq,hwq⟩:∃ wq,wq=wr:=⟨_,rfl⟩
          subst hwq
          obtain⟨j,S',hj,rfl,rfl,hS',hSm',hjS,hBq⟩:=hrel
          have hB2:=bchain hBr hBq
          obtain⟨_,x0,x1,x2,x3,x4,x5⟩:=HC.out.blw hB2
          simp only [Nat.zero_add] at x1 x2 x3 x4 x5
          rw [<- HM.out] at x5
          obtain⟨_,c0,c1⟩:=HQ2.out.blw hBq
          rw [<- HKl.out] at c1
          by_cases hgo2:j<K/\S'<=m
          ·obtain⟨hlt2,hSl2⟩:=hgo2
           have hjI:(j:Int) < (K:Int):=by omega
           have hSI2:(S':Int)<=(m:Int):=by omega
           obtain⟨y,hy⟩:=someL (l:=b.2) (k:=j) (by rw [<- HKl.out];exact hlt2)
           obtain⟨g2,off2,ra2,rc2,ka2,kc2,sa2,sc2,rfl,hg2,q6,qt⟩:=(HK.out.blw hBq).at hy
           have hby:blk y<blk t:=blk_sub HMm.out (List.mem_of_getElem? hy)
           have HY2:Hid (_=_):=blkL_step hy
           have cc:=IH (m - S') ((m:Int) - (S':Int)) y _ wq (by omega) (by omega) (by omega) qt.value
           obtain⟨_,d0,d1,d2,d3,d4,d5⟩:=q6
           clear hy qt
           go_wp2_with fail
           refine cc.mono ?_
           rintro e w6 ⟨⟨r,rfl,hr⟩,hb6⟩
           clear cc
           have hP:=(hS'.step hSl2 hr).to (show _=1+R+Q+blkL t.kids+blkS (t.sys.take k) + 1+Fl+blkL (b.2.take (j+1)) by rw [HY2.out];omega)
           obtain⟨_,_,r3,r4⟩:=hr
           clear HY2 hS' x0 x1 x2 x3 x4 x5 c0 c1 d0 d1 d2 d3 d4 d5
           go_wp2_with fail
           go_roundw
           case rel=>exact⟨j+1,S' + r,by omega,by go_num,by go_num,hP,by omega,by omega,hBq.trans (hb6.mono hBq.size)⟩
           case measure=>simp [intOf];omega
          ·have HPn:Hid (Pt m S' (1+R+Q+blkL t.kids+blkS (t.sys.take (k+1)))):=(by
            have e0:=HY.out
            rw [<- HF.out] at e0
            have h9:=blkL_take b.2 j
            have h8:=hS'.out
            by_cases hjK:j<K
            ·exact⟨.inr ⟨by omega,by omega⟩⟩
            ·have e9:b.2.take j=b.2:=List.take_of_length_le (by rw [<- HKl.out];omega)
             rw [e9] at hS'
             exact hS'.to (by omega):Pt m S' (1+R+Q+blkL t.kids+blkS (t.sys.take (k+1))))
           clear hS'
           rcases (show K<=j\/(j<K/\m<S') by omega) with hend|⟨hend,hend2⟩
           ·have hjI:¬ (j:Int) < (K:Int):=by omega
            go_wp2_with fail
            go_roundw
            case rel=>exact⟨k+1,S',by omega,by go_num,rfl,HPn.out,hSm',by omega,hB2⟩
            case measure=>simp [intOf];omega
           ·have hjI:(j:Int) < (K:Int):=by omega
            have hSI2:¬ (S':Int)<=(m:Int):=by omega
            go_wp2_with fail
            go_roundw
            case rel=>exact⟨k+1,S',by omega,by go_num,rfl,HPn.out,hSm',by omega,hB2⟩
            case measure=>simp [intOf];omega
       ·have HRR:Hid (BulkR m (blk t) S):=(by
         have h3:=HBs.out
         have h9:=blkS_take t.sys k
         refine hS.bulk (by omega) ?_ hSm (by omega)
         by_cases hkM:k<M
         ·right;omega
         ·left;rw [List.take_of_length_le (by rw [<- HM.out];omega)];omega:BulkR m (blk t) S)
        clear hS
        rcases (show M<=k\/(k<M/\m<S) by omega) with hend|⟨hend,hend2⟩
        ·have hkI:¬ (k:Int) < (M:Int):=by omega
         go_wp2_with fail
         go_ret
         exact⟨⟨S,rfl,HRR.out⟩,bchain b1 hBr⟩
        ·have hkI:(k:Int) < (M:Int):=by omega
         have hSI:¬ (S:Int)<=(m:Int):=by omega
         go_wp2_with fail
         go_ret
         exact⟨⟨S,rfl,HRR.out⟩,bchain b1 hBr⟩
theorem bulk_any (N:Nat):BulkC N:=by
 induction N with
 | zero=>intro m q t v w _ _ hb;have:=blk_pos t;omega
 | succ N ih=>exact bulk_step N ih
def RSmC (N:Nat):Prop:=∀ (t u:Tm) (b:Bool) (v v':Value) (w:World),TmIn Tt w t v->TmIn Tt w u v'->blk t<=N->blk t<=40000->(b=true↔t=u) ->
 Calls Tryz.prog 14 #[v,v'] w fun e w'=>e=.returned (.bool b)/\Below w.heap.size w w'
def RLsC (N:Nat):Prop:=∀ (l m:List Tm) (b:Bool) (v v':Value) (w:World),KdT Tt w (TmIn Tt w) l v->KdT Tt w (TmIn Tt w) m v'->blkL l<=N->blkL l<=40000->(b=true↔l=m) ->
 Calls Tryz.prog 48 #[v,v'] w fun e w'=>e=.returned (.bool b)/\Below w.heap.size w w'
theorem rlists_of (N:Nat) (IH:RSmC N):RLsC N:=by
 intro l m b v v' w h1 h2 hN hbb hb
 obtain⟨la,lc,rfl,_⟩:=id h1
 obtain⟨ma,mc,rfl,_⟩:=id h2
 have HF:Hid (¬ l=m->b=false):=fun h=>Bool.eq_false_iff.2 fun h2=>h (hb.1 h2)
 have HTr:Hid (l=m->b=true):=fun h=>hb.2 h
 have H1:Hid (KdT Tt w (TmIn Tt w) l (.slice la l.length lc)):=h1
 have H2:Hid (KdT Tt w (TmIn Tt w) m (.slice ma m.length mc)):=h2
 have hll:=blkL_len l
 obtain⟨L,hL⟩:∃ L,L=l.length:=⟨_,rfl⟩
 have HL:Hid (L=l.length):=hL
 obtain⟨M,hM⟩:∃ L,L=m.length:=⟨_,rfl⟩
 have HM:Hid (M=m.length):=hM
 rw [<- hL,<- hM]
 rw [<- hL] at hll
 clear hb h1 h2 hL hM
 by_cases hLM:L=M
 ·subst hLM
  go_enter Tryz.func48,Tryz.ntmps48
  go_wp2_with fail
  go_loopw [5] (fun i wr=>∃ k:Nat,k<=L/\i=.int .i64 k/\Hid (∀ j,j<k->l[j]? = m[j]?)/\Below w.heap.size w wr) (fun i _=>L - (intOf i).toNat)
  case atStart=>exact⟨0,Nat.zero_le _,rfl,fun j hj=>by omega,Below.refl _ _⟩
  case round =>
   obtain⟨wo,hwo⟩:∃ wo,wo=wr:=⟨_,rfl⟩
   subst hwo
   obtain⟨k,hk,rfl,HS,hBr⟩:=hrel
   by_cases hlt:k<L
   ·have hkI:(k:Int) < (L:Int):=by omega
    obtain⟨x,hx⟩:=someL (l:=l) (k:=k) (by rw [<- HL.out];exact hlt)
    obtain⟨y,hy⟩:=someL (l:=m) (k:=k) (by rw [<- HM.out];exact hlt)
    have hbx:blk x<=blkL l:=sumN_mem (List.mem_map_of_mem (List.mem_of_getElem? hx))
    have HX:Hid (l[k]? = some x/\m[k]? = some y):=⟨hx,hy⟩
    obtain⟨g,off,ra1,rc1,ka1,kc1,sa1,sc1,rfl,hg,q6,qt⟩:=(H1.out.blw hBr).at hx
    obtain⟨g2,off2,ra2,rc2,ka2,kc2,sa2,sc2,rfl,hg2,p6,pt⟩:=(H2.out.blw hBr).at hy
    have HQ:Hid (Cs6 wo g (off+k*6) x ra1 rc1 ka1 kc1 sa1 sc1):=q6
    have HP:Hid (Cs6 wo g2 (off2+k*6) y ra2 rc2 ka2 kc2 sa2 sc2):=p6
    obtain⟨eb,heb⟩:=bool_of (x=y)
    have HEb:Hid (eb=true↔x=y):=heb
    have rC:Hid (∀ z:Cw wo,Calls Tryz.prog 14 #[.agg #[.int .i64 x.kind,.int .i64 x.n,.string x.name,.slice ra1 x.r.length rc1,.slice ka1 x.kids.length kc1,.slice sa1 x.sys.length sc1],.agg #[.int .i64 y.kind,.int .i64 y.n,.string y.name,.slice ra2 y.r.length rc2,.slice ka2 y.kids.length kc2,.slice sa2 y.sys.length sc2]] z.1 fun e w'=>e=.returned (.bool eb)/\∃ z':Cw wo,w'=z'.1):=fun z=>cw_call z (IH x y eb _ _ z.1 (qt.blw z.2).value (pt.blw z.2).value (by omega) (by omega) heb)
    clear hx hy q6 p6 heb
    have c0:∀ z:Cw wo,z.1.cell? ⟨g,off+k*6,none⟩=some (.int .i64 x.kind):=fun z=>(HQ.out.blw z.2).c0
    have c1:∀ z:Cw wo,z.1.cell? ⟨g,off+k*6+1,none⟩=some (.int .i64 x.n):=fun z=>(HQ.out.blw z.2).c1
    have c2:∀ z:Cw wo,z.1.cell? ⟨g,off+k*6+2,none⟩=some (.string x.name):=fun z=>(HQ.out.blw z.2).c2
    have c3:∀ z:Cw wo,z.1.cell? ⟨g,off+k*6+3,none⟩=some (.slice ra1 x.r.length rc1):=fun z=>(HQ.out.blw z.2).c3
    have c4:∀ z:Cw wo,z.1.cell? ⟨g,off+k*6+4,none⟩=some (.slice ka1 x.kids.length kc1):=fun z=>(HQ.out.blw z.2).c4
    have c5:∀ z:Cw wo,z.1.cell? ⟨g,off+k*6+5,none⟩=some (.slice sa1 x.sys.length sc1):=fun z=>(HQ.out.blw z.2).c5
    have d0:∀ z:Cw wo,z.1.cell? ⟨g2,off2+k*6,none⟩=some (.int .i64 y.kind):=fun z=>(HP.out.blw z.2).c0
    have d1:∀ z:Cw wo,z.1.cell? ⟨g2,off2+k*6+1,none⟩=some (.int .i64 y.n):=fun z=>(HP.out.blw z.2).c1
    have d2:∀ z:Cw wo,z.1.cell? ⟨g2,off2+k*6+2,none⟩=some (.string y.name):=fun z=>(HP.out.blw z.2).c2
    have d3:∀ z:Cw wo,z.1.cell? ⟨g2,off2+k*6+3,none⟩=some (.slice ra2 y.r.length rc2):=fun z=>(HP.out.blw z.2).c3
    have d4:∀ z:Cw wo,z.1.cell? ⟨g2,off2+k*6+4,none⟩=some (.slice ka2 y.kids.length kc2):=fun z=>(HP.out.blw z.2).c4
    have d5:∀ z:Cw wo,z.1.cell? ⟨g2,off2+k*6+5,none⟩=some (.slice sa2 y.sys.length sc2):=fun z=>(HP.out.blw z.2).c5
    clear qt pt
    have hne:=cw_any wo
    go_upto_region 6 with fail
    cases eb with
    | false =>
     refine wp_region_cw (by kernel_rfl) (by kernel_rfl) ?_
     repeat (first | go_big_quiet_step (fail) | quiet_step (fail))
     first | go_big_quiet_step (exact rC.out _) | quiet_step (exact rC.out _)
     repeat (first | go_big_quiet_step (fail) | quiet_step (fail))
     refine wpQuiet_nil ?_
     rintro _ ⟨z,rfl⟩
     obtain⟨w6,b6⟩:=z
     dsimp only
     clear rC hne c0 c1 c2 c3 c4 c5 d0 d1 d2 d3 d4 d5
     have HB:Hid (b=false):=HF.out (fun h=>by
      have e:=HX.out.1
      rw [h,HX.out.2] at e
      cases e
      have:=HEb.out.2 rfl
      cases this)
     go_wp2_with fail
     go_ret
     exact⟨ret_bool HB.out.symm,bchain hBr b6⟩
    | true =>
     refine wp_region_cw (by kernel_rfl) (by kernel_rfl) ?_
     repeat (first | go_big_quiet_step (fail) | quiet_step (fail))
     first | go_big_quiet_step (exact rC.out _) | quiet_step (exact rC.out _)
     repeat (first | go_big_quiet_step (fail) | quiet_step (fail))
     refine wpQuiet_nil ?_
     rintro _ ⟨z,rfl⟩
     obtain⟨w6,b6⟩:=z
     dsimp only
     clear rC hne c0 c1 c2 c3 c4 c5 d0 d1 d2 d3 d4 d5
     have HS':Hid (∀ j,j<k+1->l[j]? = m[j]?):=fun j hj=>by
      rcases Nat.lt_or_ge j k with h|h
      ·exact HS.out j h
      ·have ej:j=k:=by omega
       rw [ej,HX.out.1,HX.out.2,HEb.out.1 (by first | rfl | trivial)]
     clear HS HX HEb
     go_wp2_with fail
     go_roundw
     case rel=>exact⟨k+1,by omega,by go_num,HS',bchain hBr b6⟩
     case measure=>simp [intOf];omega
   ·have hkI:¬ (k:Int) < (L:Int):=by omega
    have HB:Hid (b=true):=HTr.out (by
     apply List.ext_getElem?
     intro j
     rcases Nat.lt_or_ge j k with h|h
     ·exact HS.out j h
     ·rw [List.getElem?_eq_none (by rw [<- HL.out];omega),List.getElem?_eq_none (by rw [<- HM.out];omega)])
    clear HS
    go_wp2_with fail
    go_ret
    exact⟨ret_bool HB.out.symm,hBr⟩
 ·have HB:Hid (b=false):=HF.out (fun h=>hLM (by rw [HL.out,HM.out,h]))
  have q1:¬ (L:Int)=(M:Int):=by omega
  have q2:((L:Int) == (M:Int))=false:=by simp;omega
  have q3:¬ L=M:=hLM
  go_enter Tryz.func48,Tryz.ntmps48
  go_wp2_with fail
  go_ret
  exact⟨ret_bool HB.out.symm,Below.refl _ _⟩
end Go.Proofs.YtblbhmnahoiecaaGreat
