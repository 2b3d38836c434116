/- Same and Copy, to their ends. -/
import Derived.Test.YtblbhmnahoiecaaGreatGG8
import Derived.Test.YtblbhmnahoiecaaGreatGG23
import Derived.Test.YtblbhmnahoiecaaGreatGYAll
import Derived.Deep.RegionHeld3
import Derived.Test.YtblbhmnahoiecaaGreatGG15
import Derived.Test.YtblbhmnahoiecaaGreatGYMeas
import Derived.Deep.DeepCutAuto
import Derived.Test.YtblbhmnahoiecaaGreatGG5
import Derived.Deep.RegionHeld
import Derived.Test.YtblbhmnahoiecaaGreatGG7
import Derived.Deep.CutBlock
import Derived.Test.YtblbhmnahoiecaaGreatGG9
set_option linter.unusedVariables false
set_option linter.unusedSimpArgs false
set_option maxRecDepth 100000
set_option maxHeartbeats 16000000
namespace Go.Proofs.YtblbhmnahoiecaaGreat
open Go.RowKit
theorem copy_N (N:Nat) (hN:N≤100000):CpC N:=by
 induction N with
 | zero=>intro t v w _ h;have:=blk_pos t;omega
 | succ N ih=>exact copy_step N hN (become_step N (by omega) (ih (by omega))) (becomeB_step N (by omega) (copyBranch_step N (by omega) (become_step N (by omega) (ih (by omega)))))
theorem boxT2 (w:World) (t u:Tm) (ra:Option Addr) (rc:Nat) (ka:Option Addr) (kc:Nat) (sa:Option Addr) (sc:Nat) (ra':Option Addr) (rc':Nat) (ka':Option Addr) (kc':Nat) (sa':Option Addr) (sc':Nat) :
  ∃ W,W=(w.alloc (.cells #[.int .i64 t.kind,.int .i64 t.n,.string t.name,.slice ra t.r.length rc,.slice ka t.kids.length kc,.slice sa t.sys.length sc] 26)).alloc (.cells #[.int .i64 u.kind,.int .i64 u.n,.string u.name,.slice ra' u.r.length rc',.slice ka' u.kids.length kc',.slice sa' u.sys.length sc'] 26) ∧
   Below w.heap.size w W∧Cs6 W w.heap.size 0 t ra rc ka kc sa sc∧Cs6 W (w.heap.size+1) 0 u ra' rc' ka' kc' sa' sc':=by
 refine⟨_,rfl,bchain (belowA _ _) (belowA _ _),(cs6_new w t ra rc ka kc sa sc).blw (belowA _ _),?_⟩
 have:=cs6_new (w.alloc (.cells #[.int .i64 t.kind,.int .i64 t.n,.string t.name,.slice ra t.r.length rc,.slice ka t.kids.length kc,.slice sa t.sys.length sc] 26)) u ra' rc' ka' kc' sa' sc'
 rwa [World.size_alloc] at this
theorem copy_any (t:Tm) (v:Value) (w:World) (hv:TmIn Tt w t v) (hb:blk t≤100000) :
  Calls Tryz.prog 98 #[v] w fun e w'=>∃ v',e=.returned v'∧TmIn (OkN w.heap.size w') w' t v'∧Below w.heap.size w w':=copy_N 100000 (Nat.le_refl _) t v w hv hb
attribute [local go_sem] Oper.semAt_some
def UsI (n:Int) (t:Tm) (bv:Nat) (w4:World) (s s3:Nat) (k:Nat) (W:World):Prop :=
 (∀ j p,j<k→t.pts[j]? = some p→usT n p.1 (bv+p.2.1)=false)∧Kn (fun q=>q<w4.heap.size∧q≠s3∧q≠s+2) w4 W∧W.heap[s+2]? = some (.cells #[.bool false] 4 (0,0))
def UsX (n:Int) (t:Tm) (bv:Nat) (w4:World) (s s3:Nat) (W:World):Prop :=
 Kn (fun q=>q<w4.heap.size∧q≠s3∧q≠s+2) w4 W∧W.heap[s+2]? = some (.cells #[.bool true] 4 (0,0))∧usT n t bv=true
theorem UsI.keep {n:Int} {t:Tm} {bv:Nat} {w4:World} {s s3:Nat} (hs:s+2<w4.heap.size∧s+2≠s3):∀ k W1 W2,UsI n t bv w4 s s3 k W1→Kn (fun g=>g<w4.heap.size∧g≠s3) W1 W2→UsI n t bv w4 s s3 k W2 :=
 fun k W1 W2 ⟨a,b,c⟩ h=>⟨a,b.trans (h.sub fun q hq=>⟨hq.1,hq.2.1⟩),(h.block (s+2) hs (Array.getElem?_eq_some_iff.1 c).1).trans c⟩
theorem UsX.keep {n:Int} {t:Tm} {bv:Nat} {w4:World} {s s3:Nat} (hs:s+2<w4.heap.size∧s+2≠s3):∀ W1 W2,UsX n t bv w4 s s3 W1→Kn (fun g=>g<w4.heap.size∧g≠s3) W1 W2→UsX n t bv w4 s s3 W2 :=
 fun W1 W2 ⟨b,c,a⟩ h=>⟨b.trans (h.sub fun q hq=>⟨hq.1,hq.2.1⟩),(h.block (s+2) hs (Array.getElem?_eq_some_iff.1 c).1).trans c,a⟩
theorem cl_nil0 (w:World):ClRow Tt w [] (.slice none 0 0):=⟨none,0,rfl,Nat.le_refl _,fun j c h=>by simp at h⟩
theorem kd_nil0 (w:World):KdT Tt w (TmIn Tt w) [] (.slice none 0 0):=⟨none,0,rfl,Nat.le_refl _,fun j c h=>by simp at h⟩
theorem sy_nil0 (w:World):SyT Tt w (TmIn Tt w) [] (.slice none 0 0):=⟨none,0,rfl,Nat.le_refl _,fun j c h=>by simp at h⟩
def BulkR (m B r:Nat):Prop:=(B≤m→r=B)∧(m<B→m<r)∧r≤2*m+2∧1≤r
def BulkC (N:Nat):Prop:=∀ (m:Nat) (q:Int) (t:Tm) (v:Value) (w:World),q=(m:Nat)→m≤1000000→blk t≤N→TmIn Tt w t v→Calls Tryz.prog 15 #[v,.int .i64 q] w fun e w'=>(∃ r:Nat,e=.returned (.int .i64 r)∧BulkR m (blk t) r)∧Below w.heap.size w w'
structure Pt (m S P:Nat):Prop where
 out:S=P∨(m<S∧m<P)
theorem Pt.step {m S P B r:Nat} (h:Pt m S P) (hS:S≤m) (hr:BulkR (m - S) B r):Pt m (S+r) (P+B):=by
 obtain⟨r1,r2,r3,r4⟩:=hr
 refine⟨?_⟩
 rcases h.out with h|h
 ·by_cases hz:B≤m - S
  ·have:=r1 hz;left;omega
  ·have:=r2 (by omega);right;omega
 ·omega
theorem Pt.add {m S P:Nat} (h:Pt m S P) (x:Nat):Pt m (S+x) (P+x):=⟨by have:=h.out;omega⟩
theorem Pt.to {m S P P':Nat} (h:Pt m S P) (e:P=P'):Pt m S P':=e ▸ h
theorem Pt.bulk {m S P B:Nat} (h:Pt m S P) (hP:P≤B) (he:P=B∨m<S) (h2:S≤2*m+2) (h1:1≤S):BulkR m B S:=by
 have:=h.out
 refine⟨?_,?_,h2,h1⟩ <;> omega
theorem bulk_step (N:Nat) (IH:BulkC N):BulkC (N+1):=by
 intro m q t v w hq hm hbN h
 subst hq
 obtain⟨ra,rc,ka,kc,sa,sc,rfl,ht⟩:=h.form
 obtain⟨w1,hw1⟩:∃ w1,w1=w.alloc (.cells #[.int .i64 t.kind,.int .i64 t.n,.string t.name,.slice ra t.r.length rc,.slice ka t.kids.length kc,.slice sa t.sys.length sc] 26):=⟨_,rfl⟩
 have b1:Below w.heap.size w w1:=by rw [hw1];exact belowA _ _
 have c6:Cs6 w1 w.heap.size 0 t ra rc ka kc sa sc:=by rw [hw1];exact cs6_new w t ra rc ka kc sa sc
 have HT:Hid (TmTop Tt w1 t ra rc ka kc sa sc):=ht.blw b1
 have HC:Hid (Cs6 w1 w.heap.size 0 t ra rc ka kc sa sc):=c6
 have hbs:=blk_eq t
 have HB:Hid (blk t=1+t.r.length+t.name.size+blkL t.kids+blkS t.sys):=hbs
 obtain⟨R,hR⟩:∃ R,R=t.r.length:=⟨_,rfl⟩
 obtain⟨Q,hQ⟩:∃ Q,Q=t.name.size:=⟨_,rfl⟩
 have HR:Hid (R=t.r.length∧Q=t.name.size):=⟨hR,hQ⟩
 obtain⟨_,y0,y1,y2,y3,y4,y5⟩:=c6
 simp only [Nat.zero_add] at y1 y2 y3 y4 y5
 rw [← hR] at y3 hw1
 rw [← hR,← hQ] at hbs
 have HW:Hid (_=_):=hw1
 clear hw1 h ht
 rw [← hR]
 have hsz:t.name.size=Q:=hQ.symm
 clear hR hQ
 by_cases h1:m<R
 ·have hi:(m:Int) < (R:Int):=by omega
  go_enter Tryz.func15,Tryz.ntmps15
  go_wp2_with fail
  rw [← HW.out]
  go_wp2_with fail
  go_ret
  exact⟨⟨m+1,by go_num,by unfold BulkR;omega⟩,b1⟩
 ·have hi:¬ (m:Int) < (R:Int):=by omega
  by_cases h2:m<Q
  ·have hi2:(m:Int) < (Q:Int):=by omega
   go_enter Tryz.func15,Tryz.ntmps15
   go_wp2_with fail
   rw [← HW.out]
   go_wp2_with fail
   go_ret
   exact⟨⟨m+1,by go_num,by unfold BulkR;omega⟩,b1⟩
  ·have hi2:¬ (m:Int) < (Q:Int):=by omega
   obtain⟨L,hL⟩:∃ L,L=t.kids.length:=⟨_,rfl⟩
   have HL:Hid (L=t.kids.length):=hL
   obtain⟨M,hM⟩:∃ M,M=t.sys.length:=⟨_,rfl⟩
   have HM:Hid (M=t.sys.length):=hM
   have HBs:Hid (blk t=1+R+Q+blkL t.kids+blkS t.sys):=hbs
   clear hL hM hbs
   go_enter Tryz.func15,Tryz.ntmps15
   go_wp2_with fail
   rw [← HW.out]
   clear y0 y1 y2 y3 y4 y5
   go_loopw [5,6] (fun s i wr=>∃ k S:Nat,k≤L∧i=.int .i64 k∧s=.int .i64 S∧Pt m S (1+R+Q+blkL (t.kids.take k))∧S≤2*m+2∧k+1≤S∧Below w1.heap.size w1 wr) (fun _ i _=>L - (intOf i).toNat)
   case atStart=>exact⟨0,1+R+Q,Nat.zero_le _,rfl,by go_num,⟨.inl (by simp [blkL])⟩,by omega,by omega,Below.refl _ _⟩
   case round =>
    obtain⟨wo,hwo⟩:∃ wo,wo=wr:=⟨_,rfl⟩
    subst hwo
    obtain⟨k,S,hk,rfl,rfl,hS,hSm,hkS,hBr⟩:=hrel
    obtain⟨_,x0,x1,x2,x3,x4,x5⟩:=HC.out.blw hBr
    simp only [Nat.zero_add] at x1 x2 x3 x4 x5
    rw [← HL.out] at x4
    rw [← HM.out] at x5
    by_cases hgo:k<L∧S≤m
    ·obtain⟨hlt,hSl⟩:=hgo
     have hkI:(k:Int) < (L:Int):=by omega
     have hSI:(S:Int)≤(m:Int):=by omega
     obtain⟨y,hy⟩:=someL (l:=t.kids) (k:=k) (by rw [← HL.out];exact hlt)
     obtain⟨g,off,ra1,rc1,ka1,kc1,sa1,sc1,rfl,hg,q6,qt⟩:=(HT.out.blw hBr).kids.at hy
     have hby:blk y<blk t:=blk_kid (List.mem_of_getElem? hy)
     have HY:Hid (_=_):=blkL_step hy
     have cc:=IH (m - S) ((m:Int) - (S:Int)) y _ wo (by omega) (by omega) (by omega) qt.value
     obtain⟨_,c0,c1,c2,c3,c4,c5⟩:=q6
     clear hy qt
     go_wp2_with fail
     refine cc.mono ?_
     rintro e w6 ⟨⟨r,rfl,hr⟩,hb6⟩
     clear cc
     have hP:=(hS.step hSl hr).to (show _=1+R+Q+blkL (t.kids.take (k+1)) by rw [HY.out];omega)
     obtain⟨_,_,r3,r4⟩:=hr
     clear HY hS x0 x1 x2 x3 x4 x5 c0 c1 c2 c3 c4 c5
     go_wp2_with fail
     go_roundw
     case rel=>exact⟨k+1,S+r,by omega,by go_num,by go_num,hP,by omega,by omega,hBr.trans (hb6.mono hBr.size)⟩
     case measure=>simp [intOf];omega
    ·have HP0:Pt m S (1+R+Q+blkL (t.kids.take k))∧(blkL (t.kids.take k)=blkL t.kids∨m<S):=⟨hS,by
      by_cases hkL:k<L
      ·right;omega
      ·left;rw [List.take_of_length_le (by rw [← HL.out];omega)]⟩
     have HPt:Hid (Pt m S (1+R+Q+blkL t.kids)):=(by
      have h9:=blkL_take t.kids k
      have:=HP0.1.out
      rcases HP0.2 with e|e
      ·rw [← e];exact HP0.1
      ·exact⟨.inr ⟨e,by omega⟩⟩:Pt m S (1+R+Q+blkL t.kids))
     clear HP0 hS
     rcases (show L≤k∨(k<L∧m<S) by omega) with hend|⟨hend,hend2⟩
     ·have hkI:¬ (k:Int) < (L:Int):=by omega
      go_wp2_with fail
      clear x0 x1 x2 x3 x4 x5
      have hS1:1≤S:=by omega
      go_loopw [5,7] (fun s i wr=>∃ k S:Nat,k≤M∧i=.int .i64 k∧s=.int .i64 S∧Pt m S (1+R+Q+blkL t.kids+blkS (t.sys.take k))∧S≤2*m+2∧k+1≤S∧Below w1.heap.size w1 wr) (fun _ i _=>M - (intOf i).toNat)
      case atStart=>exact⟨0,S,Nat.zero_le _,rfl,rfl,HPt.out.to (by simp [blkS]),hSm,by omega,hBr⟩
      case round =>
       obtain⟨wp,hwp⟩:∃ wp,wp=wr:=⟨_,rfl⟩
       subst hwp
       clear hkI hBr hSm hkS HPt hS1
       obtain⟨k,S,hk,rfl,rfl,hS,hSm,hkS,hBr⟩:=hrel
       obtain⟨_,x0,x1,x2,x3,x4,x5⟩:=HC.out.blw hBr
       simp only [Nat.zero_add] at x1 x2 x3 x4 x5
       rw [← HM.out] at x5
       by_cases hgo:k<M∧S≤m
       ·obtain⟨hlt,hSl⟩:=hgo
        have hkI:(k:Int) < (M:Int):=by omega
        have hSI:(S:Int)≤(m:Int):=by omega
        obtain⟨b,hb⟩:=someL (l:=t.sys) (k:=k) (by rw [← HM.out];exact hlt)
        obtain⟨g,off,fa,fc,ka1,kc1,rfl,hg,q2,qf,qk⟩:=(HT.out.blw hBr).sys.at hb
        have HY:Hid (_=_):=blkS_step hb
        have HMm:Hid (b∈t.sys):=List.mem_of_getElem? hb
        have hle:=blkS_take t.sys (k+1)
        have hle2:=HY.out
        have HQ2:Hid (Cs2 wp g (off+k*2) b fa fc ka1 kc1):=q2
        have HK:Hid (KdT Tt wp (TmIn Tt wp) b.2 (.slice ka1 b.2.length kc1)):=qk
        obtain⟨_,c0,c1⟩:=q2
        obtain⟨Fl,hFl⟩:∃ Fl,Fl=b.1.length:=⟨_,rfl⟩
        have HF:Hid (Fl=b.1.length):=hFl
        obtain⟨K,hK⟩:∃ K,K=b.2.length:=⟨_,rfl⟩
        have HKl:Hid (K=b.2.length):=hK
        rw [← hFl] at c0 hle2
        rw [← hK] at c1
        clear hFl hK hb qf qk
        by_cases hf:m<Fl
        ·have hfI:(m:Int) < (Fl:Int):=by omega
         have HRR:Hid (BulkR m (blk t) (m+1)):=(by have:=HBs.out;unfold BulkR;omega:BulkR m (blk t) (m+1))
         clear hle hle2
         go_wp2_with fail
         go_ret
         exact⟨⟨m+1,by go_num,HRR.out⟩,bchain b1 hBr⟩
        ·have hfI:¬ (m:Int) < (Fl:Int):=by omega
         clear hle hle2
         go_wp2_with fail
         have HP1:Hid (Pt m (S+1+Fl) (1+R+Q+blkL t.kids+blkS (t.sys.take k) + 1+Fl+blkL (b.2.take 0))):=((hS.add 1).add Fl).to (by simp [blkL])
         clear hS x0 x1 x2 x3 x4 x5 c0 c1
         have hS2:S+1+Fl≤2*m+2:=by omega
         go_loopw [5,8] (fun s i wr=>∃ j S':Nat,j≤K∧i=.int .i64 j∧s=.int .i64 S'∧Pt m S' (1+R+Q+blkL t.kids+blkS (t.sys.take k) + 1+Fl+blkL (b.2.take j))∧S'≤2*m+2∧k+2+j≤S'∧Below wp.heap.size wp wr) (fun _ i _=>K - (intOf i).toNat)
         case atStart=>exact⟨0,S+1+Fl,Nat.zero_le _,rfl,by go_num,HP1.out,hS2,by omega,Below.refl _ _⟩
         case round =>
          obtain⟨wq,hwq⟩:∃ wq,wq=wr:=⟨_,rfl⟩
          subst hwq
          obtain⟨j,S',hj,rfl,rfl,hS',hSm',hjS,hBq⟩:=hrel
          have hB2:=bchain hBr hBq
          obtain⟨_,x0,x1,x2,x3,x4,x5⟩:=HC.out.blw hB2
          simp only [Nat.zero_add] at x1 x2 x3 x4 x5
          rw [← HM.out] at x5
          obtain⟨_,c0,c1⟩:=HQ2.out.blw hBq
          rw [← HKl.out] at c1
          by_cases hgo2:j<K∧S'≤m
          ·obtain⟨hlt2,hSl2⟩:=hgo2
           have hjI:(j:Int) < (K:Int):=by omega
           have hSI2:(S':Int)≤(m:Int):=by omega
           obtain⟨y,hy⟩:=someL (l:=b.2) (k:=j) (by rw [← HKl.out];exact hlt2)
           obtain⟨g2,off2,ra2,rc2,ka2,kc2,sa2,sc2,rfl,hg2,q6,qt⟩:=(HK.out.blw hBq).at hy
           have hby:blk y<blk t:=blk_sub HMm.out (List.mem_of_getElem? hy)
           have HY2:Hid (_=_):=blkL_step hy
           have cc:=IH (m - S') ((m:Int) - (S':Int)) y _ wq (by omega) (by omega) (by omega) qt.value
           obtain⟨_,d0,d1,d2,d3,d4,d5⟩:=q6
           clear hy qt
           go_wp2_with fail
           refine cc.mono ?_
           rintro e w6 ⟨⟨r,rfl,hr⟩,hb6⟩
           clear cc
           have hP:=(hS'.step hSl2 hr).to (show _=1+R+Q+blkL t.kids+blkS (t.sys.take k) + 1+Fl+blkL (b.2.take (j+1)) by rw [HY2.out];omega)
           obtain⟨_,_,r3,r4⟩:=hr
           clear HY2 hS' x0 x1 x2 x3 x4 x5 c0 c1 d0 d1 d2 d3 d4 d5
           go_wp2_with fail
           go_roundw
           case rel=>exact⟨j+1,S' + r,by omega,by go_num,by go_num,hP,by omega,by omega,hBq.trans (hb6.mono hBq.size)⟩
           case measure=>simp [intOf];omega
          ·have HPn:Hid (Pt m S' (1+R+Q+blkL t.kids+blkS (t.sys.take (k+1)))):=(by
            have e0:=HY.out
            rw [← HF.out] at e0
            have h9:=blkL_take b.2 j
            have h8:=hS'.out
            by_cases hjK:j<K
            ·exact⟨.inr ⟨by omega,by omega⟩⟩
            ·have e9:b.2.take j=b.2:=List.take_of_length_le (by rw [← HKl.out];omega)
             rw [e9] at hS'
             exact hS'.to (by omega):Pt m S' (1+R+Q+blkL t.kids+blkS (t.sys.take (k+1))))
           clear hS'
           rcases (show K≤j∨(j<K∧m<S') by omega) with hend|⟨hend,hend2⟩
           ·have hjI:¬ (j:Int) < (K:Int):=by omega
            go_wp2_with fail
            go_roundw
            case rel=>exact⟨k+1,S',by omega,by go_num,rfl,HPn.out,hSm',by omega,hB2⟩
            case measure=>simp [intOf];omega
           ·have hjI:(j:Int) < (K:Int):=by omega
            have hSI2:¬ (S':Int)≤(m:Int):=by omega
            go_wp2_with fail
            go_roundw
            case rel=>exact⟨k+1,S',by omega,by go_num,rfl,HPn.out,hSm',by omega,hB2⟩
            case measure=>simp [intOf];omega
       ·have HRR:Hid (BulkR m (blk t) S):=(by
         have h3:=HBs.out
         have h9:=blkS_take t.sys k
         refine hS.bulk (by omega) ?_ hSm (by omega)
         by_cases hkM:k<M
         ·right;omega
         ·left;rw [List.take_of_length_le (by rw [← HM.out];omega)];omega:BulkR m (blk t) S)
        clear hS
        rcases (show M≤k∨(k<M∧m<S) by omega) with hend|⟨hend,hend2⟩
        ·have hkI:¬ (k:Int) < (M:Int):=by omega
         go_wp2_with fail
         go_ret
         exact⟨⟨S,rfl,HRR.out⟩,bchain b1 hBr⟩
        ·have hkI:(k:Int) < (M:Int):=by omega
         have hSI:¬ (S:Int)≤(m:Int):=by omega
         go_wp2_with fail
         go_ret
         exact⟨⟨S,rfl,HRR.out⟩,bchain b1 hBr⟩
     ·have hkI:(k:Int) < (L:Int):=by omega
      have hSI:¬ (S:Int)≤(m:Int):=by omega
      go_wp2_with fail
      clear x0 x1 x2 x3 x4 x5
      have hS1:1≤S:=by omega
      go_loopw [5,7] (fun s i wr=>∃ k S:Nat,k≤M∧i=.int .i64 k∧s=.int .i64 S∧Pt m S (1+R+Q+blkL t.kids+blkS (t.sys.take k))∧S≤2*m+2∧k+1≤S∧Below w1.heap.size w1 wr) (fun _ i _=>M - (intOf i).toNat)
      case atStart=>exact⟨0,S,Nat.zero_le _,rfl,rfl,HPt.out.to (by simp [blkS]),hSm,by omega,hBr⟩
      case round =>
       obtain⟨wp,hwp⟩:∃ wp,wp=wr:=⟨_,rfl⟩
       subst hwp
       clear hkI hBr hSm hkS HPt hS1
       obtain⟨k,S,hk,rfl,rfl,hS,hSm,hkS,hBr⟩:=hrel
       obtain⟨_,x0,x1,x2,x3,x4,x5⟩:=HC.out.blw hBr
       simp only [Nat.zero_add] at x1 x2 x3 x4 x5
       rw [← HM.out] at x5
       by_cases hgo:k<M∧S≤m
       ·obtain⟨hlt,hSl⟩:=hgo
        have hkI:(k:Int) < (M:Int):=by omega
        have hSI:(S:Int)≤(m:Int):=by omega
        obtain⟨b,hb⟩:=someL (l:=t.sys) (k:=k) (by rw [← HM.out];exact hlt)
        obtain⟨g,off,fa,fc,ka1,kc1,rfl,hg,q2,qf,qk⟩:=(HT.out.blw hBr).sys.at hb
        have HY:Hid (_=_):=blkS_step hb
        have HMm:Hid (b∈t.sys):=List.mem_of_getElem? hb
        have hle:=blkS_take t.sys (k+1)
        have hle2:=HY.out
        have HQ2:Hid (Cs2 wp g (off+k*2) b fa fc ka1 kc1):=q2
        have HK:Hid (KdT Tt wp (TmIn Tt wp) b.2 (.slice ka1 b.2.length kc1)):=qk
        obtain⟨_,c0,c1⟩:=q2
        obtain⟨Fl,hFl⟩:∃ Fl,Fl=b.1.length:=⟨_,rfl⟩
        have HF:Hid (Fl=b.1.length):=hFl
        obtain⟨K,hK⟩:∃ K,K=b.2.length:=⟨_,rfl⟩
        have HKl:Hid (K=b.2.length):=hK
        rw [← hFl] at c0 hle2
        rw [← hK] at c1
        clear hFl hK hb qf qk
        by_cases hf:m<Fl
        ·have hfI:(m:Int) < (Fl:Int):=by omega
         have HRR:Hid (BulkR m (blk t) (m+1)):=(by have:=HBs.out;unfold BulkR;omega:BulkR m (blk t) (m+1))
         clear hle hle2
         go_wp2_with fail
         go_ret
         exact⟨⟨m+1,by go_num,HRR.out⟩,bchain b1 hBr⟩
        ·have hfI:¬ (m:Int) < (Fl:Int):=by omega
         clear hle hle2
         go_wp2_with fail
         have HP1:Hid (Pt m (S+1+Fl) (1+R+Q+blkL t.kids+blkS (t.sys.take k) + 1+Fl+blkL (b.2.take 0))):=((hS.add 1).add Fl).to (by simp [blkL])
         clear hS x0 x1 x2 x3 x4 x5 c0 c1
         have hS2:S+1+Fl≤2*m+2:=by omega
         go_loopw [5,8] (fun s i wr=>∃ j S':Nat,j≤K∧i=.int .i64 j∧s=.int .i64 S'∧Pt m S' (1+R+Q+blkL t.kids+blkS (t.sys.take k) + 1+Fl+blkL (b.2.take j))∧S'≤2*m+2∧k+2+j≤S'∧Below wp.heap.size wp wr) (fun _ i _=>K - (intOf i).toNat)
         case atStart=>exact⟨0,S+1+Fl,Nat.zero_le _,rfl,by go_num,HP1.out,hS2,by omega,Below.refl _ _⟩
         case round =>
          obtain⟨wq,hwq⟩:∃ wq,wq=wr:=⟨_,rfl⟩
          subst hwq
          obtain⟨j,S',hj,rfl,rfl,hS',hSm',hjS,hBq⟩:=hrel
          have hB2:=bchain hBr hBq
          obtain⟨_,x0,x1,x2,x3,x4,x5⟩:=HC.out.blw hB2
          simp only [Nat.zero_add] at x1 x2 x3 x4 x5
          rw [← HM.out] at x5
          obtain⟨_,c0,c1⟩:=HQ2.out.blw hBq
          rw [← HKl.out] at c1
          by_cases hgo2:j<K∧S'≤m
          ·obtain⟨hlt2,hSl2⟩:=hgo2
           have hjI:(j:Int) < (K:Int):=by omega
           have hSI2:(S':Int)≤(m:Int):=by omega
           obtain⟨y,hy⟩:=someL (l:=b.2) (k:=j) (by rw [← HKl.out];exact hlt2)
           obtain⟨g2,off2,ra2,rc2,ka2,kc2,sa2,sc2,rfl,hg2,q6,qt⟩:=(HK.out.blw hBq).at hy
           have hby:blk y<blk t:=blk_sub HMm.out (List.mem_of_getElem? hy)
           have HY2:Hid (_=_):=blkL_step hy
           have cc:=IH (m - S') ((m:Int) - (S':Int)) y _ wq (by omega) (by omega) (by omega) qt.value
           obtain⟨_,d0,d1,d2,d3,d4,d5⟩:=q6
           clear hy qt
           go_wp2_with fail
           refine cc.mono ?_
           rintro e w6 ⟨⟨r,rfl,hr⟩,hb6⟩
           clear cc
           have hP:=(hS'.step hSl2 hr).to (show _=1+R+Q+blkL t.kids+blkS (t.sys.take k) + 1+Fl+blkL (b.2.take (j+1)) by rw [HY2.out];omega)
           obtain⟨_,_,r3,r4⟩:=hr
           clear HY2 hS' x0 x1 x2 x3 x4 x5 c0 c1 d0 d1 d2 d3 d4 d5
           go_wp2_with fail
           go_roundw
           case rel=>exact⟨j+1,S' + r,by omega,by go_num,by go_num,hP,by omega,by omega,hBq.trans (hb6.mono hBq.size)⟩
           case measure=>simp [intOf];omega
          ·have HPn:Hid (Pt m S' (1+R+Q+blkL t.kids+blkS (t.sys.take (k+1)))):=(by
            have e0:=HY.out
            rw [← HF.out] at e0
            have h9:=blkL_take b.2 j
            have h8:=hS'.out
            by_cases hjK:j<K
            ·exact⟨.inr ⟨by omega,by omega⟩⟩
            ·have e9:b.2.take j=b.2:=List.take_of_length_le (by rw [← HKl.out];omega)
             rw [e9] at hS'
             exact hS'.to (by omega):Pt m S' (1+R+Q+blkL t.kids+blkS (t.sys.take (k+1))))
           clear hS'
           rcases (show K≤j∨(j<K∧m<S') by omega) with hend|⟨hend,hend2⟩
           ·have hjI:¬ (j:Int) < (K:Int):=by omega
            go_wp2_with fail
            go_roundw
            case rel=>exact⟨k+1,S',by omega,by go_num,rfl,HPn.out,hSm',by omega,hB2⟩
            case measure=>simp [intOf];omega
           ·have hjI:(j:Int) < (K:Int):=by omega
            have hSI2:¬ (S':Int)≤(m:Int):=by omega
            go_wp2_with fail
            go_roundw
            case rel=>exact⟨k+1,S',by omega,by go_num,rfl,HPn.out,hSm',by omega,hB2⟩
            case measure=>simp [intOf];omega
       ·have HRR:Hid (BulkR m (blk t) S):=(by
         have h3:=HBs.out
         have h9:=blkS_take t.sys k
         refine hS.bulk (by omega) ?_ hSm (by omega)
         by_cases hkM:k<M
         ·right;omega
         ·left;rw [List.take_of_length_le (by rw [← HM.out];omega)];omega:BulkR m (blk t) S)
        clear hS
        rcases (show M≤k∨(k<M∧m<S) by omega) with hend|⟨hend,hend2⟩
        ·have hkI:¬ (k:Int) < (M:Int):=by omega
         go_wp2_with fail
         go_ret
         exact⟨⟨S,rfl,HRR.out⟩,bchain b1 hBr⟩
        ·have hkI:(k:Int) < (M:Int):=by omega
         have hSI:¬ (S:Int)≤(m:Int):=by omega
         go_wp2_with fail
         go_ret
         exact⟨⟨S,rfl,HRR.out⟩,bchain b1 hBr⟩
theorem bulk_any (N:Nat):BulkC N:=by
 induction N with
 | zero=>intro m q t v w _ _ hb;have:=blk_pos t;omega
 | succ N ih=>exact bulk_step N ih
structure DOp where
 fn:List C→Nat→List C × Int
 fc:List C→Nat→List C × Int
def ownP (o:DOp) (k:Int) (r:List C) (bd:Nat):List C × Int:=if k=14 then o.fc r bd else o.fn r bd
def stayB (o:DOp) (bd:Nat) (f:List C):Bool:=!(o.fc f bd).1.isEmpty
def dT (o:DOp):Tm→Nat→Tm:=Tm.fold fun k n nm r ks sys bd =>
 .mk k n nm (ownP o k r bd).1 (ks.zipIdx.map fun p=>p.1 (bd+bdK k p.2)) ((sys.filter fun b=>stayB o bd b.1).map fun b=>((o.fc b.1 bd).1,b.2.map fun f=>f (bd+moreK k)))
def dK (o:DOp) (k:Int) (l:List Tm) (bd:Nat):List Tm:=l.zipIdx.map fun p=>dT o p.1 (bd+bdK k p.2)
def dB (o:DOp) (k:Int) (b:List C × List Tm) (bd:Nat):List C × List Tm:=((o.fc b.1 bd).1,b.2.map fun x=>dT o x (bd+moreK k))
def dS (o:DOp) (k:Int) (l:List (List C × List Tm)) (bd:Nat):List (List C × List Tm):=(l.filter fun b=>stayB o bd b.1).map fun b=>dB o k b bd
theorem filter_fold (p:List C→Bool) {α:Type} (g:Tm→α) (l:List (List C × List Tm)):(l.map fun b=>(b.1,b.2.map g)).filter (fun b=>p b.1)=(l.filter fun b=>p b.1).map fun b=>(b.1,b.2.map g):=by
 rw [List.filter_map];rfl
theorem d_eq (o:DOp) (t:Tm) (bd:Nat):dT o t bd=.mk t.kind t.n t.name (ownP o t.kind t.r bd).1 (dK o t.kind t.kids bd) (dS o t.kind t.sys bd):=by
 unfold dT
 rw [fold_mk]
 simp only [List.zipIdx_map,List.map_map,Function.comp_def,Prod.map,filter_fold]
 rfl
def eT (o:DOp):Tm→Nat→Int:=Tm.fold fun k n nm r ks sys bd =>
 firstE ((ownP o k r bd).2 :: ((ks.zipIdx.map fun p=>p.1 (bd+bdK k p.2)) ++ sys.map fun b=>firstE ((o.fc b.1 bd).2 :: (if stayB o bd b.1 then b.2.map fun f=>f (bd+moreK k) else []))))
def eK (o:DOp) (k:Int) (l:List Tm) (bd:Nat):List Int:=l.zipIdx.map fun p=>eT o p.1 (bd+bdK k p.2)
def eBk (o:DOp) (k:Int) (b:List C × List Tm) (bd:Nat):List Int:=b.2.map fun x=>eT o x (bd+moreK k)
def eB (o:DOp) (k:Int) (b:List C × List Tm) (bd:Nat):Int:=firstE ((o.fc b.1 bd).2 :: (if stayB o bd b.1 then eBk o k b bd else []))
def eS (o:DOp) (k:Int) (l:List (List C × List Tm)) (bd:Nat):List Int:=l.map fun b=>eB o k b bd
theorem e_eq (o:DOp) (t:Tm) (bd:Nat):eT o t bd=firstE ((ownP o t.kind t.r bd).2 :: (eK o t.kind t.kids bd++eS o t.kind t.sys bd)):=by
 unfold eT
 rw [fold_mk]
 simp only [List.zipIdx_map,List.map_map,Function.comp_def,Prod.map]
 rfl
theorem dK_len (o:DOp) (k:Int) (l:List Tm) (bd:Nat):(dK o k l bd).length=l.length:=by simp [dK]
theorem eK_len (o:DOp) (k:Int) (l:List Tm) (bd:Nat):(eK o k l bd).length=l.length:=by simp [eK]
theorem eS_len (o:DOp) (k:Int) (l:List (List C × List Tm)) (bd:Nat):(eS o k l bd).length=l.length:=by simp [eS]
theorem dK_get {o:DOp} {k:Int} {l:List Tm} {bd i:Nat} {x:Tm} (h:l[i]? = some x):(dK o k l bd)[i]? = some (dT o x (bd+bdK k i)):=by
 unfold dK;rw [List.getElem?_map,List.getElem?_zipIdx,h];simp
theorem eK_get {o:DOp} {k:Int} {l:List Tm} {bd i:Nat} {x:Tm} (h:l[i]? = some x):(eK o k l bd)[i]? = some (eT o x (bd+bdK k i)):=by
 unfold eK;rw [List.getElem?_map,List.getElem?_zipIdx,h];simp
theorem eS_get {o:DOp} {k:Int} {l:List (List C × List Tm)} {bd i:Nat} {x:List C × List Tm} (h:l[i]? = some x):(eS o k l bd)[i]? = some (eB o k x bd):=by
 unfold eS;rw [List.getElem?_map,h];rfl
def cN (o:DOp) (l:List (List C × List Tm)) (bd j:Nat):Nat:=((l.take j).filter fun b=>stayB o bd b.1).length
theorem cN_le (o:DOp) (l:List (List C × List Tm)) (bd j:Nat):cN o l bd j≤j:=Nat.le_trans (List.length_filter_le _ _) (by rw [List.length_take];omega)
theorem cN_end (o:DOp) (k:Int) (l:List (List C × List Tm)) (bd:Nat):cN o l bd l.length=(dS o k l bd).length:=by
 unfold cN dS;rw [List.take_of_length_le (Nat.le_refl _),List.length_map]
theorem cN_goes {o:DOp} {l:List (List C × List Tm)} {bd j:Nat} {b:List C × List Tm} (h:l[j]? = some b) (hs:stayB o bd b.1=false):cN o l bd (j+1)=cN o l bd j:=by
 unfold cN;rw [List.take_add_one,h];simp [List.filter_append,hs]
theorem cN_stays {o:DOp} {l:List (List C × List Tm)} {bd j:Nat} {b:List C × List Tm} (h:l[j]? = some b) (hs:stayB o bd b.1=true):cN o l bd (j+1)=cN o l bd j+1:=by
 unfold cN;rw [List.take_add_one,h];simp [List.filter_append,hs]
theorem dS_at {o:DOp} {k:Int} {l:List (List C × List Tm)} {bd j:Nat} {b:List C × List Tm} (h:l[j]? = some b) (hs:stayB o bd b.1=true):(dS o k l bd)[cN o l bd j]? = some (dB o k b bd):=by
 have hl:l=l.take j++b :: l.drop (j+1):=by
  have hj:=(List.getElem?_eq_some_iff.1 h).1
  rw [List.getElem?_eq_getElem hj] at h
  injection h with h
  rw [← h,List.getElem_cons_drop]
  exact (List.take_append_drop j l).symm
 unfold dS cN
 conv=>lhs;arg 1;rw [hl]
 rw [List.filter_append,List.map_append,List.getElem?_append_right (by simp)]
 simp [hs]
attribute [local go_sem] Oper.semAt_some
def dmTo (t:Tm) (bd k:Nat):Nat:=(t.own >>> bd) ||| orL ((t.pts.take k).map fun p=>dmT p.1 (bd+p.2.2))
def DmI (t:Tm) (bd:Nat) (w4:World) (s3 s5:Nat) (k:Nat) (W:World):Prop :=
 Kn (fun q=>q<w4.heap.size∧q≠s3∧q≠s5) w4 W∧W.heap[s5]? = some (.cells #[.int .u32 ((dmTo t bd k:Nat):Int)] 36 (0,0))
theorem DmI.keep {t:Tm} {bd:Nat} {w4:World} {s3 s5:Nat} (hs:s5<w4.heap.size∧s5≠s3):∀ k W1 W2,DmI t bd w4 s3 s5 k W1→Kn (fun g=>g<w4.heap.size∧g≠s3) W1 W2→DmI t bd w4 s3 s5 k W2 :=
 fun k W1 W2 ⟨b,c⟩ h=>⟨b.trans (h.sub fun q hq=>⟨hq.1,hq.2.1⟩),(h.block s5 hs (Array.getElem?_eq_some_iff.1 c).1).trans c⟩
attribute [local go_sem] Oper.semAt_some
theorem half_start {n o:Nat} {l:List C} {w4 w5:World} {v:Value} (hO:OwnsC w4 n v l) (ho:v.ownBlock≠some o) (hge:n≤o) (hk:Kn (fun q=>q≠o) w4 w5):Half n o l [] w5 v (.slice none 0 0) :=
 ⟨(hO.but ho).keep hk.size (fun q hq=>⟨hq.1.same (hk.block q hq.2 hq.1.lt),(fun e=>by cases e),hq.2⟩) (fun q hq hs=>hk.block q hq.2 hs),KOwn.nil _ _ _,hge⟩
theorem kn_set6 (w:World) (s:Nat) (u0 u1 u2 u3 u4 u5:Value):Kn (fun q=>q≠s) w ((((((w.setCell ⟨s,0,none⟩ u0).setCell ⟨s,1,none⟩ u1).setCell ⟨s,2,none⟩ u2).setCell ⟨s,3,none⟩ u3).setCell ⟨s,4,none⟩ u4).setCell ⟨s,5,none⟩ u5) :=
 (((((kn_set _ _ _ _).trans (kn_set _ _ _ _)).trans (kn_set _ _ _ _)).trans (kn_set _ _ _ _)).trans (kn_set _ _ _ _)).trans (kn_set _ _ _ _)
end Go.Proofs.YtblbhmnahoiecaaGreat
