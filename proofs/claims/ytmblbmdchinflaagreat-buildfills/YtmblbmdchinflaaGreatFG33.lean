/- How great a term is: Bulk of the document's answer. -/
import Derived.Test.YtmblbmdchinflaaGreatEYMeas
import Derived.Test.YtmblbmdchinflaaGreatEG20
import Derived.Test.YtmblbmdchinflaaGreatEYDmT
import Derived.Test.YtmblbmdchinflaaGreatFG32
import Derived.Test.YtmblbmdchinflaaGreatEG25
import Derived.Test.YtmblbmdchinflaaGreatEG12
set_option linter.unusedVariables false
set_option linter.unusedSimpArgs false
set_option maxRecDepth 100000
set_option maxHeartbeats 16000000
namespace Go.Proofs.YtmblbmdchinflaaGreat
open Go.RowKit
def BulkR (m B r:Nat):Prop:=(B≤m→r=B)∧(m<B→m<r)∧r≤2*m+2∧1≤r
def BulkC (N:Nat):Prop:=∀ (m:Nat) (q:Int) (t:Tm) (v:Value) (w:World),q=(m:Nat)→m≤1000000→blk t≤N→TmIn Tt w t v→Calls Tryz.prog 27 #[v,.int .i64 q] w fun e w'=>(∃ r:Nat,e=.returned (.int .i64 r)∧BulkR m (blk t) r)∧Below w.heap.size w w'
structure Pt (m S P:Nat):Prop where
 out:S=P∨(m<S∧m<P)
theorem Pt.step {m S P B r:Nat} (h:Pt m S P) (hS:S≤m) (hr:BulkR (m - S) B r):Pt m (S+r) (P+B):=by
 obtain⟨r1,r2,r3,r4⟩:=hr
 refine⟨?_⟩
 rcases h.out with h|h
 ·by_cases hz:B≤m - S
  ·have:=r1 hz;left;omega
  ·have:=r2 (by omega);right;omega
 ·omega
theorem Pt.add {m S P:Nat} (h:Pt m S P) (x:Nat):Pt m (S+x) (P+x):=⟨by have:=h.out;omega⟩
theorem Pt.to {m S P P':Nat} (h:Pt m S P) (e:P=P'):Pt m S P':=e ▸ h
theorem Pt.bulk {m S P B:Nat} (h:Pt m S P) (hP:P≤B) (he:P=B∨m<S) (h2:S≤2*m+2) (h1:1≤S):BulkR m B S:=by
 have:=h.out
 refine⟨?_,?_,h2,h1⟩ <;> omega
theorem bulk_step (N:Nat) (IH:BulkC N):BulkC (N+1):=by
 intro m q t v w hq hm hbN h
 subst hq
 obtain⟨ra,rc,ka,kc,sa,sc,rfl,ht⟩:=h.form
 obtain⟨w1,hw1⟩:∃ w1,w1=w.alloc (.cells #[.int .i64 t.kind,.int .i64 t.n,.string t.name,.slice ra t.r.length rc,.slice ka t.kids.length kc,.slice sa t.sys.length sc] 26):=⟨_,rfl⟩
 have b1:Below w.heap.size w w1:=by rw [hw1];exact belowA _ _
 have c6:Cs6 w1 w.heap.size 0 t ra rc ka kc sa sc:=by rw [hw1];exact cs6_new w t ra rc ka kc sa sc
 have HT:Hid (TmTop Tt w1 t ra rc ka kc sa sc):=ht.blw b1
 have HC:Hid (Cs6 w1 w.heap.size 0 t ra rc ka kc sa sc):=c6
 have hbs:=blk_eq t
 have HB:Hid (blk t=1+t.r.length+t.name.size+blkL t.kids+blkS t.sys):=hbs
 obtain⟨R,hR⟩:∃ R,R=t.r.length:=⟨_,rfl⟩
 obtain⟨Q,hQ⟩:∃ Q,Q=t.name.size:=⟨_,rfl⟩
 have HR:Hid (R=t.r.length∧Q=t.name.size):=⟨hR,hQ⟩
 obtain⟨_,y0,y1,y2,y3,y4,y5⟩:=c6
 simp only [Nat.zero_add] at y1 y2 y3 y4 y5
 rw [← hR] at y3 hw1
 rw [← hR,← hQ] at hbs
 have HW:Hid (_=_):=hw1
 clear hw1 h ht
 rw [← hR]
 have hsz:t.name.size=Q:=hQ.symm
 clear hR hQ
 by_cases h1:m<R
 ·have hi:(m:Int) < (R:Int):=by omega
  go_enter Tryz.func27,Tryz.ntmps27
  go_wp2_with fail
  rw [← HW.out]
  go_wp2_with fail
  go_ret
  exact⟨⟨m+1,by go_num,by unfold BulkR;omega⟩,b1⟩
 ·have hi:¬ (m:Int) < (R:Int):=by omega
  by_cases h2:m<Q
  ·have hi2:(m:Int) < (Q:Int):=by omega
   go_enter Tryz.func27,Tryz.ntmps27
   go_wp2_with fail
   rw [← HW.out]
   go_wp2_with fail
   go_ret
   exact⟨⟨m+1,by go_num,by unfold BulkR;omega⟩,b1⟩
  ·have hi2:¬ (m:Int) < (Q:Int):=by omega
   obtain⟨L,hL⟩:∃ L,L=t.kids.length:=⟨_,rfl⟩
   have HL:Hid (L=t.kids.length):=hL
   obtain⟨M,hM⟩:∃ M,M=t.sys.length:=⟨_,rfl⟩
   have HM:Hid (M=t.sys.length):=hM
   have HBs:Hid (blk t=1+R+Q+blkL t.kids+blkS t.sys):=hbs
   clear hL hM hbs
   go_enter Tryz.func27,Tryz.ntmps27
   go_wp2_with fail
   rw [← HW.out]
   clear y0 y1 y2 y3 y4 y5
   go_loopw [5,6] (fun s i wr=>∃ k S:Nat,k≤L∧i=.int .i64 k∧s=.int .i64 S∧Pt m S (1+R+Q+blkL (t.kids.take k))∧S≤2*m+2∧k+1≤S∧Below w1.heap.size w1 wr) (fun _ i _=>L - (intOf i).toNat)
   case atStart=>exact⟨0,1+R+Q,Nat.zero_le _,rfl,by go_num,⟨.inl (by simp [blkL])⟩,by omega,by omega,Below.refl _ _⟩
   case round =>
    obtain⟨wo,hwo⟩:∃ wo,wo=wr:=⟨_,rfl⟩
    subst hwo
    obtain⟨k,S,hk,rfl,rfl,hS,hSm,hkS,hBr⟩:=hrel
    obtain⟨_,x0,x1,x2,x3,x4,x5⟩:=HC.out.blw hBr
    simp only [Nat.zero_add] at x1 x2 x3 x4 x5
    rw [← HL.out] at x4
    rw [← HM.out] at x5
    by_cases hgo:k<L∧S≤m
    ·obtain⟨hlt,hSl⟩:=hgo
     have hkI:(k:Int) < (L:Int):=by omega
     have hSI:(S:Int)≤(m:Int):=by omega
     obtain⟨y,hy⟩:=someL (l:=t.kids) (k:=k) (by rw [← HL.out];exact hlt)
     obtain⟨g,off,ra1,rc1,ka1,kc1,sa1,sc1,rfl,hg,q6,qt⟩:=(HT.out.blw hBr).kids.at hy
     have hby:blk y<blk t:=blk_kid (List.mem_of_getElem? hy)
     have HY:Hid (_=_):=blkL_step hy
     have cc:=IH (m - S) ((m:Int) - (S:Int)) y _ wo (by omega) (by omega) (by omega) qt.value
     obtain⟨_,c0,c1,c2,c3,c4,c5⟩:=q6
     clear hy qt
     go_wp2_with fail
     refine cc.mono ?_
     rintro e w6 ⟨⟨r,rfl,hr⟩,hb6⟩
     clear cc
     have hP:=(hS.step hSl hr).to (show _=1+R+Q+blkL (t.kids.take (k+1)) by rw [HY.out];omega)
     obtain⟨_,_,r3,r4⟩:=hr
     clear HY hS x0 x1 x2 x3 x4 x5 c0 c1 c2 c3 c4 c5
     go_wp2_with fail
     go_roundw
     case rel=>exact⟨k+1,S+r,by omega,by go_num,by go_num,hP,by omega,by omega,hBr.trans (hb6.mono hBr.size)⟩
     case measure=>simp [intOf];omega
    ·have HP0:Pt m S (1+R+Q+blkL (t.kids.take k))∧(blkL (t.kids.take k)=blkL t.kids∨m<S):=⟨hS,by
      by_cases hkL:k<L
      ·right;omega
      ·left;rw [List.take_of_length_le (by rw [← HL.out];omega)]⟩
     have HPt:Hid (Pt m S (1+R+Q+blkL t.kids)):=(by
      have h9:=blkL_take t.kids k
      have:=HP0.1.out
      rcases HP0.2 with e|e
      ·rw [← e];exact HP0.1
      ·exact⟨.inr ⟨e,by omega⟩⟩:Pt m S (1+R+Q+blkL t.kids))
     clear HP0 hS
     rcases (show L≤k∨(k<L∧m<S) by omega) with hend|⟨hend,hend2⟩
     ·have hkI:¬ (k:Int) < (L:Int):=by omega
      go_wp2_with fail
      clear x0 x1 x2 x3 x4 x5
      have hS1:1≤S:=by omega
      go_loopw [5,7] (fun s i wr=>∃ k S:Nat,k≤M∧i=.int .i64 k∧s=.int .i64 S∧Pt m S (1+R+Q+blkL t.kids+blkS (t.sys.take k))∧S≤2*m+2∧k+1≤S∧Below w1.heap.size w1 wr) (fun _ i _=>M - (intOf i).toNat)
      case atStart=>exact⟨0,S,Nat.zero_le _,rfl,rfl,HPt.out.to (by simp [blkS]),hSm,by omega,hBr⟩
      case round =>
       obtain⟨wp,hwp⟩:∃ wp,wp=wr:=⟨_,rfl⟩
       subst hwp
       clear hkI hBr hSm hkS HPt hS1
       obtain⟨k,S,hk,rfl,rfl,hS,hSm,hkS,hBr⟩:=hrel
       obtain⟨_,x0,x1,x2,x3,x4,x5⟩:=HC.out.blw hBr
       simp only [Nat.zero_add] at x1 x2 x3 x4 x5
       rw [← HM.out] at x5
       by_cases hgo:k<M∧S≤m
       ·obtain⟨hlt,hSl⟩:=hgo
        have hkI:(k:Int) < (M:Int):=by omega
        have hSI:(S:Int)≤(m:Int):=by omega
        obtain⟨b,hb⟩:=someL (l:=t.sys) (k:=k) (by rw [← HM.out];exact hlt)
        obtain⟨g,off,fa,fc,ka1,kc1,rfl,hg,q2,qf,qk⟩:=(HT.out.blw hBr).sys.at hb
        have HY:Hid (_=_):=blkS_step hb
        have HMm:Hid (b∈t.sys):=List.mem_of_getElem? hb
        have hle:=blkS_take t.sys (k+1)
        have hle2:=HY.out
        have HQ2:Hid (Cs2 wp g (off+k*2) b fa fc ka1 kc1):=q2
        have HK:Hid (KdT Tt wp (TmIn Tt wp) b.2 (.slice ka1 b.2.length kc1)):=qk
        obtain⟨_,c0,c1⟩:=q2
        obtain⟨Fl,hFl⟩:∃ Fl,Fl=b.1.length:=⟨_,rfl⟩
        have HF:Hid (Fl=b.1.length):=hFl
        obtain⟨K,hK⟩:∃ K,K=b.2.length:=⟨_,rfl⟩
        have HKl:Hid (K=b.2.length):=hK
        rw [← hFl] at c0 hle2
        rw [← hK] at c1
        clear hFl hK hb qf qk
        by_cases hf:m<Fl
        ·have hfI:(m:Int) < (Fl:Int):=by omega
         have HRR:Hid (BulkR m (blk t) (m+1)):=(by have:=HBs.out;unfold BulkR;omega:BulkR m (blk t) (m+1))
         clear hle hle2
         go_wp2_with fail
         go_ret
         exact⟨⟨m+1,by go_num,HRR.out⟩,bchain b1 hBr⟩
        ·have hfI:¬ (m:Int) < (Fl:Int):=by omega
         clear hle hle2
         go_wp2_with fail
         have HP1:Hid (Pt m (S+1+Fl) (1+R+Q+blkL t.kids+blkS (t.sys.take k) + 1+Fl+blkL (b.2.take 0))):=((hS.add 1).add Fl).to (by simp [blkL])
         clear hS x0 x1 x2 x3 x4 x5 c0 c1
         have hS2:S+1+Fl≤2*m+2:=by omega
         go_loopw [5,8] (fun s i wr=>∃ j S':Nat,j≤K∧i=.int .i64 j∧s=.int .i64 S'∧Pt m S' (1+R+Q+blkL t.kids+blkS (t.sys.take k) + 1+Fl+blkL (b.2.take j))∧S'≤2*m+2∧k+2+j≤S'∧Below wp.heap.size wp wr) (fun _ i _=>K - (intOf i).toNat)
         case atStart=>exact⟨0,S+1+Fl,Nat.zero_le _,rfl,by go_num,HP1.out,hS2,by omega,Below.refl _ _⟩
         case round =>
          obtain⟨wq,hwq⟩:∃ wq,wq=wr:=⟨_,rfl⟩
          subst hwq
          obtain⟨j,S',hj,rfl,rfl,hS',hSm',hjS,hBq⟩:=hrel
          have hB2:=bchain hBr hBq
          obtain⟨_,x0,x1,x2,x3,x4,x5⟩:=HC.out.blw hB2
          simp only [Nat.zero_add] at x1 x2 x3 x4 x5
          rw [← HM.out] at x5
          obtain⟨_,c0,c1⟩:=HQ2.out.blw hBq
          rw [← HKl.out] at c1
          by_cases hgo2:j<K∧S'≤m
          ·obtain⟨hlt2,hSl2⟩:=hgo2
           have hjI:(j:Int) < (K:Int):=by omega
           have hSI2:(S':Int)≤(m:Int):=by omega
           obtain⟨y,hy⟩:=someL (l:=b.2) (k:=j) (by rw [← HKl.out];exact hlt2)
           obtain⟨g2,off2,ra2,rc2,ka2,kc2,sa2,sc2,rfl,hg2,q6,qt⟩:=(HK.out.blw hBq).at hy
           have hby:blk y<blk t:=blk_sub HMm.out (List.mem_of_getElem? hy)
           have HY2:Hid (_=_):=blkL_step hy
           have cc:=IH (m - S') ((m:Int) - (S':Int)) y _ wq (by omega) (by omega) (by omega) qt.value
           obtain⟨_,d0,d1,d2,d3,d4,d5⟩:=q6
           clear hy qt
           go_wp2_with fail
           refine cc.mono ?_
           rintro e w6 ⟨⟨r,rfl,hr⟩,hb6⟩
           clear cc
           have hP:=(hS'.step hSl2 hr).to (show _=1+R+Q+blkL t.kids+blkS (t.sys.take k) + 1+Fl+blkL (b.2.take (j+1)) by rw [HY2.out];omega)
           obtain⟨_,_,r3,r4⟩:=hr
           clear HY2 hS' x0 x1 x2 x3 x4 x5 c0 c1 d0 d1 d2 d3 d4 d5
           go_wp2_with fail
           go_roundw
           case rel=>exact⟨j+1,S' + r,by omega,by go_num,by go_num,hP,by omega,by omega,hBq.trans (hb6.mono hBq.size)⟩
           case measure=>simp [intOf];omega
          ·have HPn:Hid (Pt m S' (1+R+Q+blkL t.kids+blkS (t.sys.take (k+1)))):=(by
            have e0:=HY.out
            rw [← HF.out] at e0
            have h9:=blkL_take b.2 j
            have h8:=hS'.out
            by_cases hjK:j<K
            ·exact⟨.inr ⟨by omega,by omega⟩⟩
            ·have e9:b.2.take j=b.2:=List.take_of_length_le (by rw [← HKl.out];omega)
             rw [e9] at hS'
             exact hS'.to (by omega):Pt m S' (1+R+Q+blkL t.kids+blkS (t.sys.take (k+1))))
           clear hS'
           rcases (show K≤j∨(j<K∧m<S') by omega) with hend|⟨hend,hend2⟩
           ·have hjI:¬ (j:Int) < (K:Int):=by omega
            go_wp2_with fail
            go_roundw
            case rel=>exact⟨k+1,S',by omega,by go_num,rfl,HPn.out,hSm',by omega,hB2⟩
            case measure=>simp [intOf];omega
           ·have hjI:(j:Int) < (K:Int):=by omega
            have hSI2:¬ (S':Int)≤(m:Int):=by omega
            go_wp2_with fail
            go_roundw
            case rel=>exact⟨k+1,S',by omega,by go_num,rfl,HPn.out,hSm',by omega,hB2⟩
            case measure=>simp [intOf];omega
       ·have HRR:Hid (BulkR m (blk t) S):=(by
         have h3:=HBs.out
         have h9:=blkS_take t.sys k
         refine hS.bulk (by omega) ?_ hSm (by omega)
         by_cases hkM:k<M
         ·right;omega
         ·left;rw [List.take_of_length_le (by rw [← HM.out];omega)];omega:BulkR m (blk t) S)
        clear hS
        rcases (show M≤k∨(k<M∧m<S) by omega) with hend|⟨hend,hend2⟩
        ·have hkI:¬ (k:Int) < (M:Int):=by omega
         go_wp2_with fail
         go_ret
         exact⟨⟨S,rfl,HRR.out⟩,bchain b1 hBr⟩
        ·have hkI:(k:Int) < (M:Int):=by omega
         have hSI:¬ (S:Int)≤(m:Int):=by omega
         go_wp2_with fail
         go_ret
         exact⟨⟨S,rfl,HRR.out⟩,bchain b1 hBr⟩
     ·have hkI:(k:Int) < (L:Int):=by omega
      have hSI:¬ (S:Int)≤(m:Int):=by omega
      go_wp2_with fail
      clear x0 x1 x2 x3 x4 x5
      have hS1:1≤S:=by omega
      go_loopw [5,7] (fun s i wr=>∃ k S:Nat,k≤M∧i=.int .i64 k∧s=.int .i64 S∧Pt m S (1+R+Q+blkL t.kids+blkS (t.sys.take k))∧S≤2*m+2∧k+1≤S∧Below w1.heap.size w1 wr) (fun _ i _=>M - (intOf i).toNat)
      case atStart=>exact⟨0,S,Nat.zero_le _,rfl,rfl,HPt.out.to (by simp [blkS]),hSm,by omega,hBr⟩
      case round =>
       obtain⟨wp,hwp⟩:∃ wp,wp=wr:=⟨_,rfl⟩
       subst hwp
       clear hkI hBr hSm hkS HPt hS1
       obtain⟨k,S,hk,rfl,rfl,hS,hSm,hkS,hBr⟩:=hrel
       obtain⟨_,x0,x1,x2,x3,x4,x5⟩:=HC.out.blw hBr
       simp only [Nat.zero_add] at x1 x2 x3 x4 x5
       rw [← HM.out] at x5
       by_cases hgo:k<M∧S≤m
       ·obtain⟨hlt,hSl⟩:=hgo
        have hkI:(k:Int) < (M:Int):=by omega
        have hSI:(S:Int)≤(m:Int):=by omega
        obtain⟨b,hb⟩:=someL (l:=t.sys) (k:=k) (by rw [← HM.out];exact hlt)
        obtain⟨g,off,fa,fc,ka1,kc1,rfl,hg,q2,qf,qk⟩:=(HT.out.blw hBr).sys.at hb
        have HY:Hid (_=_):=blkS_step hb
        have HMm:Hid (b∈t.sys):=List.mem_of_getElem? hb
        have hle:=blkS_take t.sys (k+1)
        have hle2:=HY.out
        have HQ2:Hid (Cs2 wp g (off+k*2) b fa fc ka1 kc1):=q2
        have HK:Hid (KdT Tt wp (TmIn Tt wp) b.2 (.slice ka1 b.2.length kc1)):=qk
        obtain⟨_,c0,c1⟩:=q2
        obtain⟨Fl,hFl⟩:∃ Fl,Fl=b.1.length:=⟨_,rfl⟩
        have HF:Hid (Fl=b.1.length):=hFl
        obtain⟨K,hK⟩:∃ K,K=b.2.length:=⟨_,rfl⟩
        have HKl:Hid (K=b.2.length):=hK
        rw [← hFl] at c0 hle2
        rw [← hK] at c1
        clear hFl hK hb qf qk
        by_cases hf:m<Fl
        ·have hfI:(m:Int) < (Fl:Int):=by omega
         have HRR:Hid (BulkR m (blk t) (m+1)):=(by have:=HBs.out;unfold BulkR;omega:BulkR m (blk t) (m+1))
         clear hle hle2
         go_wp2_with fail
         go_ret
         exact⟨⟨m+1,by go_num,HRR.out⟩,bchain b1 hBr⟩
        ·have hfI:¬ (m:Int) < (Fl:Int):=by omega
         clear hle hle2
         go_wp2_with fail
         have HP1:Hid (Pt m (S+1+Fl) (1+R+Q+blkL t.kids+blkS (t.sys.take k) + 1+Fl+blkL (b.2.take 0))):=((hS.add 1).add Fl).to (by simp [blkL])
         clear hS x0 x1 x2 x3 x4 x5 c0 c1
         have hS2:S+1+Fl≤2*m+2:=by omega
         go_loopw [5,8] (fun s i wr=>∃ j S':Nat,j≤K∧i=.int .i64 j∧s=.int .i64 S'∧Pt m S' (1+R+Q+blkL t.kids+blkS (t.sys.take k) + 1+Fl+blkL (b.2.take j))∧S'≤2*m+2∧k+2+j≤S'∧Below wp.heap.size wp wr) (fun _ i _=>K - (intOf i).toNat)
         case atStart=>exact⟨0,S+1+Fl,Nat.zero_le _,rfl,by go_num,HP1.out,hS2,by omega,Below.refl _ _⟩
         case round =>
          obtain⟨wq,hwq⟩:∃ wq,wq=wr:=⟨_,rfl⟩
          subst hwq
          obtain⟨j,S',hj,rfl,rfl,hS',hSm',hjS,hBq⟩:=hrel
          have hB2:=bchain hBr hBq
          obtain⟨_,x0,x1,x2,x3,x4,x5⟩:=HC.out.blw hB2
          simp only [Nat.zero_add] at x1 x2 x3 x4 x5
          rw [← HM.out] at x5
          obtain⟨_,c0,c1⟩:=HQ2.out.blw hBq
          rw [← HKl.out] at c1
          by_cases hgo2:j<K∧S'≤m
          ·obtain⟨hlt2,hSl2⟩:=hgo2
           have hjI:(j:Int) < (K:Int):=by omega
           have hSI2:(S':Int)≤(m:Int):=by omega
           obtain⟨y,hy⟩:=someL (l:=b.2) (k:=j) (by rw [← HKl.out];exact hlt2)
           obtain⟨g2,off2,ra2,rc2,ka2,kc2,sa2,sc2,rfl,hg2,q6,qt⟩:=(HK.out.blw hBq).at hy
           have hby:blk y<blk t:=blk_sub HMm.out (List.mem_of_getElem? hy)
           have HY2:Hid (_=_):=blkL_step hy
           have cc:=IH (m - S') ((m:Int) - (S':Int)) y _ wq (by omega) (by omega) (by omega) qt.value
           obtain⟨_,d0,d1,d2,d3,d4,d5⟩:=q6
           clear hy qt
           go_wp2_with fail
           refine cc.mono ?_
           rintro e w6 ⟨⟨r,rfl,hr⟩,hb6⟩
           clear cc
           have hP:=(hS'.step hSl2 hr).to (show _=1+R+Q+blkL t.kids+blkS (t.sys.take k) + 1+Fl+blkL (b.2.take (j+1)) by rw [HY2.out];omega)
           obtain⟨_,_,r3,r4⟩:=hr
           clear HY2 hS' x0 x1 x2 x3 x4 x5 c0 c1 d0 d1 d2 d3 d4 d5
           go_wp2_with fail
           go_roundw
           case rel=>exact⟨j+1,S' + r,by omega,by go_num,by go_num,hP,by omega,by omega,hBq.trans (hb6.mono hBq.size)⟩
           case measure=>simp [intOf];omega
          ·have HPn:Hid (Pt m S' (1+R+Q+blkL t.kids+blkS (t.sys.take (k+1)))):=(by
            have e0:=HY.out
            rw [← HF.out] at e0
            have h9:=blkL_take b.2 j
            have h8:=hS'.out
            by_cases hjK:j<K
            ·exact⟨.inr ⟨by omega,by omega⟩⟩
            ·have e9:b.2.take j=b.2:=List.take_of_length_le (by rw [← HKl.out];omega)
             rw [e9] at hS'
             exact hS'.to (by omega):Pt m S' (1+R+Q+blkL t.kids+blkS (t.sys.take (k+1))))
           clear hS'
           rcases (show K≤j∨(j<K∧m<S') by omega) with hend|⟨hend,hend2⟩
           ·have hjI:¬ (j:Int) < (K:Int):=by omega
            go_wp2_with fail
            go_roundw
            case rel=>exact⟨k+1,S',by omega,by go_num,rfl,HPn.out,hSm',by omega,hB2⟩
            case measure=>simp [intOf];omega
           ·have hjI:(j:Int) < (K:Int):=by omega
            have hSI2:¬ (S':Int)≤(m:Int):=by omega
            go_wp2_with fail
            go_roundw
            case rel=>exact⟨k+1,S',by omega,by go_num,rfl,HPn.out,hSm',by omega,hB2⟩
            case measure=>simp [intOf];omega
       ·have HRR:Hid (BulkR m (blk t) S):=(by
         have h3:=HBs.out
         have h9:=blkS_take t.sys k
         refine hS.bulk (by omega) ?_ hSm (by omega)
         by_cases hkM:k<M
         ·right;omega
         ·left;rw [List.take_of_length_le (by rw [← HM.out];omega)];omega:BulkR m (blk t) S)
        clear hS
        rcases (show M≤k∨(k<M∧m<S) by omega) with hend|⟨hend,hend2⟩
        ·have hkI:¬ (k:Int) < (M:Int):=by omega
         go_wp2_with fail
         go_ret
         exact⟨⟨S,rfl,HRR.out⟩,bchain b1 hBr⟩
        ·have hkI:(k:Int) < (M:Int):=by omega
         have hSI:¬ (S:Int)≤(m:Int):=by omega
         go_wp2_with fail
         go_ret
         exact⟨⟨S,rfl,HRR.out⟩,bchain b1 hBr⟩
theorem bulk_any (N:Nat):BulkC N:=by
 induction N with
 | zero=>intro m q t v w _ _ hb;have:=blk_pos t;omega
 | succ N ih=>exact bulk_step N ih
def cP (n:Fin 4294967296):C:=(n,0)
def wU:Tm:=.mk 3 0 ⟨#[]⟩ [] [] []
def wA:Tm:=.mk 21 0 ⟨#[]⟩ [cP 1] [] []
def wB:Tm:=.mk 21 0 ⟨#[]⟩ [cP 1,cP 2] [] []
theorem wU_in (w:World):TmIn Tt w wU (.agg #[.int .i64 3,.int .i64 0,.string ⟨#[]⟩,.slice none 0 0,.slice none 0 0,.slice none 0 0]) :=
 .mk _ _ _ _ _ _ _ _ _ ⟨by decide,by decide⟩ ⟨by decide,by decide⟩ (cl_nil0 w) (kd_nil0 w) (sy_nil0 w)
theorem never15_any (l:List (List C × List Tm)) (sa:Option Addr) (M sc:Nat) (hM:M=l.length) (w:World) (ht:SyT Tt w (TmIn Tt w) l (.slice sa M sc)) (hMb:M≤100000):Calls Tryz.prog 28 #[.slice sa M sc] w fun e w'=>∃ b,e=.returned (.bool b)∧(b=false→∀ x∈l,x.1≠[])∧Below w.heap.size w w':=by
 have HT:Hid (∀ W,Below w.heap.size w W→SyT Tt W (TmIn Tt W) l (.slice sa M sc)):=fun W q=>ht.blw q
 have HM:Hid (M=l.length):=hM
 clear ht hM
 go_enter Tryz.func28,Tryz.ntmps28
 go_wp2_with fail
 go_loopw [7] (fun u wr=>∃ k:Nat,k≤M∧u=.int .i64 k∧Below w.heap.size w wr∧Hid (∀ (j:Nat) (b:List C × List Tm),j<k→l[j]? = some b→b.1≠[])) (fun u _=>M - (intOf u).toNat)
 case atStart=>exact⟨0,Nat.zero_le _,rfl,Below.refl _ _,fun j x hj=>absurd hj (Nat.not_lt_zero _)⟩
 case round =>
  obtain⟨wq,hwq⟩:∃ wq,wq=wr:=⟨_,rfl⟩
  subst hwq
  obtain⟨m,hm,rfl,hSq,HA⟩:=hrel
  by_cases hlt:m<M
  ·have hkI:(m:Int) < (M:Int):=by omega
   obtain⟨b,hb⟩:=someL (l:=l) (k:=m) (by rw [← HM.out];exact hlt)
   obtain⟨gs,offs,fa1,fc1,kb1,kbc1,hsa,_,h21,hF1,hK1⟩:=(HT.out wq hSq).at hb
   subst hsa
   obtain⟨F,hF⟩:∃ F,F=b.1.length:=⟨_,rfl⟩
   obtain⟨wb,hwb⟩:∃ W,W=wq.alloc (.cells #[.slice fa1 F fc1,.slice kb1 b.2.length kbc1] 50):=⟨_,rfl⟩
   have bb:Below wq.heap.size wq wb:=by rw [hwb];exact belowA _ _
   have tb:Two wb wq.heap.size (.slice fa1 F fc1) (.slice kb1 b.2.length kbc1):=⟨by rw [hwb];exact heapNew _ _⟩
   have hSb:Below w.heap.size w wb:=hSq.trans (bb.mono hSq.size)
   have HFK:Hid (F=b.1.length):=hF
   have Hbs:Hid (l[m]? = some b):=hb
   have c0:=h21.c0
   have c1:=h21.c1
   rw [← hF] at c0
   obtain⟨t0,t1,_⟩:=tb.cells
   have Hwb:Hid (_=_):=hwb
   clear hwb h21 hF1 hK1 hb hF tb
   go_upto_region 4 with fail
   rw [← Hwb.out]
   clear c0 c1
   by_cases hz:F=0
   ·subst hz
    go_wp2_with fail
    go_ret
    exact⟨true,rfl,(fun h=>by cases h),hSb⟩
   ·have hz1:((F:Int) == 0)=false:=by simp;omega
    go_wp2_with fail
    go_roundw
    case rel =>
     refine⟨m+1,by omega,by go_num,hSb,fun j y hj hy=>?_⟩
     rcases Nat.lt_or_ge j m with h|h
     ·exact HA.out j y h hy
     ·obtain rfl:j=m:=by omega
      rw [Hbs.out] at hy
      cases hy
      exact fun e=>hz (by rw [HFK.out,e];rfl)
    case measure=>simp [intOf];omega
  ·have hkI:¬ (m:Int) < (M:Int):=by omega
   have HE:Hid (∀ x∈l,x.1≠[]):=fun b hb=>by
    obtain⟨j,hj⟩:=List.mem_iff_getElem?.1 hb
    exact HA.out j b (by have:=some_lt hj;have:=HM.out;omega) hj
   go_wp2_with fail
   go_ret
   have HE2:∀ (a:List C) (c:List Tm),(a,c)∈l→¬ a=[]:=fun a c h=>HE.out (a,c) h
   first | exact⟨false,rfl,(fun _=>HE.out),hSq⟩ | exact .inl ⟨rfl,HE2,hSq⟩ | exact⟨HE2,hSq⟩
def PlC (N:Nat):Prop:=∀ (t:Tm) (v:Value) (w:World),TmIn Tt w t v→blk t≤N→blk t≤100000→Calls Tryz.prog 8 #[v] w fun e w'=>∃ b,e=.returned (.bool b)∧(b=true→neT t)∧Below w.heap.size w w'
theorem pl_step (N:Nat) (IH:PlC N):PlC (N+1):=by
 intro t v w hv hN hb
 obtain⟨hl1,hl2,hl3,hl4⟩:=blk_lens t
 obtain⟨ra,rc,ka,kc,sa,sc,rfl,ht⟩:=hv.form
 obtain⟨w1,hw1⟩:∃ W,W=w.alloc (.cells #[.int .i64 t.kind,.int .i64 t.n,.string t.name,.slice ra t.r.length rc,.slice ka t.kids.length kc,.slice sa t.sys.length sc] 26):=⟨_,rfl⟩
 have b1:Below w.heap.size w w1:=by rw [hw1];exact belowA _ _
 obtain⟨X,hX⟩:∃ X,X=w.heap.size:=⟨_,rfl⟩
 have x1:Six w1 X (.int .i64 t.kind) (.int .i64 t.n) (.string t.name) (.slice ra t.r.length rc) (.slice ka t.kids.length kc) (.slice sa t.sys.length sc):=⟨by rw [hw1,hX];exact heapNew _ _⟩
 obtain⟨L,hL⟩:∃ L,L=t.kids.length:=⟨_,rfl⟩
 obtain⟨M,hM⟩:∃ L,L=t.sys.length:=⟨_,rfl⟩
 have HC:Hid (∀ W,Below w1.heap.size w1 W→W.cell? ⟨X,4,none⟩=some (.slice ka L kc)∧W.cell? ⟨X,5,none⟩=some (.slice sa M sc)):=fun W q=>by
  rw [hL,hM];exact⟨(x1.blw q).cells.2.2.2.2.1,(x1.blw q).cells.2.2.2.2.2.1⟩
 have HT:Hid (∀ W,Below w1.heap.size w1 W→TmTop Tt W t ra rc ka kc sa sc):=fun W q=>(ht.blw b1).blw q
 have HB:Hid (∀ W,Below w1.heap.size w1 W→Below X w W):=fun W q=>by rw [hX];exact bchain b1 q
 have HI:Hid (PlC N):=IH
 have HN:Hid (blk t≤N+1∧blk t≤100000):=⟨hN,hb⟩
 have HL:Hid (L=t.kids.length∧M=t.sys.length):=⟨hL,hM⟩
 have HX:Hid (X=w.heap.size):=hX
 have hLb:L≤100000:=by omega
 have hMb:M≤100000:=by omega
 have HW:Hid (_=_):=hw1
 rw [← hX,← hL,← hM]
 have HW2:Hid (w1=w.alloc (.cells #[.int .i64 t.kind,.int .i64 t.n,.string t.name,.slice ra t.r.length rc,.slice ka L kc,.slice sa M sc] 26)):=(by rw [hw1,hL,hM]:_=_)
 obtain⟨y0,y1⟩:=HC.out w1 (Below.refl _ _)
 clear hw1 hX hL hM x1 hv ht b1 IH hN hb hl1 hl2 hl3 hl4 HW
 go_enter Tryz.func8,Tryz.ntmps8
 go_upto_region 1 with fail
 rw [← HW2.out]
 simp only [← HX.out]
 clear HW2
 have n1:=never15_any t.sys sa M sc HL.out.2 w1 (by rw [HL.out.2];exact (HT.out w1 (Below.refl _ _)).sys) hMb
 go_wp2_with fail
 refine n1.mono ?_
 rintro e wn ⟨bn,rfl,hbn,bbn⟩
 clear n1 y0 y1
 cases bn
 case true =>
  have hF:=HB.out wn bbn
  go_wp2_with fail
  go_ret
  exact⟨false,rfl,(fun h=>by cases h),hF⟩
 have HNv:Hid (∀ x∈t.sys,x.1≠[]):=hbn rfl
 clear hbn
 obtain⟨y0,y1⟩:=HC.out wn bbn
 go_wp2_with fail
 clear y0 y1
 go_loopw [15] (fun u wr=>∃ k:Nat,k≤L∧u=.int .i64 k∧Below w1.heap.size w1 wr∧Hid (∀ (j:Nat) (x:Tm),j<k→t.kids[j]? = some x→neT x)) (fun u _=>L - (intOf u).toNat)
 case atStart=>exact⟨0,Nat.zero_le _,rfl,bbn,fun j x hj=>absurd hj (Nat.not_lt_zero _)⟩
 case round =>
  obtain⟨wo,hwo⟩:∃ wo,wo=wr:=⟨_,rfl⟩
  subst hwo
  obtain⟨k,hk,rfl,hSo,HA⟩:=hrel
  by_cases hlt:k<L
  ·have hkI:(k:Int) < (L:Int):=by omega
   obtain⟨x,hx⟩:=someL (l:=t.kids) (k:=k) (by rw [← HL.out.1];exact hlt)
   have hbk:=blk_kid (List.mem_of_getElem? hx)
   obtain⟨g1,off1,ra1,rc1,ka1,kc1,sa1,sc1,hka,_,h61,hty⟩:=(HT.out wo hSo).kids.at hx
   subst hka
   obtain⟨wb,hwb⟩:∃ W,W=wo.alloc (.cells #[.int .i64 x.kind,.int .i64 x.n,.string x.name,.slice ra1 x.r.length rc1,.slice ka1 x.kids.length kc1,.slice sa1 x.sys.length sc1] 26):=⟨_,rfl⟩
   have bb:Below wo.heap.size wo wb:=by rw [hwb];exact belowA _ _
   have nb:Six wb wo.heap.size (.int .i64 x.kind) (.int .i64 x.n) (.string x.name) (.slice ra1 x.r.length rc1) (.slice ka1 x.kids.length kc1) (.slice sa1 x.sys.length sc1):=⟨by rw [hwb];exact heapNew _ _⟩
   have hSb:Below w1.heap.size w1 wb:=hSo.trans (bb.mono hSo.size)
   have cc:=HI.out x _ wb (hty.blw bb).value (by have:=HN.out.1;omega) (by have:=HN.out.2;omega)
   obtain⟨_,c0,c1,c2,c3,c4,c5⟩:=h61
   obtain⟨z0,z1,z2,z3,z4,z5,_⟩:=nb.cells
   have Hwb:Hid (_=_):=hwb
   have Hx:Hid (t.kids[k]? = some x):=hx
   clear hwb hty hbk nb hx
   go_upto_region 6 with fail
   rw [← Hwb.out]
   clear c0 c1 c2 c3 c4 c5
   go_wp2_with fail
   refine cc.mono ?_
   rintro e w2 ⟨b,rfl,hb,b2⟩
   clear cc z0 z1 z2 z3 z4 z5
   have hS2:Below w1.heap.size w1 w2:=hSb.trans (b2.mono hSb.size)
   cases b
   case true =>
    have Hb:Hid (neT x):=hb rfl
    go_wp2_with fail
    go_roundw
    case rel =>
     refine⟨k+1,by omega,by go_num,hS2,fun j y hj hy=>?_⟩
     rcases Nat.lt_or_ge j k with h|h
     ·exact HA.out j y h hy
     ·obtain rfl:j=k:=by omega
      rw [Hx.out] at hy
      cases hy
      exact Hb.out
    case measure=>simp [intOf];omega
   case false =>
    have hF:=HB.out w2 hS2
    go_wp2_with fail
    go_ret
    exact⟨false,rfl,(fun h=>by cases h),hF⟩
  ·have hkI:¬ (k:Int) < (L:Int):=by omega
   have HK:Hid (∀ x∈t.kids,neT x):=fun x hx=>by
    obtain⟨j,hj⟩:=List.mem_iff_getElem?.1 hx
    exact HA.out j x (by have:=some_lt hj;have:=HL.out.1;omega) hj
   obtain⟨y0,y1⟩:=HC.out wo hSo
   clear HA
   go_wp2_with fail
   clear y0 y1
   go_loopw [26] (fun u wr=>∃ k:Nat,k≤M∧u=.int .i64 k∧Below w1.heap.size w1 wr∧Hid (∀ (j:Nat) (b:List C × List Tm),j<k→t.sys[j]? = some b→b.1≠[]∧∀ x∈b.2,neT x)) (fun u _=>M - (intOf u).toNat)
   case atStart=>exact⟨0,Nat.zero_le _,rfl,hSo,fun j x hj=>absurd hj (Nat.not_lt_zero _)⟩
   case round =>
    obtain⟨wq,hwq⟩:∃ wq,wq=wr:=⟨_,rfl⟩
    subst hwq
    clear hkI hSo hlt hk
    obtain⟨m,hm,rfl,hSq,HA⟩:=hrel
    by_cases hlt:m<M
    ·have hkI:(m:Int) < (M:Int):=by omega
     obtain⟨b,hb⟩:=someL (l:=t.sys) (k:=m) (by rw [← HL.out.2];exact hlt)
     have hbr:=blk_br (List.mem_of_getElem? hb)
     have hbl:=blkL_len b.2
     obtain⟨gs,offs,fa1,fc1,kb1,kbc1,hsa,_,h21,hF1,hK1⟩:=(HT.out wq hSq).sys.at hb
     subst hsa
     obtain⟨F,hF⟩:∃ F,F=b.1.length:=⟨_,rfl⟩
     obtain⟨K,hK⟩:∃ F,F=b.2.length:=⟨_,rfl⟩
     have HFK:Hid (F=b.1.length∧K=b.2.length):=⟨hF,hK⟩
     have hKb:K≤100000:=by have:=HN.out.2;omega
     obtain⟨wb,hwb⟩:∃ W,W=wq.alloc (.cells #[.slice fa1 F fc1,.slice kb1 K kbc1] 50):=⟨_,rfl⟩
     obtain⟨Y,hY⟩:∃ Y,Y=wq.heap.size:=⟨_,rfl⟩
     have bb:Below wq.heap.size wq wb:=by rw [hwb];exact belowA _ _
     have tb:Two wb Y (.slice fa1 F fc1) (.slice kb1 K kbc1):=⟨by rw [hwb,hY];exact heapNew _ _⟩
     have hSb:Below w1.heap.size w1 wb:=hSq.trans (bb.mono hSq.size)
     have HTb:Hid (∀ W,Below wb.heap.size wb W→Two W Y (.slice fa1 F fc1) (.slice kb1 K kbc1)):=fun W q=>tb.blw q
     have HKd:Hid (∀ W,Below wb.heap.size wb W→KdT Tt W (TmIn Tt W) b.2 (.slice kb1 K kbc1)):=fun W q=>by rw [hK];exact (hK1.blw bb).blw q
     have Hbs:Hid (t.sys[m]? = some b):=hb
     have c0:=h21.c0
     have c1:=h21.c1
     rw [← hF] at c0
     rw [← hK] at c1
     obtain⟨t0,t1,_⟩:=tb.cells
     have Hwb:Hid (_=_):=hwb
     have HY:Hid (Y=wq.heap.size):=hY
     clear hwb hY h21 hF1 hK1 hb hF hK tb hbl
     go_upto_region 12 with fail
     rw [← Hwb.out]
     simp only [← HY.out]
     clear c0 c1
     ·go_wp2_with fail
      clear t0 t1
      go_loopw [33] (fun u wr=>∃ k:Nat,k≤K∧u=.int .i64 k∧Below wb.heap.size wb wr∧Hid (∀ (j:Nat) (x:Tm),j<k→b.2[j]? = some x→neT x)) (fun u _=>K - (intOf u).toNat)
      case atStart=>exact⟨0,Nat.zero_le _,rfl,Below.refl _ _,fun j x hj=>absurd hj (Nat.not_lt_zero _)⟩
      case round =>
       obtain⟨wo,hwo⟩:∃ wo,wo=wr:=⟨_,rfl⟩
       subst hwo
       obtain⟨k,hk,rfl,hSo,HA2⟩:=hrel
       by_cases hlk:k<K
       ·have hkI2:(k:Int) < (K:Int):=by omega
        obtain⟨x,hx⟩:=someL (l:=b.2) (k:=k) (by rw [← HFK.out.2];exact hlk)
        have hbk:=blk_sub (List.mem_of_getElem? Hbs.out) (List.mem_of_getElem? hx)
        obtain⟨g1,off1,ra1,rc1,ka1,kc1,sa1,sc1,hka,_,h61,hty⟩:=(HKd.out wo hSo).at hx
        subst hka
        obtain⟨wc,hwc⟩:∃ W,W=wo.alloc (.cells #[.int .i64 x.kind,.int .i64 x.n,.string x.name,.slice ra1 x.r.length rc1,.slice ka1 x.kids.length kc1,.slice sa1 x.sys.length sc1] 26):=⟨_,rfl⟩
        have bc:Below wo.heap.size wo wc:=by rw [hwc];exact belowA _ _
        have nc:Six wc wo.heap.size (.int .i64 x.kind) (.int .i64 x.n) (.string x.name) (.slice ra1 x.r.length rc1) (.slice ka1 x.kids.length kc1) (.slice sa1 x.sys.length sc1):=⟨by rw [hwc];exact heapNew _ _⟩
        have hSc:Below wb.heap.size wb wc:=hSo.trans (bc.mono hSo.size)
        have cc:=HI.out x _ wc (hty.blw bc).value (by have:=HN.out.1;omega) (by have:=HN.out.2;omega)
        obtain⟨_,c0,c1,c2,c3,c4,c5⟩:=h61
        obtain⟨z0,z1,z2,z3,z4,z5,_⟩:=nc.cells
        have Hwc:Hid (_=_):=hwc
        have Hx:Hid (b.2[k]? = some x):=hx
        clear hwc hty hbk nc hx
        go_upto_region 15 with fail
        rw [← Hwc.out]
        clear c0 c1 c2 c3 c4 c5
        go_wp2_with fail
        refine cc.mono ?_
        rintro e w2 ⟨bo,rfl,hbo,b2⟩
        clear cc z0 z1 z2 z3 z4 z5
        have hS2:Below wb.heap.size wb w2:=hSc.trans (b2.mono hSc.size)
        cases bo
        case true =>
         have Hb:Hid (neT x):=hbo rfl
         go_wp2_with fail
         go_roundw
         case rel =>
          refine⟨k+1,by omega,by go_num,hS2,fun j y hj hy=>?_⟩
          rcases Nat.lt_or_ge j k with h|h
          ·exact HA2.out j y h hy
          ·obtain rfl:j=k:=by omega
           rw [Hx.out] at hy
           cases hy
           exact Hb.out
         case measure=>simp [intOf];omega
        case false =>
         have hFin:=HB.out w2 (hSb.trans (hS2.mono hSb.size))
         go_wp2_with fail
         go_ret
         exact⟨false,rfl,(fun h=>by cases h),hFin⟩
       ·have hkI2:¬ (k:Int) < (K:Int):=by omega
        have hS2:Below w1.heap.size w1 wo:=hSb.trans (hSo.mono hSb.size)
        have HK2:Hid (b.1≠[]∧∀ x∈b.2,neT x):=⟨HNv.out b (List.mem_of_getElem? Hbs.out),fun x hx=>by
         obtain⟨j,hj⟩:=List.mem_iff_getElem?.1 hx
         exact HA2.out j x (by have:=some_lt hj;have:=HFK.out.2;omega) hj⟩
        go_wp2_with fail
        go_roundw
        case rel =>
         refine⟨m+1,by omega,by go_num,hS2,fun j y hj hy=>?_⟩
         rcases Nat.lt_or_ge j m with h|h
         ·exact HA.out j y h hy
         ·obtain rfl:j=m:=by omega
          rw [Hbs.out] at hy
          cases hy
          exact HK2.out
        case measure=>simp [intOf];omega
    ·have hkI:¬ (m:Int) < (M:Int):=by omega
     have HE:Hid (neT t):=(ne_eq t).2 ⟨HK.out,fun b hb=>by
      obtain⟨j,hj⟩:=List.mem_iff_getElem?.1 hb
      exact HA.out j b (by have:=some_lt hj;have:=HL.out.2;omega) hj⟩
     have hFin:=HB.out wq hSq
     go_wp2_with fail
     go_ret
     first | exact⟨true,rfl,(fun _=>HE.out),hFin⟩ | exact .inr ⟨rfl,HE.out,hFin⟩ | exact⟨HE.out,hFin⟩
theorem plain_any:∀ N:Nat,PlC N
 | 0=>fun t v w _ hN=>by have:=blk_pos t;omega
 | N+1=>pl_step N (plain_any N)
end Go.Proofs.YtmblbmdchinflaaGreat
