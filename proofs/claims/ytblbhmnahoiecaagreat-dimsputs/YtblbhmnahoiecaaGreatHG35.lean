/- A part of the proof. -/
import Derived.Test.YtblbhmnahoiecaaGreatHG34
set_option linter.unusedVariables false
set_option linter.unusedSimpArgs false
set_option maxRecDepth 100000
set_option maxHeartbeats 8000000
namespace Go.Proofs.YtblbhmnahoiecaaGreat
open Go.RowKit
theorem szL_take (l:List Tm) (k:Nat):szL (l.take k)<=szL l:=by unfold szL;rw [List.map_take];exact sumN_take _ k
theorem szS_take (l:List (List C × List Tm)) (k:Nat):szS (l.take k)<=szS l:=by unfold szS;rw [List.map_take];exact sumN_take _ k
theorem maxL_take (l:List Nat) (k:Nat):maxL (l.take k)<=maxL l:=maxL_le fun x hx=>maxL_mem (List.mem_of_mem_take hx)
theorem dpL_take2 (l:List Tm) (k:Nat):dpL (l.take k)<=dpL l:=by unfold dpL;rw [List.map_take];exact maxL_take _ k
theorem dpS_take2 (l:List (List C × List Tm)) (k:Nat):dpS (l.take k)<=dpS l:=by unfold dpS;rw [List.map_take];exact maxL_take _ k
def RSzC (N:Nat):Prop:=∀ (t:Tm) (v:Value) (w:World),blk t<=N->blk t<=100000->TmIn Tt w t v->Calls Tryz.prog 197 #[v] w fun e w'=>e=.returned (.int .i64 ((sizeT t:Nat):Int))/\Below w.heap.size w w'
theorem rsize_step (N:Nat) (IH:RSzC N):RSzC (N+1):=by
 intro t v w hbN hbb h
 obtain⟨ra,rc,ka,kc,sa,sc,rfl,ht⟩:=h.form
 obtain⟨w1,hw1⟩:∃ w1,w1=w.alloc (.cells #[.int .i64 t.kind,.int .i64 t.n,.string t.name,.slice ra t.r.length rc,.slice ka t.kids.length kc,.slice sa t.sys.length sc] 26):=⟨_,rfl⟩
 have b1:Below w.heap.size w w1:=by rw [hw1];exact belowA _ _
 have HC:Hid (Cs6 w1 w.heap.size 0 t ra rc ka kc sa sc):=by rw [hw1];exact cs6_new w t ra rc ka kc sa sc
 have HT:Hid (TmTop Tt w1 t ra rc ka kc sa sc):=ht.blw b1
 obtain⟨L,hL⟩:∃ L,L=t.kids.length:=⟨_,rfl⟩
 have HL:Hid (L=t.kids.length):=hL
 obtain⟨M,hM⟩:∃ M,M=t.sys.length:=⟨_,rfl⟩
 have HM:Hid (M=t.sys.length):=hM
 have hLb:L<=100000:=by have:=(blk_lens t).2.2.1;omega
 have hMb:M<=100000:=by have:=(blk_lens t).2.2.2;omega
 have HE:Hid (_=_):=size_eq t
 have hdb:sizeT t<=100000:=by have:=size_blk t;have:=depth_size t;omega
 have HDb:Hid (sizeT t<=100000):=hdb
 clear hdb
 have HW:Hid (_=_):=hw1
 clear hw1 h ht hL hM
 go_enter Tryz.func197,Tryz.ntmps197
 go_wp2_with fail
 rw [<- HW.out]
 clear HW
 go_loopw [3,4] (fun s i wr=>∃ k S:Nat,k<=L/\i=.int .i64 k/\s=.int .i64 S/\Hid (S=1+szL (t.kids.take k))/\S<=100000/\Below w1.heap.size w1 wr) (fun _ i _=>L - (intOf i).toNat)
 case atStart=>exact⟨0,1,Nat.zero_le _,rfl,rfl,(by simp [szL]:1=1+szL (t.kids.take 0)),by omega,Below.refl _ _⟩
 case round =>
  obtain⟨wo,hwo⟩:∃ wo,wo=wr:=⟨_,rfl⟩
  subst hwo
  obtain⟨k,S,hk,rfl,rfl,HS,hSb,hBr⟩:=hrel
  obtain⟨_,x0,x1,x2,x3,x4,x5⟩:=HC.out.blw (hBr)
  simp only [Nat.zero_add] at x1 x2 x3 x4 x5
  rw [<- HL.out] at x4
  rw [<- HM.out] at x5
  by_cases hlt:k<L
  ·have hkI:(k:Int) < (L:Int):=by omega
   obtain⟨y,hy⟩:=someL (l:=t.kids) (k:=k) (by rw [<- HL.out];exact hlt)
   obtain⟨g,off,ra1,rc1,ka1,kc1,sa1,sc1,rfl,hg,q6,qt⟩:=(HT.out.blw hBr).kids.at hy
   have hby:blk y<blk t:=blk_kid (List.mem_of_getElem? hy)
   have HY:Hid (_=_):=szL_step hy
   have cc:=IH y _ wo (by omega) (by omega) qt.value
   obtain⟨r,hr⟩:∃ r,r=sizeT y:=⟨_,rfl⟩
   rw [<- hr] at cc HY
   obtain⟨_,c0,c1,c2,c3,c4,c5⟩:=q6
   have hrb:r<=100000:=by rw [hr];have:=size_blk y;have:=depth_size y;omega
   have HN:Hid (1+szL (t.kids.take (k+1))<=100000):=(by have:=HDb.out;rw [HE.out] at this;have:=szL_take t.kids (k+1);omega:1+szL (t.kids.take (k+1))<=100000)
   clear hy qt hr
   go_wp2_with fail
   refine cc.mono ?_
   rintro e w6 ⟨rfl,hb6⟩
   clear cc c0 c1 c2 c3 c4 c5
   clear x0 x1 x2 x3 x4 x5
   have HS':Hid ((S+r)=1+szL (t.kids.take (k+1))):=(by rw [HY.out];have:=HS.out;omega:(S+r)=1+szL (t.kids.take (k+1)))
   have hSn:(S+r)<=100000:=by rw [HS'.out];exact HN.out
   go_wp2_with fail
   go_roundw
   case rel=>exact⟨k+1,(S+r),by omega,by go_num,by go_num,HS',hSn,bchain hBr hb6⟩
   case measure=>simp [intOf];omega
  ·have hkI:¬ (k:Int) < (L:Int):=by omega
   have HP:Hid (S=1+szL t.kids+szS (t.sys.take 0)):=(by have:=HS.out;rw [List.take_of_length_le (by rw [<- HL.out];omega)] at this;rw [this];simp [szS]:S=1+szL t.kids+szS (t.sys.take 0))
   clear HS
   go_wp2_with fail
   clear x0 x1 x2 x3 x4 x5
   go_loopw [3,5] (fun s i wr=>∃ k S:Nat,k<=M/\i=.int .i64 k/\s=.int .i64 S/\Hid (S=1+szL t.kids+szS (t.sys.take k))/\S<=100000/\Below w1.heap.size w1 wr) (fun _ i _=>M - (intOf i).toNat)
   case atStart=>exact⟨0,S,Nat.zero_le _,rfl,rfl,HP,hSb,hBr⟩
   case round =>
    obtain⟨wp,hwp⟩:∃ wp,wp=wr:=⟨_,rfl⟩
    subst hwp
    clear hkI hBr HP hSb
    obtain⟨k,S,hk,rfl,rfl,HS,hSb,hBr⟩:=hrel
    obtain⟨_,x0,x1,x2,x3,x4,x5⟩:=HC.out.blw (hBr)
    simp only [Nat.zero_add] at x1 x2 x3 x4 x5
    rw [<- HL.out] at x4
    rw [<- HM.out] at x5
    by_cases hlt:k<M
    ·have hkI:(k:Int) < (M:Int):=by omega
     obtain⟨b,hb⟩:=someL (l:=t.sys) (k:=k) (by rw [<- HM.out];exact hlt)
     obtain⟨g,off,fa,fc,ka1,kc1,rfl,hg,q2,qf,qk⟩:=(HT.out.blw hBr).sys.at hb
     have HY:Hid (_=_):=szS_step hb
     have HMm:Hid (b∈t.sys):=List.mem_of_getElem? hb
     have HQ2:Hid (Cs2 wp g (off+k*2) b fa fc ka1 kc1):=q2
     have HK:Hid (KdT Tt wp (TmIn Tt wp) b.2 (.slice ka1 b.2.length kc1)):=qk
     obtain⟨_,c0,c1⟩:=q2
     obtain⟨K,hK⟩:∃ K,K=b.2.length:=⟨_,rfl⟩
     have HKl:Hid (K=b.2.length):=hK
     have hKb:K<=100000:=by have:=blk_br (List.mem_of_getElem? hb);have:=blkL_len b.2;omega
     rw [<- hK] at c1
     clear hK hb qf qk
     have HP:Hid (S=1+szL t.kids+szS (t.sys.take k) + szL (b.2.take 0)):=(by rw [HS.out];simp [szL]:S=1+szL t.kids+szS (t.sys.take k) + szL (b.2.take 0))
     clear HS
     go_wp2_with fail
     clear c0 c1 x0 x1 x2 x3 x4 x5
     go_loopw [3,6] (fun s i wr=>∃ j S:Nat,j<=K/\i=.int .i64 j/\s=.int .i64 S/\Hid (S=1+szL t.kids+szS (t.sys.take k) + szL (b.2.take j))/\S<=100000/\Below wp.heap.size wp wr) (fun _ i _=>K - (intOf i).toNat)
     case atStart=>exact⟨0,S,Nat.zero_le _,rfl,rfl,HP,hSb,Below.refl _ _⟩
     case round =>
      obtain⟨wq,hwq⟩:∃ wq,wq=wr:=⟨_,rfl⟩
      subst hwq
      clear HP hSb
      obtain⟨j,S,hj,rfl,rfl,HS,hSb,hBq⟩:=hrel
      have hB2:=bchain hBr hBq
      obtain⟨_,x0,x1,x2,x3,x4,x5⟩:=HC.out.blw (hB2)
      simp only [Nat.zero_add] at x1 x2 x3 x4 x5
      rw [<- HL.out] at x4
      rw [<- HM.out] at x5
      obtain⟨_,c0,c1⟩:=HQ2.out.blw hBq
      rw [<- HKl.out] at c1
      by_cases hlt2:j<K
      ·have hjI:(j:Int) < (K:Int):=by omega
       obtain⟨y,hy⟩:=someL (l:=b.2) (k:=j) (by rw [<- HKl.out];exact hlt2)
       obtain⟨g2,off2,ra2,rc2,ka2,kc2,sa2,sc2,rfl,hg2,q6,qt⟩:=(HK.out.blw hBq).at hy
       have hby:blk y<blk t:=blk_sub HMm.out (List.mem_of_getElem? hy)
       have HY2:Hid (_=_):=szL_step hy
       have cc:=IH y _ wq (by omega) (by omega) qt.value
       obtain⟨r,hr⟩:∃ r,r=sizeT y:=⟨_,rfl⟩
       rw [<- hr] at cc HY2
       have hrb:r<=100000:=by rw [hr];have:=size_blk y;have:=depth_size y;omega
       have HN:Hid (1+szL t.kids+szS (t.sys.take k) + szL (b.2.take (j+1))<=100000):=(by have:=HDb.out;rw [HE.out] at this;have e:=HY.out;have:=szS_take t.sys (k+1);have:=szL_take b.2 (j+1);omega:1+szL t.kids+szS (t.sys.take k) + szL (b.2.take (j+1))<=100000)
       obtain⟨_,d0,d1,d2,d3,d4,d5⟩:=q6
       clear hy qt hr
       go_wp2_with fail
       refine cc.mono ?_
       rintro e w6 ⟨rfl,hb6⟩
       clear cc c0 c1 d0 d1 d2 d3 d4 d5 x0 x1 x2 x3 x4 x5
       have HS':Hid ((S+r)=1+szL t.kids+szS (t.sys.take k) + szL (b.2.take (j+1))):=(by rw [HY2.out];have:=HS.out;omega:(S+r)=1+szL t.kids+szS (t.sys.take k) + szL (b.2.take (j+1)))
       have hSn:(S+r)<=100000:=by rw [HS'.out];exact HN.out
       go_wp2_with fail
       go_roundw
       case rel=>exact⟨j+1,(S+r),by omega,by go_num,by go_num,HS',hSn,bchain hBq hb6⟩
       case measure=>simp [intOf];omega
      ·have hjI:¬ (j:Int) < (K:Int):=by omega
       have HPn:Hid (S=1+szL t.kids+szS (t.sys.take (k+1))):=(by have:=HS.out;rw [show b.2.take j=b.2 from List.take_of_length_le (by rw [<- HKl.out];omega)] at this;rw [this,HY.out];omega:S=1+szL t.kids+szS (t.sys.take (k+1)))
       clear HS
       go_wp2_with fail
       go_roundw
       case rel=>exact⟨k+1,S,by omega,by go_num,rfl,HPn,hSb,hB2⟩
       case measure=>simp [intOf];omega
    ·have hkI:¬ (k:Int) < (M:Int):=by omega
     have HR:Hid (sizeT t=S):=(by have:=HS.out;rw [List.take_of_length_le (by rw [<- HM.out];omega)] at this;rw [HE.out,this];omega:sizeT t=S)
     clear HS
     go_wp2_with fail
     go_ret
     exact⟨by rw [HR.out];go_num,bchain b1 hBr⟩
theorem rsize_any (N:Nat):RSzC N:=by
 induction N with
 | zero=>intro t v w hb;have:=blk_pos t;omega
 | succ N ih=>exact rsize_step N ih
def RDpC (N:Nat):Prop:=∀ (t:Tm) (v:Value) (w:World),blk t<=N->blk t<=100000->TmIn Tt w t v->Calls Tryz.prog 196 #[v] w fun e w'=>e=.returned (.int .i64 ((depthT t:Nat):Int))/\Below w.heap.size w w'
theorem rdepth_step (N:Nat) (IH:RDpC N):RDpC (N+1):=by
 intro t v w hbN hbb h
 obtain⟨ra,rc,ka,kc,sa,sc,rfl,ht⟩:=h.form
 obtain⟨w1,hw1⟩:∃ w1,w1=w.alloc (.cells #[.int .i64 t.kind,.int .i64 t.n,.string t.name,.slice ra t.r.length rc,.slice ka t.kids.length kc,.slice sa t.sys.length sc] 26):=⟨_,rfl⟩
 have b1:Below w.heap.size w w1:=by rw [hw1];exact belowA _ _
 have HC:Hid (Cs6 w1 w.heap.size 0 t ra rc ka kc sa sc):=by rw [hw1];exact cs6_new w t ra rc ka kc sa sc
 have HT:Hid (TmTop Tt w1 t ra rc ka kc sa sc):=ht.blw b1
 obtain⟨L,hL⟩:∃ L,L=t.kids.length:=⟨_,rfl⟩
 have HL:Hid (L=t.kids.length):=hL
 obtain⟨M,hM⟩:∃ M,M=t.sys.length:=⟨_,rfl⟩
 have HM:Hid (M=t.sys.length):=hM
 have hLb:L<=100000:=by have:=(blk_lens t).2.2.1;omega
 have hMb:M<=100000:=by have:=(blk_lens t).2.2.2;omega
 have HE:Hid (_=_):=depth_eq t
 have hdb:depthT t<=100000:=by have:=size_blk t;have:=depth_size t;omega
 have HDb:Hid (depthT t<=100000):=hdb
 clear hdb
 have HW:Hid (_=_):=hw1
 clear hw1 h ht hL hM
 go_enter Tryz.func196,Tryz.ntmps196
 go_wp2_with fail
 rw [<- HW.out]
 clear HW
 go_loopw [3,4] (fun s i wr=>∃ k S:Nat,k<=L/\i=.int .i64 k/\s=.int .i64 S/\Hid (S=dpL (t.kids.take k))/\S<=100000/\Below w1.heap.size w1 wr) (fun _ i _=>L - (intOf i).toNat)
 case atStart=>exact⟨0,0,Nat.zero_le _,rfl,rfl,(by simp [dpL,maxL]:0=dpL (t.kids.take 0)),by omega,Below.refl _ _⟩
 case round =>
  obtain⟨wo,hwo⟩:∃ wo,wo=wr:=⟨_,rfl⟩
  subst hwo
  obtain⟨k,S,hk,rfl,rfl,HS,hSb,hBr⟩:=hrel
  obtain⟨_,x0,x1,x2,x3,x4,x5⟩:=HC.out.blw (hBr)
  simp only [Nat.zero_add] at x1 x2 x3 x4 x5
  rw [<- HL.out] at x4
  rw [<- HM.out] at x5
  by_cases hlt:k<L
  ·have hkI:(k:Int) < (L:Int):=by omega
   obtain⟨y,hy⟩:=someL (l:=t.kids) (k:=k) (by rw [<- HL.out];exact hlt)
   obtain⟨g,off,ra1,rc1,ka1,kc1,sa1,sc1,rfl,hg,q6,qt⟩:=(HT.out.blw hBr).kids.at hy
   have hby:blk y<blk t:=blk_kid (List.mem_of_getElem? hy)
   have HY:Hid (_=_):=dpL_step hy
   have cc:=IH y _ wo (by omega) (by omega) qt.value
   obtain⟨r,hr⟩:∃ r,r=depthT y:=⟨_,rfl⟩
   rw [<- hr] at cc HY
   obtain⟨_,c0,c1,c2,c3,c4,c5⟩:=q6
   have hrb:r<=100000:=by rw [hr];have:=size_blk y;have:=depth_size y;omega
   have HN:Hid (dpL (t.kids.take (k+1))<=100000):=(by have:=HDb.out;rw [HE.out] at this;have:=dpL_take2 t.kids (k+1);omega:dpL (t.kids.take (k+1))<=100000)
   clear hy qt hr
   go_wp2_with fail
   refine cc.mono ?_
   rintro e w6 ⟨rfl,hb6⟩
   clear cc c0 c1 c2 c3 c4 c5
   clear x0 x1 x2 x3 x4 x5
   by_cases hc:S<r
   ·have hI:(S:Int) < (r:Int):=by omega
    have HS':Hid (r=dpL (t.kids.take (k+1))):=(by rw [HY.out];have:=HS.out;omega:r=dpL (t.kids.take (k+1)))
    have hSn:r<=100000:=by rw [HS'.out];exact HN.out
    go_wp2_with fail
    go_roundw
    case rel=>exact⟨k+1,r,by omega,by go_num,by go_num,HS',hSn,bchain hBr hb6⟩
    case measure=>simp [intOf];omega
   ·have hI:¬ (S:Int) < (r:Int):=by omega
    have HS':Hid (S=dpL (t.kids.take (k+1))):=(by rw [HY.out];have:=HS.out;omega:S=dpL (t.kids.take (k+1)))
    have hSn:S<=100000:=by rw [HS'.out];exact HN.out
    go_wp2_with fail
    go_roundw
    case rel=>exact⟨k+1,S,by omega,by go_num,by go_num,HS',hSn,bchain hBr hb6⟩
    case measure=>simp [intOf];omega
  ·have hkI:¬ (k:Int) < (L:Int):=by omega
   have HP:Hid (S=max (dpL t.kids) (dpS (t.sys.take 0))):=(by have:=HS.out;rw [List.take_of_length_le (by rw [<- HL.out];omega)] at this;rw [this];simp [dpS,maxL]:S=max (dpL t.kids) (dpS (t.sys.take 0)))
   clear HS
   go_wp2_with fail
   clear x0 x1 x2 x3 x4 x5
   go_loopw [3,6] (fun s i wr=>∃ k S:Nat,k<=M/\i=.int .i64 k/\s=.int .i64 S/\Hid (S=max (dpL t.kids) (dpS (t.sys.take k)))/\S<=100000/\Below w1.heap.size w1 wr) (fun _ i _=>M - (intOf i).toNat)
   case atStart=>exact⟨0,S,Nat.zero_le _,rfl,rfl,HP,hSb,hBr⟩
   case round =>
    obtain⟨wp,hwp⟩:∃ wp,wp=wr:=⟨_,rfl⟩
    subst hwp
    clear hkI hBr HP hSb
    obtain⟨k,S,hk,rfl,rfl,HS,hSb,hBr⟩:=hrel
    obtain⟨_,x0,x1,x2,x3,x4,x5⟩:=HC.out.blw (hBr)
    simp only [Nat.zero_add] at x1 x2 x3 x4 x5
    rw [<- HL.out] at x4
    rw [<- HM.out] at x5
    by_cases hlt:k<M
    ·have hkI:(k:Int) < (M:Int):=by omega
     obtain⟨b,hb⟩:=someL (l:=t.sys) (k:=k) (by rw [<- HM.out];exact hlt)
     obtain⟨g,off,fa,fc,ka1,kc1,rfl,hg,q2,qf,qk⟩:=(HT.out.blw hBr).sys.at hb
     have HY:Hid (_=_):=dpS_step hb
     have HMm:Hid (b∈t.sys):=List.mem_of_getElem? hb
     have HQ2:Hid (Cs2 wp g (off+k*2) b fa fc ka1 kc1):=q2
     have HK:Hid (KdT Tt wp (TmIn Tt wp) b.2 (.slice ka1 b.2.length kc1)):=qk
     obtain⟨_,c0,c1⟩:=q2
     obtain⟨K,hK⟩:∃ K,K=b.2.length:=⟨_,rfl⟩
     have HKl:Hid (K=b.2.length):=hK
     have hKb:K<=100000:=by have:=blk_br (List.mem_of_getElem? hb);have:=blkL_len b.2;omega
     rw [<- hK] at c1
     clear hK hb qf qk
     have HP:Hid (S=max (max (dpL t.kids) (dpS (t.sys.take k))) (dpL (b.2.take 0))):=(by rw [HS.out];simp [dpL,maxL]:S=max (max (dpL t.kids) (dpS (t.sys.take k))) (dpL (b.2.take 0)))
     clear HS
     go_wp2_with fail
     clear c0 c1 x0 x1 x2 x3 x4 x5
     go_loopw [3,7] (fun s i wr=>∃ j S:Nat,j<=K/\i=.int .i64 j/\s=.int .i64 S/\Hid (S=max (max (dpL t.kids) (dpS (t.sys.take k))) (dpL (b.2.take j)))/\S<=100000/\Below wp.heap.size wp wr) (fun _ i _=>K - (intOf i).toNat)
     case atStart=>exact⟨0,S,Nat.zero_le _,rfl,rfl,HP,hSb,Below.refl _ _⟩
     case round =>
      obtain⟨wq,hwq⟩:∃ wq,wq=wr:=⟨_,rfl⟩
      subst hwq
      clear HP hSb
      obtain⟨j,S,hj,rfl,rfl,HS,hSb,hBq⟩:=hrel
      have hB2:=bchain hBr hBq
      obtain⟨_,x0,x1,x2,x3,x4,x5⟩:=HC.out.blw (hB2)
      simp only [Nat.zero_add] at x1 x2 x3 x4 x5
      rw [<- HL.out] at x4
      rw [<- HM.out] at x5
      obtain⟨_,c0,c1⟩:=HQ2.out.blw hBq
      rw [<- HKl.out] at c1
      by_cases hlt2:j<K
      ·have hjI:(j:Int) < (K:Int):=by omega
       obtain⟨y,hy⟩:=someL (l:=b.2) (k:=j) (by rw [<- HKl.out];exact hlt2)
       obtain⟨g2,off2,ra2,rc2,ka2,kc2,sa2,sc2,rfl,hg2,q6,qt⟩:=(HK.out.blw hBq).at hy
       have hby:blk y<blk t:=blk_sub HMm.out (List.mem_of_getElem? hy)
       have HY2:Hid (_=_):=dpL_step hy
       have cc:=IH y _ wq (by omega) (by omega) qt.value
       obtain⟨r,hr⟩:∃ r,r=depthT y:=⟨_,rfl⟩
       rw [<- hr] at cc HY2
       have hrb:r<=100000:=by rw [hr];have:=size_blk y;have:=depth_size y;omega
       have HN:Hid (max (max (dpL t.kids) (dpS (t.sys.take k))) (dpL (b.2.take (j+1)))<=100000):=(by have:=HDb.out;rw [HE.out] at this;have e:=HY.out;have:=dpS_take2 t.sys (k+1);have:=dpL_take2 b.2 (j+1);omega:max (max (dpL t.kids) (dpS (t.sys.take k))) (dpL (b.2.take (j+1)))<=100000)
       obtain⟨_,d0,d1,d2,d3,d4,d5⟩:=q6
       clear hy qt hr
       go_wp2_with fail
       refine cc.mono ?_
       rintro e w6 ⟨rfl,hb6⟩
       clear cc c0 c1 d0 d1 d2 d3 d4 d5 x0 x1 x2 x3 x4 x5
       by_cases hc:S<r
       ·have hI:(S:Int) < (r:Int):=by omega
        have HS':Hid (r=max (max (dpL t.kids) (dpS (t.sys.take k))) (dpL (b.2.take (j+1)))):=(by rw [HY2.out];have:=HS.out;omega:r=max (max (dpL t.kids) (dpS (t.sys.take k))) (dpL (b.2.take (j+1))))
        have hSn:r<=100000:=by rw [HS'.out];exact HN.out
        go_wp2_with fail
        go_roundw
        case rel=>exact⟨j+1,r,by omega,by go_num,by go_num,HS',hSn,bchain hBq hb6⟩
        case measure=>simp [intOf];omega
       ·have hI:¬ (S:Int) < (r:Int):=by omega
        have HS':Hid (S=max (max (dpL t.kids) (dpS (t.sys.take k))) (dpL (b.2.take (j+1)))):=(by rw [HY2.out];have:=HS.out;omega:S=max (max (dpL t.kids) (dpS (t.sys.take k))) (dpL (b.2.take (j+1))))
        have hSn:S<=100000:=by rw [HS'.out];exact HN.out
        go_wp2_with fail
        go_roundw
        case rel=>exact⟨j+1,S,by omega,by go_num,by go_num,HS',hSn,bchain hBq hb6⟩
        case measure=>simp [intOf];omega
      ·have hjI:¬ (j:Int) < (K:Int):=by omega
       have HPn:Hid (S=max (dpL t.kids) (dpS (t.sys.take (k+1)))):=(by have:=HS.out;rw [show b.2.take j=b.2 from List.take_of_length_le (by rw [<- HKl.out];omega)] at this;rw [this,HY.out];omega:S=max (dpL t.kids) (dpS (t.sys.take (k+1))))
       clear HS
       go_wp2_with fail
       go_roundw
       case rel=>exact⟨k+1,S,by omega,by go_num,rfl,HPn,hSb,hB2⟩
       case measure=>simp [intOf];omega
    ·have hkI:¬ (k:Int) < (M:Int):=by omega
     have HR:Hid (depthT t=(S+1)):=(by have:=HS.out;rw [List.take_of_length_le (by rw [<- HM.out];omega)] at this;rw [HE.out,this];omega:depthT t=(S+1))
     clear HS
     go_wp2_with fail
     go_ret
     exact⟨by rw [HR.out];go_num,bchain b1 hBr⟩
theorem rdepth_any (N:Nat):RDpC N:=by
 induction N with
 | zero=>intro t v w hb;have:=blk_pos t;omega
 | succ N ih=>exact rdepth_step N ih
def dBr (o:Bool) (D:Nat):Nat:=if o then 24 else D
def VRel (o:Bool) (V:Int) (bv:Nat) (VV:Int):Prop:=I64 VV/\((o=true/\VV<0)\/(o=false/\0<=V/\(VV=V+bv\/(VV<0/\9223372036854775807<V+bv))))
theorem VRel.zero {o:Bool} {V:Int} {bv:Nat} {VV:Int} (h:VRel o V bv VV) (b:Nat) (hb:b<=1) (hz:b=0\/VV<0):VRel o V (bv+b) VV:=by
 obtain⟨h0,h1 | ⟨h1,h2,h3⟩⟩:=h
 ·exact⟨h0,.inl h1⟩
 ·refine⟨h0,.inr ⟨h1,h2,?_⟩⟩
  rcases h3 with h3|h3
  ·rcases hz with hz|hz
   ·left;omega
   ·exfalso;omega
  ·right;omega
theorem w64_id {x:Int} (h:I64 x):wrap64 x=x:=by
 obtain⟨h1,h2⟩:=h
 unfold wrap64;omega
theorem VRel.step {o:Bool} {V:Int} {bv:Nat} {VV:Int} (h:VRel o V bv VV) (h0:0<=VV) (b:Nat) (hb:b<=1):VRel o V (bv+b) (wrap64 (VV+(b:Int))):=by
 obtain⟨⟨i1,i2⟩,h1 | ⟨h1,h2,h3⟩⟩:=h
 ·omega
 ·have e:VV=V+bv:=by omega
  unfold VRel I64 wrap64
  refine⟨?_,.inr ⟨h1,h2,?_⟩⟩ <;> omega
theorem num_rel {o:Bool} {V:Int} {bv:Nat} {VV n:Int} (h:VRel o V bv VV) (hn:n<=9223372036854775807):numB o V bv 1 n=true↔0<=n/\(VV<0\/n<VV):=by
 unfold numB
 rw [if_pos rfl,Bool.and_eq_true,decide_eq_true_eq,Bool.or_eq_true,decide_eq_true_eq]
 obtain⟨_,h1 | ⟨h1,h2,h3⟩⟩:=h
 ·rw [h1.1];simp [h1.2]
 ·rw [h1];simp only [Bool.false_eq_true,false_or];omega
def rowR (k:Int) (r:List C):Bool:=if k=13\/k=21\/k=26 then rightF r else if k=14 then rightA r else decide (r.length=0)
def lowB (o:Bool) (D bd:Nat) (r:List C):Bool:=decide (dimsN r / 2 ^ (dBr o D+bd)=0)
theorem reach_low (o:Bool) (D bd:Nat) (r:List C):reachB o (D+bd) r=lowB o D bd r:=by
 unfold reachB lowB dBr
 cases o with
 | false=>simp
 | true =>
  simp only [Bool.true_or,if_true]
  rw [decide_eq_true]
  exact Nat.div_eq_of_lt (Nat.lt_of_lt_of_le (dimsN_lt r) (show 2 ^ 24<=2 ^ (24+bd) from Nat.pow_le_pow_right (by omega) (by omega)))
theorem row_low (o:Bool) (D bd:Nat) (k:Int) (r:List C):rowB o (D+bd) k r=(rowR k r && lowB o D bd r):=by
 unfold rowB rowR
 split
 ·rw [reach_low]
 ·split
  ·rw [reach_low]
  ·by_cases h:r.length=0
   ·have:r=[]:=List.eq_nil_of_length_eq_zero h
    rw [this];simp [lowB,dimsN]
   ·rw [decide_eq_false h];rfl
theorem br_low (o:Bool) (D bd:Nat) (k:Int) (b:List C × Nat):brB o (D+bd) k b=(!decide (partsK k=0) && decide ((b.2:Int)=partsK k) && rightA b.1 && lowB o D bd b.1):=by
 unfold brB;rw [reach_low]
def RAlC (o:Bool) (V:Int) (D:Nat) (N:Nat):Prop:=∀ (t:Tm) (v:Value) (bv bd:Nat) (VV:Int) (w:World),blk t<=N->blk t<=40000->bv+blk t<=100000->bd+blk t<=100000->VRel o V bv VV->TmIn Tt w t v ->
 Calls Tryz.prog 162 #[v,.int .i64 VV,.int .i64 ((dBr o D+bd:Nat):Int),.bool (!o)] w fun e w'=>e=.returned (.bool (okT o V D t bv bd))/\Below w.heap.size w w'
end Go.Proofs.YtblbhmnahoiecaaGreat
