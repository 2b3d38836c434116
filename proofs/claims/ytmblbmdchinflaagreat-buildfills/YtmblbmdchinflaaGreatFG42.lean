/- Which terms are the same, by the document. -/
import Derived.Deep.DeepCutAuto
import Derived.Test.YtmblbmdchinflaaGreatEG20
import Derived.Test.YtmblbmdchinflaaGreatFG32
import Derived.Test.YtmblbmdchinflaaGreatFG33
import Derived.Test.YtmblbmdchinflaaGreatFYFlA
set_option linter.unusedVariables false
set_option linter.unusedSimpArgs false
set_option maxRecDepth 100000
set_option maxHeartbeats 8000000
namespace Go.Proofs.YtmblbmdchinflaaGreat
open Go.RowKit
def RSmC (N:Nat):Prop:=∀ (t u:Tm) (b:Bool) (v v':Value) (w:World),TmIn Tt w t v→TmIn Tt w u v'→blk t≤N→blk t≤40000→(b=true↔t=u) →
 Calls Tryz.prog 14 #[v,v'] w fun e w'=>e=.returned (.bool b)∧Below w.heap.size w w'
def RLsC (N:Nat):Prop:=∀ (l m:List Tm) (b:Bool) (v v':Value) (w:World),KdT Tt w (TmIn Tt w) l v→KdT Tt w (TmIn Tt w) m v'→blkL l≤N→blkL l≤40000→(b=true↔l=m) →
 Calls Tryz.prog 47 #[v,v'] w fun e w'=>e=.returned (.bool b)∧Below w.heap.size w w'
theorem rlists_of (N:Nat) (IH:RSmC N):RLsC N:=by
 intro l m b v v' w h1 h2 hN hbb hb
 obtain⟨la,lc,rfl,_⟩:=id h1
 obtain⟨ma,mc,rfl,_⟩:=id h2
 have HF:Hid (¬ l=m→b=false):=fun h=>Bool.eq_false_iff.2 fun h2=>h (hb.1 h2)
 have HTr:Hid (l=m→b=true):=fun h=>hb.2 h
 have H1:Hid (KdT Tt w (TmIn Tt w) l (.slice la l.length lc)):=h1
 have H2:Hid (KdT Tt w (TmIn Tt w) m (.slice ma m.length mc)):=h2
 have hll:=blkL_len l
 obtain⟨L,hL⟩:∃ L,L=l.length:=⟨_,rfl⟩
 have HL:Hid (L=l.length):=hL
 obtain⟨M,hM⟩:∃ L,L=m.length:=⟨_,rfl⟩
 have HM:Hid (M=m.length):=hM
 rw [← hL,← hM]
 rw [← hL] at hll
 clear hb h1 h2 hL hM
 by_cases hLM:L=M
 ·subst hLM
  go_enter Tryz.func47,Tryz.ntmps47
  go_wp2_with fail
  go_loopw [5] (fun i wr=>∃ k:Nat,k≤L∧i=.int .i64 k∧Hid (∀ j,j<k→l[j]? = m[j]?)∧Below w.heap.size w wr) (fun i _=>L - (intOf i).toNat)
  case atStart=>exact⟨0,Nat.zero_le _,rfl,fun j hj=>by omega,Below.refl _ _⟩
  case round =>
   obtain⟨wo,hwo⟩:∃ wo,wo=wr:=⟨_,rfl⟩
   subst hwo
   obtain⟨k,hk,rfl,HS,hBr⟩:=hrel
   by_cases hlt:k<L
   ·have hkI:(k:Int) < (L:Int):=by omega
    obtain⟨x,hx⟩:=someL (l:=l) (k:=k) (by rw [← HL.out];exact hlt)
    obtain⟨y,hy⟩:=someL (l:=m) (k:=k) (by rw [← HM.out];exact hlt)
    have hbx:blk x≤blkL l:=sumN_mem (List.mem_map_of_mem (List.mem_of_getElem? hx))
    have HX:Hid (l[k]? = some x∧m[k]? = some y):=⟨hx,hy⟩
    obtain⟨g,off,ra1,rc1,ka1,kc1,sa1,sc1,rfl,hg,q6,qt⟩:=(H1.out.blw hBr).at hx
    obtain⟨g2,off2,ra2,rc2,ka2,kc2,sa2,sc2,rfl,hg2,p6,pt⟩:=(H2.out.blw hBr).at hy
    have HQ:Hid (Cs6 wo g (off+k*6) x ra1 rc1 ka1 kc1 sa1 sc1):=q6
    have HP:Hid (Cs6 wo g2 (off2+k*6) y ra2 rc2 ka2 kc2 sa2 sc2):=p6
    obtain⟨eb,heb⟩:=bool_of (x=y)
    have HEb:Hid (eb=true↔x=y):=heb
    have rC:Hid (∀ z:Cw wo,Calls Tryz.prog 14 #[.agg #[.int .i64 x.kind,.int .i64 x.n,.string x.name,.slice ra1 x.r.length rc1,.slice ka1 x.kids.length kc1,.slice sa1 x.sys.length sc1],.agg #[.int .i64 y.kind,.int .i64 y.n,.string y.name,.slice ra2 y.r.length rc2,.slice ka2 y.kids.length kc2,.slice sa2 y.sys.length sc2]] z.1 fun e w'=>e=.returned (.bool eb)∧∃ z':Cw wo,w'=z'.1):=fun z=>cw_call z (IH x y eb _ _ z.1 (qt.blw z.2).value (pt.blw z.2).value (by omega) (by omega) heb)
    clear hx hy q6 p6 heb
    have c0:∀ z:Cw wo,z.1.cell? ⟨g,off+k*6,none⟩=some (.int .i64 x.kind):=fun z=>(HQ.out.blw z.2).c0
    have c1:∀ z:Cw wo,z.1.cell? ⟨g,off+k*6+1,none⟩=some (.int .i64 x.n):=fun z=>(HQ.out.blw z.2).c1
    have c2:∀ z:Cw wo,z.1.cell? ⟨g,off+k*6+2,none⟩=some (.string x.name):=fun z=>(HQ.out.blw z.2).c2
    have c3:∀ z:Cw wo,z.1.cell? ⟨g,off+k*6+3,none⟩=some (.slice ra1 x.r.length rc1):=fun z=>(HQ.out.blw z.2).c3
    have c4:∀ z:Cw wo,z.1.cell? ⟨g,off+k*6+4,none⟩=some (.slice ka1 x.kids.length kc1):=fun z=>(HQ.out.blw z.2).c4
    have c5:∀ z:Cw wo,z.1.cell? ⟨g,off+k*6+5,none⟩=some (.slice sa1 x.sys.length sc1):=fun z=>(HQ.out.blw z.2).c5
    have d0:∀ z:Cw wo,z.1.cell? ⟨g2,off2+k*6,none⟩=some (.int .i64 y.kind):=fun z=>(HP.out.blw z.2).c0
    have d1:∀ z:Cw wo,z.1.cell? ⟨g2,off2+k*6+1,none⟩=some (.int .i64 y.n):=fun z=>(HP.out.blw z.2).c1
    have d2:∀ z:Cw wo,z.1.cell? ⟨g2,off2+k*6+2,none⟩=some (.string y.name):=fun z=>(HP.out.blw z.2).c2
    have d3:∀ z:Cw wo,z.1.cell? ⟨g2,off2+k*6+3,none⟩=some (.slice ra2 y.r.length rc2):=fun z=>(HP.out.blw z.2).c3
    have d4:∀ z:Cw wo,z.1.cell? ⟨g2,off2+k*6+4,none⟩=some (.slice ka2 y.kids.length kc2):=fun z=>(HP.out.blw z.2).c4
    have d5:∀ z:Cw wo,z.1.cell? ⟨g2,off2+k*6+5,none⟩=some (.slice sa2 y.sys.length sc2):=fun z=>(HP.out.blw z.2).c5
    clear qt pt
    have hne:=cw_any wo
    go_upto_region 6 with fail
    cases eb with
    | false =>
     refine wp_region_cw (by kernel_rfl) (by kernel_rfl) ?_
     repeat (first | go_big_quiet_step (fail) | quiet_step (fail))
     first | go_big_quiet_step (exact rC.out _) | quiet_step (exact rC.out _)
     repeat (first | go_big_quiet_step (fail) | quiet_step (fail))
     refine wpQuiet_nil ?_
     rintro _ ⟨z,rfl⟩
     obtain⟨w6,b6⟩:=z
     dsimp only
     clear rC hne c0 c1 c2 c3 c4 c5 d0 d1 d2 d3 d4 d5
     have HB:Hid (b=false):=HF.out (fun h=>by
      have e:=HX.out.1
      rw [h,HX.out.2] at e
      cases e
      have:=HEb.out.2 rfl
      cases this)
     go_wp2_with fail
     go_ret
     exact⟨ret_bool HB.out.symm,bchain hBr b6⟩
    | true =>
     refine wp_region_cw (by kernel_rfl) (by kernel_rfl) ?_
     repeat (first | go_big_quiet_step (fail) | quiet_step (fail))
     first | go_big_quiet_step (exact rC.out _) | quiet_step (exact rC.out _)
     repeat (first | go_big_quiet_step (fail) | quiet_step (fail))
     refine wpQuiet_nil ?_
     rintro _ ⟨z,rfl⟩
     obtain⟨w6,b6⟩:=z
     dsimp only
     clear rC hne c0 c1 c2 c3 c4 c5 d0 d1 d2 d3 d4 d5
     have HS':Hid (∀ j,j<k+1→l[j]? = m[j]?):=fun j hj=>by
      rcases Nat.lt_or_ge j k with h|h
      ·exact HS.out j h
      ·have ej:j=k:=by omega
       rw [ej,HX.out.1,HX.out.2,HEb.out.1 (by first | rfl | trivial)]
     clear HS HX HEb
     go_wp2_with fail
     go_roundw
     case rel=>exact⟨k+1,by omega,by go_num,HS',bchain hBr b6⟩
     case measure=>simp [intOf];omega
   ·have hkI:¬ (k:Int) < (L:Int):=by omega
    have HB:Hid (b=true):=HTr.out (by
     apply List.ext_getElem?
     intro j
     rcases Nat.lt_or_ge j k with h|h
     ·exact HS.out j h
     ·rw [List.getElem?_eq_none (by rw [← HL.out];omega),List.getElem?_eq_none (by rw [← HM.out];omega)])
    clear HS
    go_wp2_with fail
    go_ret
    exact⟨ret_bool HB.out.symm,hBr⟩
 ·have HB:Hid (b=false):=HF.out (fun h=>hLM (by rw [HL.out,HM.out,h]))
  have q1:¬ (L:Int)=(M:Int):=by omega
  have q2:((L:Int) == (M:Int))=false:=by simp;omega
  have q3:¬ L=M:=hLM
  go_enter Tryz.func47,Tryz.ntmps47
  go_wp2_with fail
  go_ret
  exact⟨ret_bool HB.out.symm,Below.refl _ _⟩
theorem rsame_step (N:Nat) (IH:RLsC N):RSmC (N+1):=by
 intro t u b v v' w hv hv' hN hbb hb
 rw [Tm.eq_iff] at hb
 have hbs:=blk_eq t
 have hlen:=blk_lens t
 obtain⟨ra,rc,ka,kc,sa,sc,rfl,ht⟩:=hv.form
 obtain⟨ra',rc',ka',kc',sa',sc',rfl,ht'⟩:=hv'.form
 obtain⟨W,hW,bW,c6,c6'⟩:=boxT2 w t u ra rc ka kc sa sc ra' rc' ka' kc' sa' sc'
 have HT:Hid (TmTop Tt W t ra rc ka kc sa sc):=ht.blw bW
 have HU:Hid (TmTop Tt W u ra' rc' ka' kc' sa' sc'):=ht'.blw bW
 have HC:Hid (Cs6 W w.heap.size 0 t ra rc ka kc sa sc):=c6
 have HC':Hid (Cs6 W (w.heap.size+1) 0 u ra' rc' ka' kc' sa' sc'):=c6'
 have HLk:Hid (blkL t.kids≤N∧blkL t.kids≤40000∧t.r.length≤40000):=⟨by omega,by omega,by omega⟩
 have HLs:Hid (∀ c∈t.sys,blkL c.2≤N∧blkL c.2≤40000∧c.1.length≤40000):=fun c hc=>by have:=blk_br hc;omega
 obtain⟨c1,hc1⟩:=bool_of (t.kind=u.kind∧t.n=u.n∧t.name=u.name∧t.r=u.r∧t.kids=u.kids∧t.sys.length=u.sys.length)
 have HF1:Hid (c1=false→b=false):=fun h=>Bool.eq_false_iff.2 fun h2=>by
  obtain⟨e1,e2,e3,e4,e5,e6⟩:=hb.1 h2
  have:=hc1.2 ⟨e1,e2,e3,e4,e5,by rw [e6]⟩
  rw [h] at this;cases this
 have HF2:Hid (¬ t.sys=u.sys→b=false):=fun h=>Bool.eq_false_iff.2 fun h2=>h (hb.1 h2).2.2.2.2.2
 have HTr:Hid (c1=true→t.sys=u.sys→b=true):=fun h h2=>hb.2 ⟨(hc1.1 h).1,(hc1.1 h).2.1,(hc1.1 h).2.2.1,(hc1.1 h).2.2.2.1,(hc1.1 h).2.2.2.2.1,h2⟩
 have HML:Hid (c1=true→t.sys.length=u.sys.length):=fun h=>(hc1.1 h).2.2.2.2.2
 have H1:Hid (_=_):=hW
 have HK:Hid (∀ b2:Bool,(b2=true↔t.kids=u.kids)→∀ w2,Below W.heap.size W w2→Calls Tryz.prog 47 #[.slice ka t.kids.length kc,.slice ka' u.kids.length kc'] w2 fun e w'=>e=.returned (.bool b2)∧Below w2.heap.size w2 w'):=fun b2 h2 w2 q=>IH _ _ b2 _ _ w2 (HT.out.blw q).kids (HU.out.blw q).kids HLk.out.1 HLk.out.2.1 h2
 have HRr:Hid (∀ w2,Below W.heap.size W w2→Calls Tryz.prog 18 #[.slice ra t.r.length rc,.slice ra' u.r.length rc'] w2 fun e w'=>e=.returned (.bool (decide (t.r=u.r)))∧Below w2.heap.size w2 w'):=fun w2 q=>same_any t.r u.r _ _ w2 (HT.out.blw q).row.row (HU.out.blw q).row.row (by have:=HLk.out.2.2;omega)
 obtain⟨_,y0,y1,y2,y3,y4,y5⟩:=c6
 obtain⟨_,z0,z1,z2,z3,z4,z5⟩:=c6'
 simp only [Nat.zero_add] at y1 y2 y3 y4 y5 z1 z2 z3 z4 z5
 obtain⟨a0,ha0⟩:∃ a,a=t.kind:=⟨_,rfl⟩
 obtain⟨b0,hb0⟩:∃ a,a=u.kind:=⟨_,rfl⟩
 obtain⟨a1,ha1⟩:∃ a,a=t.n:=⟨_,rfl⟩
 obtain⟨b1,hb1⟩:∃ a,a=u.n:=⟨_,rfl⟩
 obtain⟨a2,ha2⟩:∃ a,a=t.name:=⟨_,rfl⟩
 obtain⟨b2,hb2⟩:∃ a,a=u.name:=⟨_,rfl⟩
 obtain⟨M,hM⟩:∃ a,a=t.sys.length:=⟨_,rfl⟩
 obtain⟨M',hM'⟩:∃ a,a=u.sys.length:=⟨_,rfl⟩
 have HM:Hid (M=t.sys.length):=hM
 have HM':Hid (M'=u.sys.length):=hM'
 obtain⟨rb,hrb⟩:∃ r,r=decide (t.r=u.r):=⟨_,rfl⟩
 obtain⟨kb,hkb⟩:=bool_of (t.kids=u.kids)
 have cR0:=HRr.out
 have cK0:=HK.out kb hkb
 rw [← hrb] at cR0
 have HcR:Hid (_):=cR0
 have HcK:Hid (_):=cK0
 rw [← ha0,← hb0,← ha1,← hb1,← ha2,← hb2,← hM,← hM'] at hc1
 have hr2:(rb=true↔t.r=u.r):=by rw [hrb];simp
 rw [← hr2,← hkb] at hc1
 rw [← ha0] at y0
 rw [← hb0] at z0
 rw [← ha1] at y1
 rw [← hb1] at z1
 rw [← ha2] at y2
 rw [← hb2] at z2
 rw [← hM] at y5
 rw [← hM'] at z5
 rw [← hM] at hlen
 clear hW hv hv' ht ht' ha0 hb0 ha1 hb1 ha2 hb2 hM hM' hrb hkb cR0 cK0 hr2 hb hbs
 have hMb:M≤100000:=by omega
 clear hlen
 go_enter Tryz.func14,Tryz.ntmps14
 go_upto_region 1 with fail
 rw [← H1.out]
 clear H1
 go_cut [49] (fun s wx=>s=.bool (!c1)∧Below W.heap.size W wx)
 case first=>as_aux_lemma =>
  by_cases q0:a0=b0
  ·subst q0
   by_cases q1:a1=b1
   ·subst q1
    by_cases q2:a2=b2
    ·subst q2
     have cR:=HcR.out W (Below.refl _ _)
     cases rb with
     | false =>
      have e:c1=false:=by rw [Bool.eq_false_iff];intro h;have:=(hc1.1 h).2.2.2.1;cases this
      clear hc1
      go_wp2_with fail
      refine cR.mono ?_
      rintro e9 w2 ⟨rfl,b2⟩
      clear cR y0 y1 y2 y3 y4 y5 z0 z1 z2 z3 z4 z5
      go_wp2_with fail
      go_meet
      exact⟨by rw [e];rfl,b2⟩
     | true =>
      cases kb with
      | false =>
       have e:c1=false:=by rw [Bool.eq_false_iff];intro h;have:=(hc1.1 h).2.2.2.2.1;cases this
       clear hc1
       go_wp2_with fail
       refine cR.mono ?_
       rintro e9 w2 ⟨rfl,b2⟩
       clear cR
       clear y0 y1 y2 y3 y4 y5 z0 z1 z2 z3 z4 z5
       obtain⟨_,y0,y1,y2,y3,y4,y5⟩:=HC.out.blw (b2)
       obtain⟨_,z0,z1,z2,z3,z4,z5⟩:=HC'.out.blw (b2)
       simp only [Nat.zero_add] at y1 y2 y3 y4 y5 z1 z2 z3 z4 z5
       rw [← HM.out] at y5
       rw [← HM'.out] at z5
       have cK:=HcK.out w2 b2
       go_wp2_with fail
       refine cK.mono ?_
       rintro e9 w3 ⟨rfl,b3⟩
       clear cK y0 y1 y2 y3 y4 y5 z0 z1 z2 z3 z4 z5
       go_wp2_with fail
       go_meet
       exact⟨by rw [e];rfl,bchain b2 b3⟩
      | true =>
       by_cases q5:M=M'
       ·have e:c1=true:=hc1.2 ⟨rfl,rfl,rfl,rfl,rfl,q5⟩
        clear hc1
        go_wp2_with fail
        refine cR.mono ?_
        rintro e9 w2 ⟨rfl,b2⟩
        clear cR
        clear y0 y1 y2 y3 y4 y5 z0 z1 z2 z3 z4 z5
        obtain⟨_,y0,y1,y2,y3,y4,y5⟩:=HC.out.blw (b2)
        obtain⟨_,z0,z1,z2,z3,z4,z5⟩:=HC'.out.blw (b2)
        simp only [Nat.zero_add] at y1 y2 y3 y4 y5 z1 z2 z3 z4 z5
        rw [← HM.out] at y5
        rw [← HM'.out] at z5
        have cK:=HcK.out w2 b2
        go_wp2_with fail
        refine cK.mono ?_
        rintro e9 w3 ⟨rfl,b3⟩
        clear cK
        clear y0 y1 y2 y3 y4 y5 z0 z1 z2 z3 z4 z5
        obtain⟨_,y0,y1,y2,y3,y4,y5⟩:=HC.out.blw (bchain b2 b3)
        obtain⟨_,z0,z1,z2,z3,z4,z5⟩:=HC'.out.blw (bchain b2 b3)
        simp only [Nat.zero_add] at y1 y2 y3 y4 y5 z1 z2 z3 z4 z5
        rw [← HM.out] at y5
        rw [← HM'.out] at z5
        subst q5
        go_wp2_with fail
        go_meet
        exact⟨by rw [e];rfl,bchain b2 b3⟩
       ·have e:c1=false:=by rw [Bool.eq_false_iff];intro h;exact q5 (hc1.1 h).2.2.2.2.2
        have p1:((M:Int) == (M':Int))=false:=by simp;omega
        have p2:¬ (M:Int)=(M':Int):=by omega
        have p3:((M:Int) != (M':Int))=true:=by simp;omega
        clear hc1
        go_wp2_with fail
        refine cR.mono ?_
        rintro e9 w2 ⟨rfl,b2⟩
        clear cR
        clear y0 y1 y2 y3 y4 y5 z0 z1 z2 z3 z4 z5
        obtain⟨_,y0,y1,y2,y3,y4,y5⟩:=HC.out.blw (b2)
        obtain⟨_,z0,z1,z2,z3,z4,z5⟩:=HC'.out.blw (b2)
        simp only [Nat.zero_add] at y1 y2 y3 y4 y5 z1 z2 z3 z4 z5
        rw [← HM.out] at y5
        rw [← HM'.out] at z5
        have cK:=HcK.out w2 b2
        go_wp2_with fail
        refine cK.mono ?_
        rintro e9 w3 ⟨rfl,b3⟩
        clear cK
        clear y0 y1 y2 y3 y4 y5 z0 z1 z2 z3 z4 z5
        obtain⟨_,y0,y1,y2,y3,y4,y5⟩:=HC.out.blw (bchain b2 b3)
        obtain⟨_,z0,z1,z2,z3,z4,z5⟩:=HC'.out.blw (bchain b2 b3)
        simp only [Nat.zero_add] at y1 y2 y3 y4 y5 z1 z2 z3 z4 z5
        rw [← HM.out] at y5
        rw [← HM'.out] at z5
        go_wp2_with fail
        go_meet
        exact⟨by rw [e];rfl,bchain b2 b3⟩
    ·have e:c1=false:=by rw [Bool.eq_false_iff];intro h;exact q2 ((hc1.1 h).2.2.1)
     have p1:=strNe q2
     clear hc1
     go_wp2_with fail
     go_meet
     exact⟨by rw [e];rfl,Below.refl _ _⟩
   ·have e:c1=false:=by rw [Bool.eq_false_iff];intro h;exact q1 ((hc1.1 h).2.1)
    have p1:(a1 == b1)=false:=by simpa using q1
    have p2:(a1 != b1)=true:=by simpa using q1
    clear hc1
    go_wp2_with fail
    go_meet
    exact⟨by rw [e];rfl,Below.refl _ _⟩
  ·have e:c1=false:=by rw [Bool.eq_false_iff];intro h;exact q0 ((hc1.1 h).1)
   have p1:(a0 == b0)=false:=by simpa using q0
   have p2:(a0 != b0)=true:=by simpa using q0
   clear hc1
   go_wp2_with fail
   go_meet
   exact⟨by rw [e];rfl,Below.refl _ _⟩
 case rest =>
 obtain⟨rfl,hB2⟩:=hcut
 clear hc1 y0 y1 y2 y3 y4 y5 z0 z1 z2 z3 z4 z5
 obtain⟨w2,hw2e⟩:∃ w2,w2=wc:=⟨_,rfl⟩
 subst hw2e
 cases c1 with
 | false =>
  have HB:Hid (b=false):=HF1.out rfl
  go_wp2_with fail
  go_ret
  exact⟨ret_bool HB.out.symm,bchain bW hB2⟩
 | true =>
  have hMM:M=M':=by rw [HM.out,HM'.out];exact HML.out rfl
  subst hMM
  go_wp2_with fail
  go_loopw [5] (fun i wr=>∃ k:Nat,k≤M∧i=.int .i64 k∧Hid (∀ j,j<k→t.sys[j]? = u.sys[j]?)∧Below W.heap.size W wr) (fun i _=>M - (intOf i).toNat)
  case atStart=>exact⟨0,Nat.zero_le _,rfl,fun j hj=>by omega,hB2⟩
  case round =>
   obtain⟨wo,hwo⟩:∃ wo,wo=wr:=⟨_,rfl⟩
   subst hwo
   obtain⟨k,hk,rfl,HS,hBr⟩:=hrel
   obtain⟨_,y0,y1,y2,y3,y4,y5⟩:=HC.out.blw hBr
   simp only [Nat.zero_add] at y1 y2 y3 y4 y5
   rw [← HM.out] at y5
   by_cases hlt:k<M
   ·have hkI:(k:Int) < (M:Int):=by omega
    obtain⟨c,hc⟩:=someL (l:=t.sys) (k:=k) (by rw [← HM.out];exact hlt)
    obtain⟨d,hd⟩:=someL (l:=u.sys) (k:=k) (by rw [← HM'.out];exact hlt)
    have hcl:=HLs.out c (List.mem_of_getElem? hc)
    have HX:Hid (t.sys[k]? = some c∧u.sys[k]? = some d):=⟨hc,hd⟩
    obtain⟨g,off,fa,fc,ka1,kc1,rfl,hg,q2,qf,qk⟩:=(HT.out.blw hBr).sys.at hc
    obtain⟨g2,off2,fa2,fc2,ka2,kc2,rfl,hg2,p2,pf,pk⟩:=(HU.out.blw hBr).sys.at hd
    have HQ:Hid (Cs2 wo g (off+k*2) c fa fc ka1 kc1):=q2
    have HP:Hid (Cs2 wo g2 (off2+k*2) d fa2 fc2 ka2 kc2):=p2
    obtain⟨fb,hfb⟩:∃ x,x=decide (c.1=d.1):=⟨_,rfl⟩
    obtain⟨gb,hgb⟩:=bool_of (c.2=d.2)
    have HG:Hid ((fb=true↔c.1=d.1)∧(gb=true↔c.2=d.2)):=⟨by rw [hfb];simp,hgb⟩
    have rF:Hid (∀ z:Cw wo,Calls Tryz.prog 18 #[.slice fa c.1.length fc,.slice fa2 d.1.length fc2] z.1 fun e w'=>e=.returned (.bool fb)∧∃ z':Cw wo,w'=z'.1):=fun z=>cw_call z (by rw [hfb];exact same_any c.1 d.1 _ _ z.1 (qf.blw z.2).row (pf.blw z.2).row (by omega))
    have rK:Hid (∀ z:Cw wo,Calls Tryz.prog 47 #[.slice ka1 c.2.length kc1,.slice ka2 d.2.length kc2] z.1 fun e w'=>e=.returned (.bool gb)∧∃ z':Cw wo,w'=z'.1):=fun z=>cw_call z (IH c.2 d.2 gb _ _ z.1 (qk.blw z.2) (pk.blw z.2) hcl.1 hcl.2.1 hgb)
    have e0:∀ z:Cw wo,z.1.cell? ⟨g,off+k*2,none⟩=some (.slice fa c.1.length fc):=fun z=>(HQ.out.blw z.2).c0
    have e1:∀ z:Cw wo,z.1.cell? ⟨g,off+k*2+1,none⟩=some (.slice ka1 c.2.length kc1):=fun z=>(HQ.out.blw z.2).c1
    have f0:∀ z:Cw wo,z.1.cell? ⟨g2,off2+k*2,none⟩=some (.slice fa2 d.1.length fc2):=fun z=>(HP.out.blw z.2).c0
    have f1:∀ z:Cw wo,z.1.cell? ⟨g2,off2+k*2+1,none⟩=some (.slice ka2 d.2.length kc2):=fun z=>(HP.out.blw z.2).c1
    have y5a:∀ z:Cw wo,z.1.cell? ⟨w.heap.size,5,none⟩=some (.slice (some ⟨g,off,none⟩) M sc):=fun z=>by have:=(HC.out.blw (bchain hBr z.2)).c5;rw [← HM.out] at this;simpa only [Nat.zero_add] using this
    have z5a:∀ z:Cw wo,z.1.cell? ⟨w.heap.size+1,5,none⟩=some (.slice (some ⟨g2,off2,none⟩) M sc'):=fun z=>by have:=(HC'.out.blw (bchain hBr z.2)).c5;rw [← HM'.out] at this;simpa only [Nat.zero_add] using this
    clear hc hd q2 p2 qf qk pf pk hfb hgb hcl
    have hne:=cw_any wo
    go_upto_region 6 with fail
    clear y0 y1 y2 y3 y4 y5
    cases fb with
    | false =>
     refine wp_region_cw (by kernel_rfl) (by kernel_rfl) ?_
     repeat (first | go_big_quiet_step (fail) | quiet_step (fail))
     first | go_big_quiet_step (exact rF.out _) | quiet_step (exact rF.out _)
     repeat (first | go_big_quiet_step (fail) | quiet_step (fail))
     refine wpQuiet_nil ?_
     rintro _ ⟨z,rfl⟩
     obtain⟨w6,b6⟩:=z
     dsimp only
     clear rF rK hne e0 e1 f0 f1 y5a z5a
     have HB:Hid (b=false):=HF2.out (fun h=>by
      have e:=HX.out.1
      rw [h,HX.out.2] at e
      cases e
      have:=HG.out.1.2 rfl
      cases this)
     go_wp2_with fail
     go_ret
     exact⟨ret_bool HB.out.symm,bchain bW (bchain hBr b6)⟩
    | true =>
     cases gb with
     | false =>
      refine wp_region_cw (by kernel_rfl) (by kernel_rfl) ?_
      repeat (first | go_big_quiet_step (fail) | quiet_step (fail))
      first | go_big_quiet_step (exact rF.out _) | quiet_step (exact rF.out _)
      repeat (first | go_big_quiet_step (fail) | quiet_step (fail))
      first | go_big_quiet_step (exact rK.out _) | quiet_step (exact rK.out _)
      repeat (first | go_big_quiet_step (fail) | quiet_step (fail))
      refine wpQuiet_nil ?_
      rintro _ ⟨z,rfl⟩
      obtain⟨w6,b6⟩:=z
      dsimp only
      clear rF rK hne e0 e1 f0 f1 y5a z5a
      have HB:Hid (b=false):=HF2.out (fun h=>by
       have e:=HX.out.1
       rw [h,HX.out.2] at e
       cases e
       have:=HG.out.2.2 rfl
       cases this)
      go_wp2_with fail
      go_ret
      exact⟨ret_bool HB.out.symm,bchain bW (bchain hBr b6)⟩
     | true =>
      refine wp_region_cw (by kernel_rfl) (by kernel_rfl) ?_
      repeat (first | go_big_quiet_step (fail) | quiet_step (fail))
      first | go_big_quiet_step (exact rF.out _) | quiet_step (exact rF.out _)
      repeat (first | go_big_quiet_step (fail) | quiet_step (fail))
      first | go_big_quiet_step (exact rK.out _) | quiet_step (exact rK.out _)
      repeat (first | go_big_quiet_step (fail) | quiet_step (fail))
      refine wpQuiet_nil ?_
      rintro _ ⟨z,rfl⟩
      obtain⟨w6,b6⟩:=z
      dsimp only
      clear rF rK hne e0 e1 f0 f1 y5a z5a
      have HS':Hid (∀ j,j<k+1→t.sys[j]? = u.sys[j]?):=fun j hj=>by
       rcases Nat.lt_or_ge j k with h|h
       ·exact HS.out j h
       ·have ej:j=k:=by omega
        rw [ej,HX.out.1,HX.out.2]
        exact congrArg some (Prod.ext (HG.out.1.1 (by first | rfl | trivial)) (HG.out.2.1 (by first | rfl | trivial)))
      clear HS HX HG
      go_wp2_with fail
      go_roundw
      case rel=>exact⟨k+1,by omega,by go_num,HS',bchain hBr b6⟩
      case measure=>simp [intOf];omega
   ·have hkI:¬ (k:Int) < (M:Int):=by omega
    have HB:Hid (b=true):=HTr.out (by first | rfl | trivial) (by
     apply List.ext_getElem?
     intro j
     rcases Nat.lt_or_ge j k with h|h
     ·exact HS.out j h
     ·rw [List.getElem?_eq_none (by rw [← HM.out];omega),List.getElem?_eq_none (by rw [← HM'.out];omega)])
    clear HS
    go_wp2_with fail
    go_ret
    exact⟨ret_bool HB.out.symm,bchain bW hBr⟩
theorem rsame_any (N:Nat):RSmC N:=by
 induction N with
 | zero=>intro t u b v v' w _ _ hb;have:=blk_pos t;omega
 | succ N ih=>exact rsame_step N (rlists_of N ih)
theorem line_end2 {t:Tm} {a1 a2:Nat} (hw:okT true 0 0 t a1 a2=true) (hne:neT t) (h1:dimsE 1 2 t=0) (h2:takE 0 [e2 0 1] (dimsT 1 2 t)=0) {b1 b2:Nat} (hok:okT true 0 0 (lineT [e2 0 1] t) b1 b2=true):dT (dropOp 0) (dT (putOp 0 [top0]) (lineT [e2 0 1] t) 1) 1=t:=by
 obtain⟨g1,g2⟩:=dims_ok h1
 have hl:(liftFF [e2 0 1] 0 1).2=0∧(liftFF [e2 0 1] 0 1).1=[e2 1 2]:=by decide +kernel
 have key:lineT [e2 0 1] t=dT (dropOp 0) (dT (putOp 0 [e2 1 2]) (liT s2 t 0 0) 0) 0∧eT (putOp 0 [e2 1 2]) (liT s2 t 0 0) 0=0:=by
  rw [g2] at h2
  unfold lineT
  rw [g2]
  unfold takE at h2
  unfold takT
  split at h2
  ·rename_i hd
   rw [if_pos hd]
   split at h2
   ·rename_i hf
    rw [if_pos hf]
    rw [hl.2] at h2 ⊢
    split at h2
    ·rename_i hp
     rw [if_pos hp]
     refine⟨?_,hp⟩
     unfold ansD
     rw [if_pos hp,if_pos (e_drop _)]
    ·exact absurd h2 ‹_›
   ·exact absurd h2 ‹_›
  ·exact absurd h2 ‹_›
 rw [key.1] at hok ⊢
 exact chain_T _ t 0 0 a1 a2 b1 b2 (Nat.le_refl _) hw hne g1 key.2 hok
theorem both_end0 {t:Tm} (hne:neT t) (h:bothE 0 1 t=0):dT (dropOp 0) (dT (putOp 0 []) (bothT 0 1 t) 0) 0=t:=by
 obtain⟨h1,h2⟩:=both_ok h
 rw [h2]
 have hhs:hsT (liT (sd (0:Int)) t 0 0) 0=false:=hs_sd (p:=0) (by omega) (by omega) _ t 0 0 (Nat.le_refl _)
 have hn:neT (liT (sd (0:Int)) t 0 0):=ne_li (i:=0) (by decide) _ t 0 0 (Nat.le_refl _) hne h1
 have d1:dT (putOp 0 []) (liT (sd (0:Int)) t 0 0) 0=liT (sd (0:Int)) t 0 0:=d_same (s:=⟨0,[],top0⟩) _ (liT (sd (0:Int)) t 0 0) 0 (Nat.le_refl _) hn hhs
 rw [d1]
 exact drop_li (i:=0) (by decide) _ t 0 0 (Nat.le_refl _) hne h1
theorem face_put {phi:List C} (hA:rightA phi=true) (h:(liftFF phi 0 1).2=0) (r:List C):(putRow ptA 0 r (liftFF phi 0 1).1 0).1=(liftFF phi 0 1).1:=by
 obtain⟨_,hf⟩:=lift0 hA h
 have e:putRow ptA ((0:Nat):Int) r (liftFF phi 0 1).1 0=((liftFF phi 0 1).1,0):=put_no (PF:=ptA) (i:=0) (bd:=0) (fun _=>by
  unfold inF
  rw [Bool.eq_false_iff]
  intro q
  obtain⟨c,hc,hb⟩:=List.any_eq_true.1 q
  obtain⟨h1,h2⟩:=hf c hc
  rw [show (0+0:Nat)=0 from rfl,h1,h2] at hb
  cases hb)
 show (putRow ptA ((0:Nat):Int) r (liftFF phi 0 1).1 0).1=_
 rw [e]
theorem face_ne {phi:List C} (h:(liftFF phi 0 1).2=0) (hn:phi≠[]):(liftFF phi 0 1).1≠[]:=by
 have e:(liftFF phi ((0:Nat):Int) 1).1.map (drC ((0:Nat):Int))=phi:=drop_row (j:=0) h
 intro q
 rw [show ((0:Nat):Int)=0 from rfl,q] at e
 exact hn e.symm
theorem flG_zero:∀ (l:List (List C × List Tm)) (f:Int),flG f l=0→f=0∧∀ b∈l,(liftFF b.1 0 1).2=0∧dimsE 1 2 (b.2.headD noT)=0∧takE 0 [e2 0 1] (dimsT 1 2 (b.2.headD noT))=0
 | [],f,h=>⟨h,fun b hb=>by cases hb⟩
 | b :: l,f,h=>by
  obtain⟨h1,h2⟩:=flG_zero l (lineE (fstE f (liftFF b.1 0 1).2) [e2 0 1] (b.2.headD noT)) h
  unfold lineE at h1
  obtain⟨h1,h3⟩:=fstE_zero.1 h1
  obtain⟨h1,h4⟩:=fstE_zero.1 h1
  obtain⟨h1,h5⟩:=fstE_zero.1 h1
  refine⟨h1,fun c hc=>?_⟩
  rcases List.mem_cons.1 hc with rfl|hc
  ·exact⟨h5,h4,h3⟩
  ·exact h2 c hc
theorem fill_ok {t a:Tm} {sys:List (List C × List Tm)} (h:fillE t a sys=0):okT true 0 0 (hcT sys) 0 0=true∧bothE 0 1 t=0∧bothE 0 1 a=0∧(∀ b∈sys,(liftFF b.1 0 1).2=0∧dimsE 1 2 (b.2.headD noT)=0∧takE 0 [e2 0 1] (dimsT 1 2 (b.2.headD noT))=0)∧(∀ b∈sys,∃ u,b.2=[u])∧wrongN true 0 0 (flT t a sys)=0∧fillT t a sys=flT t a sys:=by
 unfold fillE at h
 unfold fillT
 by_cases hw:wrE [t,a,hcT sys]=0
 ·rw [if_pos hw] at h ⊢
  have hd:doneT (flF t a sys) (flT t a sys)=flT t a sys:=by unfold doneT;rw [if_pos h]
  unfold doneE at h
  obtain⟨h1,h2⟩:=fstE_zero.1 h
  unfold flF at h1
  obtain⟨h1,_⟩:=fstE_zero.1 h1
  obtain⟨h1,h3⟩:=flG_zero _ _ h1
  obtain⟨h1,h4⟩:=fstE_zero.1 h1
  obtain⟨_,h5⟩:=fstE_zero.1 h1
  have hw2:=firstE_zero.1 (show firstE ([t,a,hcT sys].map wrN)=0 from hw)
  have w3:=hw2 (wrN (hcT sys)) (by simp)
  unfold wrN at w3
  exact⟨wr_ok (by omega),h5,h4,h3,one_kid hw,by omega,hd⟩
 ·rw [if_neg hw] at h;exact absurd h hw
theorem dK15 (o:DOp) (x y:Tm) (bd:Nat):dK o 15 [x,y] bd=[dT o x bd,dT o y bd]:=by
 simp [dK,bdK]
theorem dT15 (o:DOp) (x y:Tm) (l:List (List C × List Tm)) (bd:Nat):(dT o (.mk 15 0 ⟨#[]⟩ [] [x,y] l) bd).kids=[dT o x bd,dT o y bd]∧dT o (.mk 15 0 ⟨#[]⟩ [] [x,y] l) bd=.mk 15 0 ⟨#[]⟩ (o.fn [] bd).1 [dT o x bd,dT o y bd] (dS o 15 l bd):=by
 have e:dT o (.mk 15 0 ⟨#[]⟩ [] [x,y] l) bd=.mk 15 0 ⟨#[]⟩ (o.fn [] bd).1 [dT o x bd,dT o y bd] (dS o 15 l bd):=by
  rw [d_eq]
  dsimp only
  rw [dK15]
  rfl
 exact⟨by rw [e],e⟩
theorem put_none {r:List C} {bd:Nat}:((putOp 0 r).fn [] bd).1=[]:=by
 have:putRow putF ((0:Nat):Int) r [] bd=([],0):=put_no (PF:=putF) (i:=0) (bd:=bd) (fun _=>rfl)
 exact congrArg Prod.fst this
theorem dS_app (o:DOp) (k:Int) (l m:List (List C × List Tm)) (bd:Nat):dS o k (l++m) bd=dS o k l bd++dS o k m bd:=by
 unfold dS;rw [List.filter_append,List.map_append]
theorem fl_sys1 {a:Tm} {sys:List (List C × List Tm)} (h1:∀ b∈sys,rightA b.1=true∧b.1≠[]∧(liftFF b.1 0 1).2=0) (h2:∀ b∈sys,∃ u,b.2=[u]∧dT (dropOp 0) (dT (putOp 0 [top0]) (lineT [e2 0 1] u) 1) 1=u):dS (dropOp 0) 15 (dS (putOp 0 [top0]) 15 (flS a sys) 0) 0=sys:=by
 have e1:dS (putOp 0 [top0]) 15 (flS a sys) 0=sys.map fun b=>((liftFF b.1 0 1).1,b.2.map fun u=>dT (putOp 0 [top0]) (lineT [e2 0 1] u) 1):=by
  unfold flS
  rw [dS_app]
  have z:dS (putOp 0 [top0]) 15 [([negB 0],[bothT 0 2 a])] 0=[]:=by
   have q:((putOp 0 [top0]).fc [negB 0] 0).1=[]:=by decide +kernel
   unfold dS stayB
   simp [q]
  rw [z,List.append_nil]
  have fcb:∀ b∈sys,((putOp 0 [top0]).fc (flB b).1 0).1=(liftFF b.1 0 1).1:=fun b hb=>face_put (h1 b hb).1 (h1 b hb).2.2 [top0]
  rw [dS_all (fun c hc=>by
   obtain⟨b,hb,rfl⟩:=List.mem_map.1 hc
   rw [fcb b hb]
   exact face_ne (h1 b hb).2.2 (h1 b hb).2.1),List.map_map]
  refine List.map_congr_left fun b hb=>?_
  show dB (putOp 0 [top0]) 15 (flB b) 0=_
  unfold dB
  rw [fcb b hb]
  unfold flB
  rw [List.map_map]
  rfl
 rw [e1]
 have fcb:∀ b∈sys,((dropOp 0).fc (liftFF b.1 0 1).1 0).1=b.1:=fun b hb=>drop_row (j:=0) (h1 b hb).2.2
 rw [dS_all (fun c hc=>by
  obtain⟨b,hb,rfl⟩:=List.mem_map.1 hc
  rw [fcb b hb]
  exact (h1 b hb).2.1),List.map_map]
 conv=>rhs;rw [← List.map_id sys]
 refine List.map_congr_left fun b hb=>?_
 obtain⟨u,hu,he⟩:=h2 b hb
 show dB (dropOp 0) 15 ((liftFF b.1 0 1).1,b.2.map fun u=>dT (putOp 0 [top0]) (lineT [e2 0 1] u) 1) 0=b
 unfold dB
 rw [fcb b hb,hu]
 refine Prod.ext rfl ?_
 show [dT (dropOp 0) (dT (putOp 0 [top0]) (lineT [e2 0 1] u) 1) 1]=b.2
 rw [he,hu]
theorem fl_sys0 {a:Tm} {sys:List (List C × List Tm)}:∃ b∈dS (dropOp 0) 15 (dS (putOp 0 []) 15 (flS a sys) 0) 0,b.1=[top0]:=by
 have q1:((putOp 0 []).fc [negB 0] 0).1=[top0]:=by decide +kernel
 have q2:((dropOp 0).fc [top0] 0).1=[top0]:=by decide +kernel
 unfold flS
 rw [dS_app,dS_app]
 refine⟨([top0],[dT (dropOp 0) (dT (putOp 0 []) (bothT 0 2 a) (0+moreK 15)) (0+moreK 15)]),List.mem_append_right _ ?_,rfl⟩
 have e1:dS (putOp 0 []) 15 [([negB 0],[bothT 0 2 a])] 0=[([top0],[dT (putOp 0 []) (bothT 0 2 a) (0+moreK 15)])]:=by
  rw [dS_all (by simp [q1])]
  simp [dB,q1]
 have e2':dS (dropOp 0) 15 [([top0],[dT (putOp 0 []) (bothT 0 2 a) (0+moreK 15)])] 0=[([top0],[dT (dropOp 0) (dT (putOp 0 []) (bothT 0 2 a) (0+moreK 15)) (0+moreK 15)])]:=by
  rw [dS_all (by simp [q2])]
  simp [dB,q2]
 rw [e1,e2']
 exact List.mem_singleton.2 rfl
theorem ends_fill {t a:Tm} {sys:List (List C × List Tm)} (h:fillE t a sys=0) (n1:neT t) (n2:neT a) (n3:neT (hcT sys)) :
  takE 0 [top0] (fillT t a sys)=0∧takT 0 [top0] (fillT t a sys)=.mk 15 0 ⟨#[]⟩ [] [t,a] sys∧takE 0 [] (fillT t a sys)=0∧(∃ x,(takT 0 [] (fillT t a sys)).kids=[x,a])∧0≤totF ((takT 0 [] (fillT t a sys)).sys.map Prod.fst):=by
 obtain⟨w3,e1,e2',e3,e4,e5,hT⟩:=fill_ok h
 rw [hT]
 obtain⟨t1,t2⟩:=take_ok e5 (r:=[top0]) (.inl rfl)
 obtain⟨t3,t4⟩:=take_ok e5 (r:=[]) (.inr rfl)
 have hok:=wr_ok e5
 rw [ne_eq] at n3
 have hn:=n3.2
 refine⟨t1,?_,t3,?_,?_⟩
 ·rw [t2]
  unfold flT
  rw [(dT15 _ _ _ _ _).2,put_none,(dT15 _ _ _ _ _).2]
  have r2:dT (dropOp 0) (dT (putOp 0 [top0]) (bothT 0 1 t) 0) 0=t:=both_end n1 e1
  have r3:dT (dropOp 0) (dT (putOp 0 [top0]) (bothT 0 1 a) 0) 0=a:=both_end n2 e2'
  have r4:dS (dropOp 0) 15 (dS (putOp 0 [top0]) 15 (flS a sys) 0) 0=sys:=fl_sys1 (fun b hb=>⟨ok_face w3 hb,(hn b hb).1,(e3 b hb).1⟩) fun b hb=>by
   obtain⟨u,hu⟩:=e4 b hb
   obtain⟨_,g2,g3⟩:=e3 b hb
   rw [hu] at g2 g3
   have k1:=ok_sub (x:=u) w3 hb (by rw [hu];simp)
   have k2:okT true 0 0 (lineT [e2 0 1] u) 0 (0+moreK 15)=true:=ok_sub (t:=flT t a sys) (b:=flB b) hok (List.mem_append_left _ (List.mem_map_of_mem hb)) (by unfold flB;rw [hu];simp)
   exact⟨u,hu,line_end2 k1 ((hn b hb).2 u (by rw [hu];simp)) g2 g3 k2⟩
  rw [r2,r3,r4]
  rfl
 ·rw [t4]
  unfold flT
  rw [(dT15 _ _ _ _ _).2,put_none,(dT15 _ _ _ _ _).1]
  have r3:dT (dropOp 0) (dT (putOp 0 []) (bothT 0 1 a) 0) 0=a:=both_end0 n2 e2'
  exact⟨_,by rw [r3]⟩
 ·rw [t4,totF_ge]
  unfold flT
  rw [(dT15 _ _ _ _ _).2,put_none,(dT15 _ _ _ _ _).2]
  obtain⟨b,hb,e⟩:=fl_sys0 (a:=a) (sys:=sys)
  rw [← e]
  exact List.mem_map_of_mem (f:=Prod.fst) hb
end Go.Proofs.YtmblbmdchinflaaGreat
