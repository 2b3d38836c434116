/- A part of the proof. -/
import Derived.Test.YtblbhmnahoiecaaGreatHG18
set_option linter.unusedVariables false
set_option linter.unusedSimpArgs false
set_option maxRecDepth 100000
set_option maxHeartbeats 8000000
namespace Go.Proofs.YtblbhmnahoiecaaGreat
open Go.RowKit
theorem rsame_step (N:Nat) (IH:RLsC N):RSmC (N+1):=by
 intro t u b v v' w hv hv' hN hbb hb
 rw [Tm.eq_iff] at hb
 have hbs:=blk_eq t
 have hlen:=blk_lens t
 obtain⟨ra,rc,ka,kc,sa,sc,rfl,ht⟩:=hv.form
 obtain⟨ra',rc',ka',kc',sa',sc',rfl,ht'⟩:=hv'.form
 obtain⟨W,hW,bW,c6,c6'⟩:=boxT2 w t u ra rc ka kc sa sc ra' rc' ka' kc' sa' sc'
 have HT:Hid (TmTop Tt W t ra rc ka kc sa sc):=ht.blw bW
 have HU:Hid (TmTop Tt W u ra' rc' ka' kc' sa' sc'):=ht'.blw bW
 have HC:Hid (Cs6 W w.heap.size 0 t ra rc ka kc sa sc):=c6
 have HC':Hid (Cs6 W (w.heap.size+1) 0 u ra' rc' ka' kc' sa' sc'):=c6'
 have HLk:Hid (blkL t.kids<=N/\blkL t.kids<=40000/\t.r.length<=40000):=⟨by omega,by omega,by omega⟩
 have HLs:Hid (∀ c∈t.sys,blkL c.2<=N/\blkL c.2<=40000/\c.1.length<=40000):=fun c hc=>by have:=blk_br hc;omega
 obtain⟨c1,hc1⟩:=bool_of (t.kind=u.kind/\t.n=u.n/\t.name=u.name/\t.r=u.r/\t.kids=u.kids/\t.sys.length=u.sys.length)
 have HF1:Hid (c1=false->b=false):=fun h=>Bool.eq_false_iff.2 fun h2=>by
  obtain⟨e1,e2,e3,e4,e5,e6⟩:=hb.1 h2
  have:=hc1.2 ⟨e1,e2,e3,e4,e5,by rw [e6]⟩
  rw [h] at this;cases this
 have HF2:Hid (¬ t.sys=u.sys->b=false):=fun h=>Bool.eq_false_iff.2 fun h2=>h (hb.1 h2).2.2.2.2.2
 have HTr:Hid (c1=true->t.sys=u.sys->b=true):=fun h h2=>hb.2 ⟨(hc1.1 h).1,(hc1.1 h).2.1,(hc1.1 h).2.2.1,(hc1.1 h).2.2.2.1,(hc1.1 h).2.2.2.2.1,h2⟩
 have HML:Hid (c1=true->t.sys.length=u.sys.length):=fun h=>(hc1.1 h).2.2.2.2.2
 have H1:Hid (_=_):=hW
 have HK:Hid (∀ b2:Bool,(b2=true↔t.kids=u.kids)->∀ w2,Below W.heap.size W w2->Calls Tryz.prog 48 #[.slice ka t.kids.length kc,.slice ka' u.kids.length kc'] w2 fun e w'=>e=.returned (.bool b2)/\Below w2.heap.size w2 w'):=fun b2 h2 w2 q=>IH _ _ b2 _ _ w2 (HT.out.blw q).kids (HU.out.blw q).kids HLk.out.1 HLk.out.2.1 h2
 have HRr:Hid (∀ w2,Below W.heap.size W w2->Calls Tryz.prog 38 #[.slice ra t.r.length rc,.slice ra' u.r.length rc'] w2 fun e w'=>e=.returned (.bool (decide (t.r=u.r)))/\Below w2.heap.size w2 w'):=fun w2 q=>same_any t.r u.r _ _ w2 (HT.out.blw q).row.row (HU.out.blw q).row.row (by have:=HLk.out.2.2;omega)
 obtain⟨_,y0,y1,y2,y3,y4,y5⟩:=c6
 obtain⟨_,z0,z1,z2,z3,z4,z5⟩:=c6'
 simp only [Nat.zero_add] at y1 y2 y3 y4 y5 z1 z2 z3 z4 z5
 obtain⟨a0,ha0⟩:∃ a,a=t.kind:=⟨_,rfl⟩
 obtain⟨b0,hb0⟩:∃ a,a=u.kind:=⟨_,rfl⟩
 obtain⟨a1,ha1⟩:∃ a,a=t.n:=⟨_,rfl⟩
 obtain⟨b1,hb1⟩:∃ a,a=u.n:=⟨_,rfl⟩
 obtain⟨a2,ha2⟩:∃ a,a=t.name:=⟨_,rfl⟩
 obtain⟨b2,hb2⟩:∃ a,a=u.name:=⟨_,rfl⟩
 obtain⟨M,hM⟩:∃ a,a=t.sys.length:=⟨_,rfl⟩
 obtain⟨M',hM'⟩:∃ a,a=u.sys.length:=⟨_,rfl⟩
 have HM:Hid (M=t.sys.length):=hM
 have HM':Hid (M'=u.sys.length):=hM'
 obtain⟨rb,hrb⟩:∃ r,r=decide (t.r=u.r):=⟨_,rfl⟩
 obtain⟨kb,hkb⟩:=bool_of (t.kids=u.kids)
 have cR0:=HRr.out
 have cK0:=HK.out kb hkb
 rw [<- hrb] at cR0
 have HcR:Hid (_):=cR0
 have HcK:Hid (_):=cK0
 rw [<- ha0,<- hb0,<- ha1,<- hb1,<- ha2,<- hb2,<- hM,<- hM'] at hc1
 have hr2:(rb=true↔t.r=u.r):=by rw [hrb];simp
 rw [<- hr2,<- hkb] at hc1
 rw [<- ha0] at y0
 rw [<- hb0] at z0
 rw [<- ha1] at y1
 rw [<- hb1] at z1
 rw [<- ha2] at y2
 rw [<- hb2] at z2
 rw [<- hM] at y5
 rw [<- hM'] at z5
 rw [<- hM] at hlen
 clear hW hv hv' ht ht' ha0 hb0 ha1 hb1 ha2 hb2 hM hM' hrb hkb cR0 cK0 hr2 hb hbs
 have hMb:M<=100000:=by omega
 clear hlen
 go_enter Tryz.func14,Tryz.ntmps14
 go_upto_region 1 with fail
 rw [<- H1.out]
 clear H1
 go_cut [49] (fun s wx=>s=.bool (!c1)/\Below W.heap.size W wx)
 case first=>as_aux_lemma =>
  by_cases q0:a0=b0
  ·subst q0
   by_cases q1:a1=b1
   ·subst q1
    by_cases q2:a2=b2
    ·subst q2
     have cR:=HcR.out W (Below.refl _ _)
     cases rb with
     | false =>
      have e:c1=false:=by rw [Bool.eq_false_iff];intro h;have:=(hc1.1 h).2.2.2.1;cases this
      clear hc1
      go_wp2_with fail
      refine cR.mono ?_
      rintro e9 w2 ⟨rfl,b2⟩
      clear cR y0 y1 y2 y3 y4 y5 z0 z1 z2 z3 z4 z5
      go_wp2_with fail
      go_meet
      exact⟨by rw [e];rfl,b2⟩
     | true =>
      cases kb with
      | false =>
       have e:c1=false:=by rw [Bool.eq_false_iff];intro h;have:=(hc1.1 h).2.2.2.2.1;cases this
       clear hc1
       go_wp2_with fail
       refine cR.mono ?_
       rintro e9 w2 ⟨rfl,b2⟩
       clear cR
       clear y0 y1 y2 y3 y4 y5 z0 z1 z2 z3 z4 z5
       obtain⟨_,y0,y1,y2,y3,y4,y5⟩:=HC.out.blw (b2)
       obtain⟨_,z0,z1,z2,z3,z4,z5⟩:=HC'.out.blw (b2)
       simp only [Nat.zero_add] at y1 y2 y3 y4 y5 z1 z2 z3 z4 z5
       rw [<- HM.out] at y5
       rw [<- HM'.out] at z5
       have cK:=HcK.out w2 b2
       go_wp2_with fail
       refine cK.mono ?_
       rintro e9 w3 ⟨rfl,b3⟩
       clear cK y0 y1 y2 y3 y4 y5 z0 z1 z2 z3 z4 z5
       go_wp2_with fail
       go_meet
       exact⟨by rw [e];rfl,bchain b2 b3⟩
      | true =>
       by_cases q5:M=M'
       ·have e:c1=true:=hc1.2 ⟨rfl,rfl,rfl,rfl,rfl,q5⟩
        clear hc1
        go_wp2_with fail
        refine cR.mono ?_
        rintro e9 w2 ⟨rfl,b2⟩
        clear cR
        clear y0 y1 y2 y3 y4 y5 z0 z1 z2 z3 z4 z5
        obtain⟨_,y0,y1,y2,y3,y4,y5⟩:=HC.out.blw (b2)
        obtain⟨_,z0,z1,z2,z3,z4,z5⟩:=HC'.out.blw (b2)
        simp only [Nat.zero_add] at y1 y2 y3 y4 y5 z1 z2 z3 z4 z5
        rw [<- HM.out] at y5
        rw [<- HM'.out] at z5
        have cK:=HcK.out w2 b2
        go_wp2_with fail
        refine cK.mono ?_
        rintro e9 w3 ⟨rfl,b3⟩
        clear cK
        clear y0 y1 y2 y3 y4 y5 z0 z1 z2 z3 z4 z5
        obtain⟨_,y0,y1,y2,y3,y4,y5⟩:=HC.out.blw (bchain b2 b3)
        obtain⟨_,z0,z1,z2,z3,z4,z5⟩:=HC'.out.blw (bchain b2 b3)
        simp only [Nat.zero_add] at y1 y2 y3 y4 y5 z1 z2 z3 z4 z5
        rw [<- HM.out] at y5
        rw [<- HM'.out] at z5
        subst q5
        go_wp2_with fail
        go_meet
        exact⟨by rw [e];rfl,bchain b2 b3⟩
       ·have e:c1=false:=by rw [Bool.eq_false_iff];intro h;exact q5 (hc1.1 h).2.2.2.2.2
        have p1:((M:Int) == (M':Int))=false:=by simp;omega
        have p2:¬ (M:Int)=(M':Int):=by omega
        have p3:((M:Int) != (M':Int))=true:=by simp;omega
        clear hc1
        go_wp2_with fail
        refine cR.mono ?_
        rintro e9 w2 ⟨rfl,b2⟩
        clear cR
        clear y0 y1 y2 y3 y4 y5 z0 z1 z2 z3 z4 z5
        obtain⟨_,y0,y1,y2,y3,y4,y5⟩:=HC.out.blw (b2)
        obtain⟨_,z0,z1,z2,z3,z4,z5⟩:=HC'.out.blw (b2)
        simp only [Nat.zero_add] at y1 y2 y3 y4 y5 z1 z2 z3 z4 z5
        rw [<- HM.out] at y5
        rw [<- HM'.out] at z5
        have cK:=HcK.out w2 b2
        go_wp2_with fail
        refine cK.mono ?_
        rintro e9 w3 ⟨rfl,b3⟩
        clear cK
        clear y0 y1 y2 y3 y4 y5 z0 z1 z2 z3 z4 z5
        obtain⟨_,y0,y1,y2,y3,y4,y5⟩:=HC.out.blw (bchain b2 b3)
        obtain⟨_,z0,z1,z2,z3,z4,z5⟩:=HC'.out.blw (bchain b2 b3)
        simp only [Nat.zero_add] at y1 y2 y3 y4 y5 z1 z2 z3 z4 z5
        rw [<- HM.out] at y5
        rw [<- HM'.out] at z5
        go_wp2_with fail
        go_meet
        exact⟨by rw [e];rfl,bchain b2 b3⟩
    ·have e:c1=false:=by rw [Bool.eq_false_iff];intro h;exact q2 ((hc1.1 h).2.2.1)
     have p1:=strNe q2
     clear hc1
     go_wp2_with fail
     go_meet
     exact⟨by rw [e];rfl,Below.refl _ _⟩
   ·have e:c1=false:=by rw [Bool.eq_false_iff];intro h;exact q1 ((hc1.1 h).2.1)
    have p1:(a1 == b1)=false:=by simpa using q1
    have p2:(a1 != b1)=true:=by simpa using q1
    clear hc1
    go_wp2_with fail
    go_meet
    exact⟨by rw [e];rfl,Below.refl _ _⟩
  ·have e:c1=false:=by rw [Bool.eq_false_iff];intro h;exact q0 ((hc1.1 h).1)
   have p1:(a0 == b0)=false:=by simpa using q0
   have p2:(a0 != b0)=true:=by simpa using q0
   clear hc1
   go_wp2_with fail
   go_meet
   exact⟨by rw [e];rfl,Below.refl _ _⟩
 case rest =>
 obtain⟨rfl,hB2⟩:=hcut
 clear hc1 y0 y1 y2 y3 y4 y5 z0 z1 z2 z3 z4 z5
 obtain⟨w2,hw2e⟩:∃ w2,w2=wc:=⟨_,rfl⟩
 subst hw2e
 cases c1 with
 | false =>
  have HB:Hid (b=false):=HF1.out rfl
  go_wp2_with fail
  go_ret
  exact⟨ret_bool HB.out.symm,bchain bW hB2⟩
 | true =>
  have hMM:M=M':=by rw [HM.out,HM'.out];exact HML.out rfl
  subst hMM
  go_wp2_with fail
  go_loopw [5] (fun i wr=>∃ k:Nat,k<=M/\i=.int .i64 k/\Hid (∀ j,j<k->t.sys[j]? = u.sys[j]?)/\Below W.heap.size W wr) (fun i _=>M - (intOf i).toNat)
  case atStart=>exact⟨0,Nat.zero_le _,rfl,fun j hj=>by omega,hB2⟩
  case round =>
   obtain⟨wo,hwo⟩:∃ wo,wo=wr:=⟨_,rfl⟩
   subst hwo
   obtain⟨k,hk,rfl,HS,hBr⟩:=hrel
   obtain⟨_,y0,y1,y2,y3,y4,y5⟩:=HC.out.blw hBr
   simp only [Nat.zero_add] at y1 y2 y3 y4 y5
   rw [<- HM.out] at y5
   by_cases hlt:k<M
   ·have hkI:(k:Int) < (M:Int):=by omega
    obtain⟨c,hc⟩:=someL (l:=t.sys) (k:=k) (by rw [<- HM.out];exact hlt)
    obtain⟨d,hd⟩:=someL (l:=u.sys) (k:=k) (by rw [<- HM'.out];exact hlt)
    have hcl:=HLs.out c (List.mem_of_getElem? hc)
    have HX:Hid (t.sys[k]? = some c/\u.sys[k]? = some d):=⟨hc,hd⟩
    obtain⟨g,off,fa,fc,ka1,kc1,rfl,hg,q2,qf,qk⟩:=(HT.out.blw hBr).sys.at hc
    obtain⟨g2,off2,fa2,fc2,ka2,kc2,rfl,hg2,p2,pf,pk⟩:=(HU.out.blw hBr).sys.at hd
    have HQ:Hid (Cs2 wo g (off+k*2) c fa fc ka1 kc1):=q2
    have HP:Hid (Cs2 wo g2 (off2+k*2) d fa2 fc2 ka2 kc2):=p2
    obtain⟨fb,hfb⟩:∃ x,x=decide (c.1=d.1):=⟨_,rfl⟩
    obtain⟨gb,hgb⟩:=bool_of (c.2=d.2)
    have HG:Hid ((fb=true↔c.1=d.1)/\(gb=true↔c.2=d.2)):=⟨by rw [hfb];simp,hgb⟩
    have rF:Hid (∀ z:Cw wo,Calls Tryz.prog 38 #[.slice fa c.1.length fc,.slice fa2 d.1.length fc2] z.1 fun e w'=>e=.returned (.bool fb)/\∃ z':Cw wo,w'=z'.1):=fun z=>cw_call z (by rw [hfb];exact same_any c.1 d.1 _ _ z.1 (qf.blw z.2).row (pf.blw z.2).row (by omega))
    have rK:Hid (∀ z:Cw wo,Calls Tryz.prog 48 #[.slice ka1 c.2.length kc1,.slice ka2 d.2.length kc2] z.1 fun e w'=>e=.returned (.bool gb)/\∃ z':Cw wo,w'=z'.1):=fun z=>cw_call z (IH c.2 d.2 gb _ _ z.1 (qk.blw z.2) (pk.blw z.2) hcl.1 hcl.2.1 hgb)
    have e0:∀ z:Cw wo,z.1.cell? ⟨g,off+k*2,none⟩=some (.slice fa c.1.length fc):=fun z=>(HQ.out.blw z.2).c0
    have e1:∀ z:Cw wo,z.1.cell? ⟨g,off+k*2+1,none⟩=some (.slice ka1 c.2.length kc1):=fun z=>(HQ.out.blw z.2).c1
    have f0:∀ z:Cw wo,z.1.cell? ⟨g2,off2+k*2,none⟩=some (.slice fa2 d.1.length fc2):=fun z=>(HP.out.blw z.2).c0
    have f1:∀ z:Cw wo,z.1.cell? ⟨g2,off2+k*2+1,none⟩=some (.slice ka2 d.2.length kc2):=fun z=>(HP.out.blw z.2).c1
    have y5a:∀ z:Cw wo,z.1.cell? ⟨w.heap.size,5,none⟩=some (.slice (some ⟨g,off,none⟩) M sc):=fun z=>by have:=(HC.out.blw (bchain hBr z.2)).c5;rw [<- HM.out] at this;simpa only [Nat.zero_add] using this
    have z5a:∀ z:Cw wo,z.1.cell? ⟨w.heap.size+1,5,none⟩=some (.slice (some ⟨g2,off2,none⟩) M sc'):=fun z=>by have:=(HC'.out.blw (bchain hBr z.2)).c5;rw [<- HM'.out] at this;simpa only [Nat.zero_add] using this
    clear hc hd q2 p2 qf qk pf pk hfb hgb hcl
    have hne:=cw_any wo
    go_upto_region 6 with fail
    clear y0 y1 y2 y3 y4 y5
    cases fb with
    | false =>
     refine wp_region_cw (by kernel_rfl) (by kernel_rfl) ?_
     repeat (first | go_big_quiet_step (fail) | quiet_step (fail))
     first | go_big_quiet_step (exact rF.out _) | quiet_step (exact rF.out _)
     repeat (first | go_big_quiet_step (fail) | quiet_step (fail))
     refine wpQuiet_nil ?_
     rintro _ ⟨z,rfl⟩
     obtain⟨w6,b6⟩:=z
     dsimp only
     clear rF rK hne e0 e1 f0 f1 y5a z5a
     have HB:Hid (b=false):=HF2.out (fun h=>by
      have e:=HX.out.1
      rw [h,HX.out.2] at e
      cases e
      have:=HG.out.1.2 rfl
      cases this)
     go_wp2_with fail
     go_ret
     exact⟨ret_bool HB.out.symm,bchain bW (bchain hBr b6)⟩
    | true =>
     cases gb with
     | false =>
      refine wp_region_cw (by kernel_rfl) (by kernel_rfl) ?_
      repeat (first | go_big_quiet_step (fail) | quiet_step (fail))
      first | go_big_quiet_step (exact rF.out _) | quiet_step (exact rF.out _)
      repeat (first | go_big_quiet_step (fail) | quiet_step (fail))
      first | go_big_quiet_step (exact rK.out _) | quiet_step (exact rK.out _)
      repeat (first | go_big_quiet_step (fail) | quiet_step (fail))
      refine wpQuiet_nil ?_
      rintro _ ⟨z,rfl⟩
      obtain⟨w6,b6⟩:=z
      dsimp only
      clear rF rK hne e0 e1 f0 f1 y5a z5a
      have HB:Hid (b=false):=HF2.out (fun h=>by
       have e:=HX.out.1
       rw [h,HX.out.2] at e
       cases e
       have:=HG.out.2.2 rfl
       cases this)
      go_wp2_with fail
      go_ret
      exact⟨ret_bool HB.out.symm,bchain bW (bchain hBr b6)⟩
     | true =>
      refine wp_region_cw (by kernel_rfl) (by kernel_rfl) ?_
      repeat (first | go_big_quiet_step (fail) | quiet_step (fail))
      first | go_big_quiet_step (exact rF.out _) | quiet_step (exact rF.out _)
      repeat (first | go_big_quiet_step (fail) | quiet_step (fail))
      first | go_big_quiet_step (exact rK.out _) | quiet_step (exact rK.out _)
      repeat (first | go_big_quiet_step (fail) | quiet_step (fail))
      refine wpQuiet_nil ?_
      rintro _ ⟨z,rfl⟩
      obtain⟨w6,b6⟩:=z
      dsimp only
      clear rF rK hne e0 e1 f0 f1 y5a z5a
      have HS':Hid (∀ j,j<k+1->t.sys[j]? = u.sys[j]?):=fun j hj=>by
       rcases Nat.lt_or_ge j k with h|h
       ·exact HS.out j h
       ·have ej:j=k:=by omega
        rw [ej,HX.out.1,HX.out.2]
        exact congrArg some (Prod.ext (HG.out.1.1 (by first | rfl | trivial)) (HG.out.2.1 (by first | rfl | trivial)))
      clear HS HX HG
      go_wp2_with fail
      go_roundw
      case rel=>exact⟨k+1,by omega,by go_num,HS',bchain hBr b6⟩
      case measure=>simp [intOf];omega
   ·have hkI:¬ (k:Int) < (M:Int):=by omega
    have HB:Hid (b=true):=HTr.out (by first | rfl | trivial) (by
     apply List.ext_getElem?
     intro j
     rcases Nat.lt_or_ge j k with h|h
     ·exact HS.out j h
     ·rw [List.getElem?_eq_none (by rw [<- HM.out];omega),List.getElem?_eq_none (by rw [<- HM'.out];omega)])
    clear HS
    go_wp2_with fail
    go_ret
    exact⟨ret_bool HB.out.symm,bchain bW hBr⟩
theorem rsame_any (N:Nat):RSmC N:=by
 induction N with
 | zero=>intro t u b v v' w _ _ hb;have:=blk_pos t;omega
 | succ N ih=>exact rsame_step N (rlists_of N ih)
end Go.Proofs.YtblbhmnahoiecaaGreat
