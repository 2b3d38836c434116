/- A part of the proof. -/
import Derived.Test.YtblbhmnahoiecaaGreatHG35
set_option linter.unusedVariables false
set_option linter.unusedSimpArgs false
set_option maxRecDepth 100000
set_option maxHeartbeats 16000000
namespace Go.Proofs.YtblbhmnahoiecaaGreat
open Go.RowKit
theorem rall_stepT (o:Bool) (Ho:Hid (o=true)) (V:Int) (D:Nat) (hD:D<=24) (N:Nat) (IH:RAlC o V D N):RAlC o V D (N+1):=by
 intro t v bv bd VV w hbN hbb hbv hbd hVV h
 obtain⟨ra,rc,ka,kc,sa,sc,rfl,ht⟩:=h.form
 obtain⟨w1,hw1⟩:∃ w1,w1=w.alloc (.cells #[.int .i64 t.kind,.int .i64 t.n,.string t.name,.slice ra t.r.length rc,.slice ka t.kids.length kc,.slice sa t.sys.length sc] 26):=⟨_,rfl⟩
 have b1:Below w.heap.size w w1:=by rw [hw1];exact belowA _ _
 have HC:Hid (Cs6 w1 w.heap.size 0 t ra rc ka kc sa sc):=by rw [hw1];exact cs6_new w t ra rc ka kc sa sc
 have HT:Hid (TmTop Tt w1 t ra rc ka kc sa sc):=ht.blw b1
 obtain⟨i1,i2⟩:=ht.inn
 have hlen:=blk_lens t
 obtain⟨L,hL⟩:∃ L,L=t.kids.length:=⟨_,rfl⟩
 have HL:Hid (L=t.kids.length):=hL
 obtain⟨M,hM⟩:∃ M,M=t.sys.length:=⟨_,rfl⟩
 have HM:Hid (M=t.sys.length):=hM
 obtain⟨R,hR⟩:∃ R,R=t.r.length:=⟨_,rfl⟩
 have HR:Hid (R=t.r.length):=hR
 obtain⟨DD,hDD⟩:∃ x,x=dBr o D+bd:=⟨_,rfl⟩
 have hDb:DD<=200000:=by rw [hDD];unfold dBr;split <;> omega
 have HDD:Hid (DD=dBr o D+bd):=hDD
 have hok:=ok_iff o V D t bv bd
 rw [node_iff] at hok
 obtain⟨ans,hans⟩:∃ a,a=okT o V D t bv bd:=⟨_,rfl⟩
 rw [<- hans] at hok ⊢
 rw [<- hL] at hok hlen
 rw [<- hDD]
 have F0:Hid ((o || decide (bd+D<=24))=false->ans=false):=fun h=>Bool.eq_false_iff.2 fun h2=>by have:=(hok.1 h2).1.1;rw [h] at this;cases this
 have F1:Hid (¬ (L:Int)=kidsK t.kind->ans=false):=fun h=>Bool.eq_false_iff.2 fun h2=>h (hok.1 h2).1.2.1
 have F2:Hid (numB o V bv t.kind t.n=false->ans=false):=fun h=>Bool.eq_false_iff.2 fun h2=>by have:=(hok.1 h2).1.2.2.1;rw [h] at this;cases this
 have F3:Hid (nameB t.kind t.name=false->ans=false):=fun h=>Bool.eq_false_iff.2 fun h2=>by have:=(hok.1 h2).1.2.2.2.1;rw [h] at this;cases this
 have F4:Hid ((rowR t.kind t.r && lowB o D bd t.r)=false->ans=false):=fun h=>Bool.eq_false_iff.2 fun h2=>by have:=(hok.1 h2).1.2.2.2.2.1;rw [row_low,h] at this;cases this
 have F5:Hid (∀ b∈t.sys,(!decide (partsK t.kind=0) && decide ((b.2.length:Int)=partsK t.kind) && rightA b.1 && lowB o D bd b.1)=false->ans=false):=fun b hb h=>Bool.eq_false_iff.2 fun h2=>by have:=(hok.1 h2).1.2.2.2.2.2 b hb;rw [br_low,h] at this;cases this
 have F6:Hid (∀ p∈t.pts,okT o V D p.1 (bv+p.2.1) (bd+p.2.2)=false->ans=false):=fun p hp h=>Bool.eq_false_iff.2 fun h2=>by have:=(hok.1 h2).2 p hp;rw [h] at this;cases this
 have G:Hid (((o || decide (bd+D<=24))=true/\(L:Int)=kidsK t.kind/\numB o V bv t.kind t.n=true/\nameB t.kind t.name=true/\(rowR t.kind t.r && lowB o D bd t.r)=true/\∀ b∈t.sys,(!decide (partsK t.kind=0) && decide ((b.2.length:Int)=partsK t.kind) && rightA b.1 && lowB o D bd b.1)=true)->(∀ p∈t.pts,okT o V D p.1 (bv+p.2.1) (bd+p.2.2)=true)->ans=true):=fun ⟨h1,h2,h3,h4,h5,h6⟩ h7=>hok.2 ⟨⟨h1,h2,h3,h4,by rw [row_low];exact h5,fun b hb=>by rw [br_low];exact h6 b hb⟩,h7⟩
 clear hok hans
 rw [<- hR] at hlen
 rw [<- hM] at hlen
 have HW:Hid (_=_):=hw1
 clear hw1 h ht hL hM hR hDD
 go_enter Tryz.func162,Tryz.ntmps162
 go_upto_region 1 with fail
 rw [<- HW.out]
 clear HW
 obtain⟨q,hq⟩:∃ q,q=kidsK t.kind:=⟨_,rfl⟩
 obtain⟨p,hp⟩:∃ p,p=partsK t.kind:=⟨_,rfl⟩
 have HQ:Hid (q=kidsK t.kind/\p=partsK t.kind):=⟨hq,hp⟩
 have rK:Hid (∀ x:Cw w1,Calls Tryz.prog 198 #[.int .i64 t.kind] x.1 fun e w'=>e=.returned (.int .i64 q)/\∃ x':Cw w1,w'=x'.1):=fun x=>cw_call x (by rw [hq];exact rKids_any t.kind x.1)
 have rP:Hid (∀ x:Cw w1,Calls Tryz.prog 199 #[.int .i64 t.kind] x.1 fun e w'=>e=.returned (.int .i64 p)/\∃ x':Cw w1,w'=x'.1):=fun x=>(rParts_any t.kind x.1).mono fun e w' ⟨he,hw⟩=>⟨by rw [hp];exact he,x,hw⟩
 clear hq hp
 have hne:=cw_any w1
 have y0:∀ x:Cw w1,x.1.cell? ⟨w.heap.size,0,none⟩=some (.int .i64 t.kind):=fun x=>by have:=(HC.out.blw x.2).c0;simpa only [Nat.zero_add] using this
 have y4:∀ x:Cw w1,x.1.cell? ⟨w.heap.size,4,none⟩=some (.slice ka L kc):=fun x=>by have:=(HC.out.blw x.2).c4;rw [<- HL.out] at this;simpa only [Nat.zero_add] using this
 have y5:∀ x:Cw w1,x.1.cell? ⟨w.heap.size,5,none⟩=some (.slice sa M sc):=fun x=>by have:=(HC.out.blw x.2).c5;rw [<- HM.out] at this;simpa only [Nat.zero_add] using this
 have Hcond:Hid (∃ c:Bool,(c=true↔((o || decide (bd+D<=24))=true/\(L:Int)=q/\¬ (0<M/\p=0)))):=bool_of _
 obtain⟨c1,hc1⟩:=Hcond.out
 go_cut [40] (fun s wx=>s=.bool (!c1)/\Below w1.heap.size w1 wx)
 case first=>as_aux_lemma =>
  have ho2:=Ho.out
  subst ho2
  by_cases hk:(L:Int)=q
  ·subst hk
   by_cases hM0:M=0
   ·have m1:¬ 0<M:=by omega
    have m2:decide (0<M)=false:=by simpa using hM0
    refine wp_region_cw (by kernel_rfl) (by kernel_rfl) ?_
    repeat (first | go_big_quiet_step (fail) | quiet_step (fail))
    first | go_big_quiet_step (exact rK.out _) | quiet_step (exact rK.out _)
    repeat (first | go_big_quiet_step (fail) | quiet_step (fail))
    refine wpQuiet_nil ?_
    rintro _ ⟨x,rfl⟩
    obtain⟨w9,b9⟩:=x
    dsimp only
    go_wp2_with fail
    go_meet
    exact⟨by rw [show c1=true from by rw [Bool.eq_iff_iff,hc1];simp;omega];rfl,b9⟩
   ·have m1:0<M:=by omega
    have m2:decide (0<M)=true:=by simpa using m1
    by_cases hp0:p=0
    ·subst hp0
     refine wp_region_cw (by kernel_rfl) (by kernel_rfl) ?_
     repeat (first | go_big_quiet_step (fail) | quiet_step (fail))
     first | go_big_quiet_step (exact rK.out _) | quiet_step (exact rK.out _)
     repeat (first | go_big_quiet_step (fail) | quiet_step (fail))
     first | go_big_quiet_step (exact rP.out _) | quiet_step (exact rP.out _)
     repeat (first | go_big_quiet_step (fail) | quiet_step (fail))
     refine wpQuiet_nil ?_
     rintro _ ⟨x,rfl⟩
     obtain⟨w9,b9⟩:=x
     dsimp only
     go_wp2_with fail
     go_meet
     exact⟨by rw [show c1=false from by rw [Bool.eq_false_iff];intro h;have:=hc1.1 h;simp at this;omega];rfl,b9⟩
    ·have p1:(p == 0)=false:=by simpa using hp0
     have p2:decide (p=0)=false:=by simpa using hp0
     refine wp_region_cw (by kernel_rfl) (by kernel_rfl) ?_
     repeat (first | go_big_quiet_step (fail) | quiet_step (fail))
     first | go_big_quiet_step (exact rK.out _) | quiet_step (exact rK.out _)
     repeat (first | go_big_quiet_step (fail) | quiet_step (fail))
     first | go_big_quiet_step (exact rP.out _) | quiet_step (exact rP.out _)
     repeat (first | go_big_quiet_step (fail) | quiet_step (fail))
     refine wpQuiet_nil ?_
     rintro _ ⟨x,rfl⟩
     obtain⟨w9,b9⟩:=x
     dsimp only
     go_wp2_with fail
     go_meet
     exact⟨by rw [show c1=true from by rw [Bool.eq_iff_iff,hc1];simp;omega];rfl,b9⟩
  ·have k1:(q == (L:Int))=false:=by simp;omega
   have k2:decide (q=(L:Int))=false:=by simp;omega
   have k0:¬ q=(L:Int):=by omega
   have k3:(q != (L:Int))=true:=by simp;omega
   refine wp_region_cw (by kernel_rfl) (by kernel_rfl) ?_
   repeat (first | go_big_quiet_step (fail) | quiet_step (fail))
   first | go_big_quiet_step (exact rK.out _) | quiet_step (exact rK.out _)
   repeat (first | go_big_quiet_step (fail) | quiet_step (fail))
   refine wpQuiet_nil ?_
   rintro _ ⟨x,rfl⟩
   obtain⟨w9,b9⟩:=x
   dsimp only
   go_wp2_with fail
   go_meet
   exact⟨by rw [show c1=false from by rw [Bool.eq_false_iff];intro h;have:=hc1.1 h;simp at this;omega];rfl,b9⟩
 case rest =>
 obtain⟨rfl,hB2⟩:=hcut
 clear rK rP hne y0 y4 y5
 obtain⟨w2,hw2e⟩:∃ w2,w2=wc:=⟨_,rfl⟩
 subst hw2e
 cases c1 with
 | false =>
  have HF:Hid (ans=false):=(by
   by_cases h1:(o || decide (bd+D<=24))=true
   ·by_cases h2:(L:Int)=q
    ·have h3:0<M/\p=0:=by
      by_cases h3:0<M/\p=0
      ·exact h3
      ·have:=hc1.2 ⟨h1,h2,h3⟩;cases this
     obtain⟨b,hb⟩:=someL (l:=t.sys) (k:=0) (by rw [<- HM.out];exact h3.1)
     exact F5.out b (List.mem_of_getElem? hb) (by rw [<- HQ.out.2,h3.2];rfl)
    ·exact F1.out (by rw [<- HQ.out.1];exact h2)
   ·exact F0.out (by simpa using h1):ans=false)
  go_wp2_with fail
  go_ret
  exact⟨ret_bool HF.out.symm,bchain b1 hB2⟩
 | true =>
  obtain⟨hg1,hg2,hg3⟩:=hc1.1 rfl
  have HG1:Hid ((o || decide (bd+D<=24))=true/\(L:Int)=kidsK t.kind/\(0<M->¬ partsK t.kind=0)):=⟨hg1,by rw [<- HQ.out.1];exact hg2,fun h h2=>hg3 ⟨h,by rw [HQ.out.2];exact h2⟩⟩
  clear hc1 Hcond hg1 hg2 hg3
  obtain⟨_,x0,x1,x2,x3,x4,x5⟩:=HC.out.blw (hB2)
  simp only [Nat.zero_add] at x1 x2 x3 x4 x5
  rw [<- HR.out] at x3
  rw [<- HL.out] at x4
  rw [<- HM.out] at x5
  obtain⟨k,hk⟩:∃ k,k=t.kind:=⟨_,rfl⟩
  have HK:Hid (k=t.kind):=hk
  rw [<- hk] at x0
  obtain⟨n,hn⟩:∃ n,n=t.n:=⟨_,rfl⟩
  have HN:Hid (n=t.n):=hn
  rw [<- hn] at x1 i1 i2
  obtain⟨nm,hnm⟩:∃ n,n=t.name:=⟨_,rfl⟩
  have HNm:Hid (nm=t.name):=hnm
  rw [<- hnm] at x2
  have hnl:nm.size<=1000000:=by rw [hnm];omega
  have Hnum:Hid (k=1->(numB o V bv k n=true↔0<=n/\(VV<0\/n<VV))):=fun h=>by rw [h];exact num_rel hVV i2
  have Hnum2:Hid (¬ k=1->numB o V bv k n=decide (n=0)):=fun h=>by show numB o V bv k n=_;unfold numB;rw [if_neg h]
  clear hk hn hnm
  have F2:Hid (numB o V bv k n=false->ans=false):=by rw [HK.out,HN.out];exact F2.out
  go_upto_if 43 with fail
  go_cut [] (fun wx=>wx=w2/\numB o V bv k n=true)
  case first=>as_aux_lemma =>
   by_cases hnb:numB o V bv k n=true
   ·have HNB:Hid (numB o V bv k n=true):=hnb
    by_cases hk1:k=1
    ·obtain⟨n0,n1⟩:=(Hnum.out hk1).1 hnb
     have n2:¬ n<0:=by omega
     have n3:decide (n<0)=false:=by simpa using n0
     subst hk1
     clear hnb
     by_cases hv0:VV<0
     ·have v1:decide ((0:Int)<=VV)=false:=by simpa using hv0
      go_wp2_with fail
      go_meet
      exact⟨rfl,HNB.out⟩
     ·have v1:decide ((0:Int)<=VV)=true:=by simpa using hv0
      have v2:¬ VV<=n:=by omega
      have v3:decide (VV<=n)=false:=by simp;omega
      go_wp2_with fail
      go_meet
      exact⟨rfl,HNB.out⟩
    ·have e:=Hnum2.out hk1
     rw [hnb] at e
     have n0:n=0:=by simpa using e.symm
     subst n0
     have q1:(k == 1)=false:=by simpa using hk1
     clear e hnb
     go_wp2_with fail
     go_meet
     exact⟨rfl,HNB.out⟩
   ·have HF:Hid (ans=false):=F2.out (by simpa using hnb)
    by_cases hk1:k=1
    ·have e:=fun h=>hnb ((Hnum.out hk1).2 h)
     subst hk1
     by_cases n0:n<0
     ·clear e hnb
      go_wp2_with fail
      go_ret
      exact⟨ret_bool HF.out.symm,bchain b1 hB2⟩
     ·have n1:¬ (VV<0\/n<VV):=fun h=>e ⟨by omega,h⟩
      have v1:(0:Int)<=VV:=by omega
      have v2:VV<=n:=by omega
      clear n1 e hnb
      go_wp2_with fail
      go_ret
      exact⟨ret_bool HF.out.symm,bchain b1 hB2⟩
    ·have e:=Hnum2.out hk1
     have n0:¬ n=0:=fun h=>hnb (by rw [e,h];rfl)
     have q1:(k == 1)=false:=by simpa using hk1
     have q2:(n == 0)=false:=by simpa using n0
     clear e hnb
     go_wp2_with fail
     go_ret
     exact⟨ret_bool HF.out.symm,bchain b1 hB2⟩
  case rest =>
  obtain⟨hcut,hnb⟩:=hcut
  replace hcut:=hcut.symm
  subst hcut
  have F3:Hid (nameB k nm=false->ans=false):=by rw [HK.out,HNm.out];exact F3.out
  have HnmC:Hid (k=2->nameB k nm=nmB nm):=fun h=>by show nameB k nm=_;unfold nameB;rw [if_pos h]
  have HnmD:Hid (¬ k=2->nameB k nm=decide (nm.size=0)):=fun h=>by show nameB k nm=_;unfold nameB;rw [if_neg h]
  have HNB:Hid (numB o V bv k n=true):=hnb
  clear hnb Hnum Hnum2
  have cN:=rname_any nm w2 hnl
  obtain⟨nb,hnbe⟩:∃ b,b=nameB k nm:=⟨_,rfl⟩
  have HNa:Hid (nb=nameB k nm):=hnbe
  clear hnbe
  go_upto_region 8 with fail
  go_cut [78] (fun s wx=>s=.bool (!nb)/\wx=w2)
  case first=>as_aux_lemma =>
   cases nb with
   | true =>
    by_cases hk2:k=2
    ·have e:=HnmC.out hk2
     rw [<- HNa.out] at e
     rw [<- e] at cN
     subst hk2
     clear e
     go_wp2_with (go_at_call 200;refine cN.mono ?_;rintro e w' ⟨rfl,hw'⟩;subst hw')
     go_meet
     exact⟨rfl,rfl⟩
    ·have e:=HnmD.out hk2
     rw [<- HNa.out] at e
     have s1:nm.toList.isEmpty=true:=by rw [isEmptyB];exact e.symm
     have q2:(k == 2)=false:=by simpa using hk2
     have q3:(k != 2)=true:=by simpa using hk2
     clear e
     go_wp2_with fail
     go_meet
     exact⟨rfl,rfl⟩
   | false =>
    by_cases hk2:k=2
    ·have e:=HnmC.out hk2
     rw [<- HNa.out] at e
     rw [<- e] at cN
     subst hk2
     clear e
     go_wp2_with (go_at_call 200;refine cN.mono ?_;rintro e w' ⟨rfl,hw'⟩;subst hw')
     go_meet
     exact⟨rfl,rfl⟩
    ·have e:=HnmD.out hk2
     rw [<- HNa.out] at e
     have s1:nm.toList.isEmpty=false:=by rw [isEmptyB];exact e.symm
     have q2:(k == 2)=false:=by simpa using hk2
     have q3:(k != 2)=true:=by simpa using hk2
     clear e
     go_wp2_with fail
     go_meet
     exact⟨rfl,rfl⟩
  case rest =>
  obtain⟨rfl,hcut⟩:=hcut
  replace hcut:=hcut.symm
  subst hcut
  cases nb with
  | false =>
   have HF:Hid (ans=false):=F3.out HNa.out.symm
   go_wp2_with fail
   go_ret
   exact⟨ret_bool HF.out.symm,bchain b1 hB2⟩
  | true =>
   have HNm2:Hid (nameB k nm=true):=HNa.out.symm
   clear cN HNa HnmC HnmD
   have HrC:Hid ((k=13\/k=21\/k=26)->rowR k t.r=rightF t.r):=fun h=>by show rowR k t.r=_;unfold rowR;rw [if_pos h]
   have HrD:Hid (k=14->rowR k t.r=rightA t.r):=fun h=>by show rowR k t.r=_;unfold rowR;rw [if_neg (by omega),if_pos h]
   have HrE:Hid (¬ (k=13\/k=21\/k=26)->¬ k=14->rowR k t.r=decide (R=0)):=fun h h2=>by show rowR k t.r=_;unfold rowR;rw [if_neg h,if_neg h2,HR.out]
   obtain⟨rb,hrbe⟩:∃ b,b=rowR k t.r:=⟨_,rfl⟩
   have HRb:Hid (rb=rowR k t.r):=hrbe
   clear hrbe
   have HRow:Hid (CRow w2 (.slice ra R rc) t.r):=by have:=(HT.out.blw hB2).row.row;rw [<- HR.out] at this;exact this
   have hRb:R<=40000:=by omega
   have F4:Hid ((rowR k t.r && lowB o D bd t.r)=false->ans=false):=by rw [HK.out];exact F4.out
   go_upto_block 0 with fail
   go_cut [] (fun wx=>Below w2.heap.size w2 wx/\rb=true)
   case first=>as_aux_lemma =>
    cases rb with
    | false =>
     have HF:Hid (ans=false):=F4.out (by rw [<- HRb.out];rfl)
     by_cases h13:k=13\/k=21\/k=26
     ·have cR:=rfright_any t.r _ w2 HRow.out (by rw [<- HR.out];omega)
      rw [<- HrC.out h13,<- HRb.out] at cR
      rcases h13 with h13|h13|h13
      ·subst h13
       go_wp2_with fail
       refine cR.mono ?_
       rintro e w3 ⟨rfl,b3⟩
       clear cR
       clear x0 x1 x2 x3 x4 x5
       go_wp2_with fail
       go_ret
       exact⟨ret_bool HF.out.symm,bchain b1 (bchain hB2 b3)⟩
      ·subst h13
       go_wp2_with fail
       refine cR.mono ?_
       rintro e w3 ⟨rfl,b3⟩
       clear cR
       clear x0 x1 x2 x3 x4 x5
       go_wp2_with fail
       go_ret
       exact⟨ret_bool HF.out.symm,bchain b1 (bchain hB2 b3)⟩
      ·subst h13
       go_wp2_with fail
       refine cR.mono ?_
       rintro e w3 ⟨rfl,b3⟩
       clear cR
       clear x0 x1 x2 x3 x4 x5
       go_wp2_with fail
       go_ret
       exact⟨ret_bool HF.out.symm,bchain b1 (bchain hB2 b3)⟩
     ·by_cases h14:k=14
      ·have cR:=raright_any t.r _ w2 HRow.out (by rw [<- HR.out];omega)
       rw [<- HrD.out h14,<- HRb.out] at cR
       subst h14
       go_wp2_with fail
       refine cR.mono ?_
       rintro e w3 ⟨rfl,b3⟩
       clear cR
       clear x0 x1 x2 x3 x4 x5
       go_wp2_with fail
       go_ret
       exact⟨ret_bool HF.out.symm,bchain b1 (bchain hB2 b3)⟩
      ·have e:=HrE.out h13 h14
       rw [<- HRb.out] at e
       have e13:(k == 13)=false:=by simp;omega
       have e21:(k == 21)=false:=by simp;omega
       have e26:(k == 26)=false:=by simp;omega
       have e14:(k == 14)=false:=by simpa using h14
       have r0:0<R:=by simp at e;omega
       have r1:(0:Int) < (R:Int):=by omega
       obtain⟨w3,hw3⟩:∃ w3,w3=w2:=⟨_,rfl⟩
       have b3:Below w2.heap.size w2 w3:=by rw [hw3];exact Below.refl _ _
       clear e h13
       subst hw3
       go_wp2_with fail
       go_ret
       exact⟨ret_bool HF.out.symm,bchain b1 (bchain hB2 b3)⟩
    | true =>
     by_cases h13:k=13\/k=21\/k=26
     ·have cR:=rfright_any t.r _ w2 HRow.out (by rw [<- HR.out];omega)
      rw [<- HrC.out h13,<- HRb.out] at cR
      rcases h13 with h13|h13|h13
      ·subst h13
       go_wp2_with fail
       refine cR.mono ?_
       rintro e w3 ⟨rfl,b3⟩
       clear cR
       clear x0 x1 x2 x3 x4 x5
       go_wp2_with fail
       go_meet
       exact⟨b3,by first | rfl | trivial⟩
      ·subst h13
       go_wp2_with fail
       refine cR.mono ?_
       rintro e w3 ⟨rfl,b3⟩
       clear cR
       clear x0 x1 x2 x3 x4 x5
       go_wp2_with fail
       go_meet
       exact⟨b3,by first | rfl | trivial⟩
      ·subst h13
       go_wp2_with fail
       refine cR.mono ?_
       rintro e w3 ⟨rfl,b3⟩
       clear cR
       clear x0 x1 x2 x3 x4 x5
       go_wp2_with fail
       go_meet
       exact⟨b3,by first | rfl | trivial⟩
     ·by_cases h14:k=14
      ·have cR:=raright_any t.r _ w2 HRow.out (by rw [<- HR.out];omega)
       rw [<- HrD.out h14,<- HRb.out] at cR
       subst h14
       go_wp2_with fail
       refine cR.mono ?_
       rintro e w3 ⟨rfl,b3⟩
       clear cR
       clear x0 x1 x2 x3 x4 x5
       go_wp2_with fail
       go_meet
       exact⟨b3,by first | rfl | trivial⟩
      ·have e:=HrE.out h13 h14
       rw [<- HRb.out] at e
       have e13:(k == 13)=false:=by simp;omega
       have e21:(k == 21)=false:=by simp;omega
       have e26:(k == 26)=false:=by simp;omega
       have e14:(k == 14)=false:=by simpa using h14
       have r0:R=0:=by simpa using e.symm
       subst r0
       obtain⟨w3,hw3⟩:∃ w3,w3=w2:=⟨_,rfl⟩
       have b3:Below w2.heap.size w2 w3:=by rw [hw3];exact Below.refl _ _
       clear e h13
       subst hw3
       go_wp2_with fail
       go_meet
       exact⟨b3,by first | rfl | trivial⟩
   case rest =>
   clear x0 x1 x2 x3 x4 x5
   obtain⟨hcut,hrb1⟩:=hcut
   subst hrb1
   obtain⟨w3,hw3⟩:∃ w3,w3=wc:=⟨_,rfl⟩
   subst hw3
   have hB3:=bchain hB2 hcut
   clear HrC HrD HrE hcut
   have HRow3:Hid (CRow w3 (.slice ra R rc) t.r):=by have:=(HT.out.blw hB3).row.row;rw [<- HR.out] at this;exact this
   have cL:=rlow_any t.r _ DD w3 HRow3.out (by rw [<- HR.out];omega)
   have HLw:Hid (lowB o D bd t.r=decide (dimsN t.r / 2 ^ DD=0)):=by show lowB o D bd t.r=_;unfold lowB;rw [HDD.out]
   rw [<- HLw.out] at cL
   obtain⟨lb,hlb⟩:∃ b,b=lowB o D bd t.r:=⟨_,rfl⟩
   have HLb:Hid (lb=lowB o D bd t.r):=hlb
   rw [<- hlb] at cL
   clear hlb HRow HRow3
   obtain⟨_,x0,x1,x2,x3,x4,x5⟩:=HC.out.blw (hB3)
   simp only [Nat.zero_add] at x1 x2 x3 x4 x5
   rw [<- HR.out] at x3
   rw [<- HL.out] at x4
   rw [<- HM.out] at x5
   go_wp2_with fail
   refine cL.mono ?_
   rintro e w4 ⟨rfl,b4⟩
   clear cL
   clear x0 x1 x2 x3 x4 x5
   have hB4:=bchain hB3 b4
   cases lb with
   | false =>
    have HF:Hid (ans=false):=F4.out (by rw [<- HLb.out,Bool.and_false])
    go_wp2_with fail
    go_ret
    exact⟨ret_bool HF.out.symm,bchain b1 hB4⟩
   | true =>
    have HG4:Hid (numB o V bv t.kind t.n=true/\nameB t.kind t.name=true/\(rowR t.kind t.r && lowB o D bd t.r)=true):=by rw [<- HK.out,<- HN.out,<- HNm.out,<- HRb.out,<- HLb.out];exact⟨HNB.out,HNm2.out,rfl⟩
    clear HRb HLb HLw HNB HNm2 F4 F3 F2 F1 F0
    have hLb:L<=100000:=by omega
    have hMb:M<=100000:=by omega
    go_wp2_with fail
    go_loopw [9] (fun i wr=>∃ k:Nat,k<=L/\i=.int .i64 k/\Hid (∀ j x,j<k->t.kids[j]? = some x->okT o V D x (bv+bvK t.kind j) (bd+bdK t.kind j)=true)/\Below w1.heap.size w1 wr) (fun i _=>L - (intOf i).toNat)
    case atStart=>exact⟨0,Nat.zero_le _,rfl,fun j x hj=>by omega,hB4⟩
    case round =>
     obtain⟨wo,hwo⟩:∃ wo,wo=wr:=⟨_,rfl⟩
     subst hwo
     obtain⟨k,hk,rfl,HS,hBr⟩:=hrel
     obtain⟨_,x0,x1,x2,x3,x4,x5⟩:=HC.out.blw (hBr)
     simp only [Nat.zero_add] at x1 x2 x3 x4 x5
     rw [<- HR.out] at x3
     rw [<- HL.out] at x4
     rw [<- HM.out] at x5
     by_cases hlt:k<L
     ·have hkI:(k:Int) < (L:Int):=by omega
      obtain⟨y,hy⟩:=someL (l:=t.kids) (k:=k) (by rw [<- HL.out];exact hlt)
      have hby:blk y<blk t:=blk_kid (List.mem_of_getElem? hy)
      have HP:Hid (_∈_):=pts_kid hy
      have HYs:Hid (t.kids[k]? = some y):=hy
      obtain⟨g,off,ra1,rc1,ka1,kc1,sa1,sc1,rfl,hg,q6,qt⟩:=(HT.out.blw hBr).kids.at hy
      have cB:=rBinds_any t.kind (k:Int) wo
      rw [bvI_nat,bdI_nat] at cB
      have hv1:=bvK_le t.kind k
      have hd1:=bdK_le t.kind k
      obtain⟨v1,hv1e⟩:∃ v,v=bvK t.kind k:=⟨_,rfl⟩
      obtain⟨d1,hd1e⟩:∃ v,v=bdK t.kind k:=⟨_,rfl⟩
      have HVD:Hid (v1=bvK t.kind k/\d1=bdK t.kind k):=⟨hv1e,hd1e⟩
      rw [<- hv1e] at cB hv1
      rw [<- hd1e] at cB hd1
      clear hv1e hd1e hy
      obtain⟨_,c0,c1,c2,c3,c4,c5⟩:=q6
      obtain⟨kb,hkb⟩:∃ b,b=okT o V D y (bv+v1) (bd+d1):=⟨_,rfl⟩
      have HKb:Hid (kb=okT o V D y (bv+v1) (bd+d1)):=hkb
      have hde:((dBr o D+(bd+d1):Nat):Int)=(DD:Int) + (d1:Int):=by have:=HDD.out;omega
      have HIH:Hid (∀ VW:Int,VRel o V (bv+v1) VW->Calls Tryz.prog 162 #[.agg #[.int .i64 y.kind,.int .i64 y.n,.string y.name,.slice ra1 y.r.length rc1,.slice ka1 y.kids.length kc1,.slice sa1 y.sys.length sc1],.int .i64 VW,.int .i64 ((DD:Int) + (d1:Int)),.bool (!o)] wo fun e w'=>e=.returned (.bool kb)/\Below wo.heap.size wo w'):=fun VW hVR=>by have cc:=IH y _ (bv+v1) (bd+d1) VW wo (by omega) (by omega) (by omega) (by omega) hVR qt.value;rw [<- hkb,hde] at cc;exact cc
      clear hde hkb qt
      cases kb with
      | false =>
       go_wp2_with fail
       refine cB.mono ?_
       rintro e w' ⟨rfl,hw'⟩
       replace hw':=hw'.symm
       subst hw'
       clear cB
       by_cases hv0:VV<0
       ·have cc:=HIH.out VV (hVV.zero v1 hv1 (.inr hv0))
        have wr1:=w64_id hVV.1
        go_wp2_with fail
        refine cc.mono ?_
        rintro e w6 ⟨rfl,hb6⟩
        clear cc HIH c0 c1 c2 c3 c4 c5
        clear x0 x1 x2 x3 x4 x5
        have HF:Hid (ans=false):=F6.out _ HP.out (by rw [<- HVD.out.1,<- HVD.out.2];exact HKb.out.symm)
        go_wp2_with fail
        go_ret
        exact⟨ret_bool HF.out.symm,bchain b1 (bchain hBr hb6)⟩
       ·have hv8:0<=VV:=by omega
        have hVR:=hVV.step hv8 v1 hv1
        obtain⟨VW,HVW⟩:∃ x,Hid (wrap64 (VV+(v1:Int))=x):=⟨_,rfl⟩
        rw [HVW.out] at hVR
        have cc:=HIH.out VW hVR
        have wr1:=HVW.out
        clear hVR
        go_wp2_with fail
        refine cc.mono ?_
        rintro e w6 ⟨rfl,hb6⟩
        clear cc HIH c0 c1 c2 c3 c4 c5
        clear x0 x1 x2 x3 x4 x5
        have HF:Hid (ans=false):=F6.out _ HP.out (by rw [<- HVD.out.1,<- HVD.out.2];exact HKb.out.symm)
        go_wp2_with fail
        go_ret
        exact⟨ret_bool HF.out.symm,bchain b1 (bchain hBr hb6)⟩
      | true =>
       go_wp2_with fail
       refine cB.mono ?_
       rintro e w' ⟨rfl,hw'⟩
       replace hw':=hw'.symm
       subst hw'
       clear cB
       by_cases hv0:VV<0
       ·have cc:=HIH.out VV (hVV.zero v1 hv1 (.inr hv0))
        have wr1:=w64_id hVV.1
        go_wp2_with fail
        refine cc.mono ?_
        rintro e w6 ⟨rfl,hb6⟩
        clear cc HIH c0 c1 c2 c3 c4 c5
        clear x0 x1 x2 x3 x4 x5
        have HS':Hid (∀ j x,j<k+1->t.kids[j]? = some x->okT o V D x (bv+bvK t.kind j) (bd+bdK t.kind j)=true):=fun j x hj hx=>by
         rcases Nat.lt_or_ge j k with h|h
         ·exact HS.out j x h hx
         ·obtain rfl:j=k:=by omega
          rw [HYs.out] at hx;cases hx
          rw [<- HVD.out.1,<- HVD.out.2];exact HKb.out.symm
        clear HS HP HYs HVD HKb
        go_wp2_with fail
        go_roundw
        case rel=>exact⟨k+1,by omega,by go_num,HS',bchain hBr hb6⟩
        case measure=>simp [intOf];omega
       ·have hv8:0<=VV:=by omega
        have hVR:=hVV.step hv8 v1 hv1
        obtain⟨VW,HVW⟩:∃ x,Hid (wrap64 (VV+(v1:Int))=x):=⟨_,rfl⟩
        rw [HVW.out] at hVR
        have cc:=HIH.out VW hVR
        have wr1:=HVW.out
        clear hVR
        go_wp2_with fail
        refine cc.mono ?_
        rintro e w6 ⟨rfl,hb6⟩
        clear cc HIH c0 c1 c2 c3 c4 c5
        clear x0 x1 x2 x3 x4 x5
        have HS':Hid (∀ j x,j<k+1->t.kids[j]? = some x->okT o V D x (bv+bvK t.kind j) (bd+bdK t.kind j)=true):=fun j x hj hx=>by
         rcases Nat.lt_or_ge j k with h|h
         ·exact HS.out j x h hx
         ·obtain rfl:j=k:=by omega
          rw [HYs.out] at hx;cases hx
          rw [<- HVD.out.1,<- HVD.out.2];exact HKb.out.symm
        clear HS HP HYs HVD HKb
        go_wp2_with fail
        go_roundw
        case rel=>exact⟨k+1,by omega,by go_num,HS',bchain hBr hb6⟩
        case measure=>simp [intOf];omega
     ·have hkI:¬ (k:Int) < (L:Int):=by omega
      have HKids:Hid (∀ j x,t.kids[j]? = some x->okT o V D x (bv+bvK t.kind j) (bd+bdK t.kind j)=true):=fun j x hx=>HS.out j x (by have:=some_lt hx;rw [<- HL.out] at this;omega) hx
      clear HS
      go_wp2_with fail
      clear x0 x1 x2 x3 x4 x5
      go_loopw [12] (fun i wr=>∃ k:Nat,k<=M/\i=.int .i64 k/\Hid (∀ j b,j<k->t.sys[j]? = some b->(!decide (partsK t.kind=0) && decide ((b.2.length:Int)=partsK t.kind) && rightA b.1 && lowB o D bd b.1)=true/\∀ x∈b.2,okT o V D x bv (bd+moreK t.kind)=true)/\Below w1.heap.size w1 wr) (fun i _=>M - (intOf i).toNat)
      case atStart=>exact⟨0,Nat.zero_le _,rfl,fun j x hj=>by omega,hBr⟩
      case round =>
       obtain⟨wp,hwp⟩:∃ wp,wp=wr:=⟨_,rfl⟩
       subst hwp
       clear hkI hBr
       obtain⟨k,hk,rfl,HS,hBr⟩:=hrel
       obtain⟨_,x0,x1,x2,x3,x4,x5⟩:=HC.out.blw (hBr)
       simp only [Nat.zero_add] at x1 x2 x3 x4 x5
       rw [<- HR.out] at x3
       rw [<- HL.out] at x4
       rw [<- HM.out] at x5
       by_cases hlt:k<M
       ·have hkI:(k:Int) < (M:Int):=by omega
        obtain⟨b,hb⟩:=someL (l:=t.sys) (k:=k) (by rw [<- HM.out];exact hlt)
        have hmem:=List.mem_of_getElem? hb
        have HYs:Hid (t.sys[k]? = some b):=hb
        have HMm:Hid (b∈t.sys):=hmem
        have hbl:=blk_br hmem
        have hbl2:=blkL_len b.2
        obtain⟨g,off,fa,fc,ka1,kc1,rfl,hg,q2,qf,qk⟩:=(HT.out.blw hBr).sys.at hb
        obtain⟨w5,hw5⟩:∃ w5,w5=wp.alloc (.cells #[.slice fa b.1.length fc,.slice ka1 b.2.length kc1] 40):=⟨_,rfl⟩
        have b5:Below wp.heap.size wp w5:=by rw [hw5];exact belowA _ _
        have q5:Cs2 w5 wp.heap.size 0 b fa fc ka1 kc1:=by rw [hw5];exact cs2_new wp b fa fc ka1 kc1
        obtain⟨Fl,hFl⟩:∃ F,F=b.1.length:=⟨_,rfl⟩
        have HFl:Hid (Fl=b.1.length):=hFl
        obtain⟨K,hK⟩:∃ K,K=b.2.length:=⟨_,rfl⟩
        have HKl:Hid (K=b.2.length):=hK
        have HQ5:Hid (Cs2 w5 wp.heap.size 0 b fa fc ka1 kc1):=q5
        have HKd:Hid (KdT Tt w5 (TmIn Tt w5) b.2 (.slice ka1 b.2.length kc1)):=qk.blw b5
        have HFr:Hid (CRow w5 (.slice fa Fl fc) b.1):=by rw [hFl];exact (qf.blw b5).row
        obtain⟨_,c0,c1⟩:=q2
        rw [<- hFl] at c0 hw5 hbl
        rw [<- hK] at c1 hw5 hbl2
        have H5:Hid (_=_):=hw5
        have hB5:=bchain hBr b5
        clear hw5 hb hmem qf qk q5 hFl hK
        go_upto_region 35 with fail
        rw [<- H5.out]
        clear H5 c0 c1
        clear x0 x1 x2 x3 x4 x5
        have hne:=cw_any w5
        have y0:∀ x:Cw w5,x.1.cell? ⟨w.heap.size,0,none⟩=some (.int .i64 t.kind):=fun x=>by have:=(HC.out.blw (bchain hB5 x.2)).c0;simpa only [Nat.zero_add] using this
        have z0:∀ x:Cw w5,x.1.cell? ⟨wp.heap.size,0,none⟩=some (.slice fa Fl fc):=fun x=>by have:=(HQ5.out.blw x.2).c0;rw [<- HFl.out] at this;simpa only [Nat.zero_add] using this
        have z1:∀ x:Cw w5,x.1.cell? ⟨wp.heap.size,1,none⟩=some (.slice ka1 K kc1):=fun x=>by have:=(HQ5.out.blw x.2).c1;rw [<- HKl.out] at this;simpa only [Nat.zero_add] using this
        obtain⟨p,hp⟩:∃ p,p=partsK t.kind:=⟨_,rfl⟩
        obtain⟨fr,hfr⟩:∃ f,f=rightA b.1:=⟨_,rfl⟩
        obtain⟨fl,hfl⟩:∃ f,f=lowB o D bd b.1:=⟨_,rfl⟩
        have HBB:Hid (p=partsK t.kind/\fr=rightA b.1/\fl=lowB o D bd b.1):=⟨hp,hfr,hfl⟩
        have rP:Hid (∀ x:Cw w5,Calls Tryz.prog 199 #[.int .i64 t.kind] x.1 fun e w'=>e=.returned (.int .i64 p)/\∃ x':Cw w5,w'=x'.1):=fun x=>(rParts_any t.kind x.1).mono fun e w' ⟨he,hw⟩=>⟨by rw [hp];exact he,x,hw⟩
        have rA:Hid (∀ x:Cw w5,Calls Tryz.prog 201 #[.slice fa Fl fc] x.1 fun e w'=>e=.returned (.bool fr)/\∃ x':Cw w5,w'=x'.1):=fun x=>cw_call x (by rw [hfr];exact raright_any b.1 _ x.1 (HFr.out.below x.2) (by rw [<- HFl.out];omega))
        have rL:Hid (∀ x:Cw w5,Calls Tryz.prog 202 #[.slice fa Fl fc,.int .i64 (DD:Int)] x.1 fun e w'=>e=.returned (.bool fl)/\∃ x':Cw w5,w'=x'.1):=fun x=>cw_call x (by rw [hfl,show lowB o D bd b.1=decide (dimsN b.1 / 2 ^ DD=0) by unfold lowB;rw [HDD.out]];exact rlow_any b.1 _ DD x.1 (HFr.out.below x.2) (by rw [<- HFl.out];omega))
        clear hp hfr hfl
        by_cases hKp:(K:Int)=p
        ·subst hKp
         cases fr with
         | false =>
          refine wp_region_cw (by kernel_rfl) (by kernel_rfl) ?_
          repeat (first | go_big_quiet_step (fail) | quiet_step (fail))
          first | go_big_quiet_step (exact rP.out _) | quiet_step (exact rP.out _)
          repeat (first | go_big_quiet_step (fail) | quiet_step (fail))
          first | go_big_quiet_step (exact rA.out _) | quiet_step (exact rA.out _)
          repeat (first | go_big_quiet_step (fail) | quiet_step (fail))
          refine wpQuiet_nil ?_
          rintro _ ⟨x,rfl⟩
          obtain⟨w6,b6⟩:=x
          dsimp only
          clear rP rA rL hne y0 z0 z1
          have HF:Hid (ans=false):=F5.out b HMm.out (by rw [<- HBB.out.2.1];simp)
          go_wp2_with fail
          go_ret
          exact⟨ret_bool HF.out.symm,bchain b1 (bchain hB5 b6)⟩
         | true =>
          cases fl with
          | false =>
           refine wp_region_cw (by kernel_rfl) (by kernel_rfl) ?_
           repeat (first | go_big_quiet_step (fail) | quiet_step (fail))
           first | go_big_quiet_step (exact rP.out _) | quiet_step (exact rP.out _)
           repeat (first | go_big_quiet_step (fail) | quiet_step (fail))
           first | go_big_quiet_step (exact rA.out _) | quiet_step (exact rA.out _)
           repeat (first | go_big_quiet_step (fail) | quiet_step (fail))
           first | go_big_quiet_step (exact rL.out _) | quiet_step (exact rL.out _)
           repeat (first | go_big_quiet_step (fail) | quiet_step (fail))
           refine wpQuiet_nil ?_
           rintro _ ⟨x,rfl⟩
           obtain⟨w6,b6⟩:=x
           dsimp only
           clear rP rA rL hne y0 z0 z1
           have HF:Hid (ans=false):=F5.out b HMm.out (by rw [<- HBB.out.2.2];simp)
           go_wp2_with fail
           go_ret
           exact⟨ret_bool HF.out.symm,bchain b1 (bchain hB5 b6)⟩
          | true =>
           refine wp_region_cw (by kernel_rfl) (by kernel_rfl) ?_
           repeat (first | go_big_quiet_step (fail) | quiet_step (fail))
           first | go_big_quiet_step (exact rP.out _) | quiet_step (exact rP.out _)
           repeat (first | go_big_quiet_step (fail) | quiet_step (fail))
           first | go_big_quiet_step (exact rA.out _) | quiet_step (exact rA.out _)
           repeat (first | go_big_quiet_step (fail) | quiet_step (fail))
           first | go_big_quiet_step (exact rL.out _) | quiet_step (exact rL.out _)
           repeat (first | go_big_quiet_step (fail) | quiet_step (fail))
           refine wpQuiet_nil ?_
           rintro _ ⟨x,rfl⟩
           obtain⟨w6,b6⟩:=x
           dsimp only
           clear rP rA rL hne y0 z0 z1
           go_wp2_with fail
           have HBok:Hid ((!decide (partsK t.kind=0) && decide ((b.2.length:Int)=partsK t.kind) && rightA b.1 && lowB o D bd b.1)=true):=by
            have e1:(b.2.length:Int)=partsK t.kind:=by rw [<- HBB.out.1,HKl.out]
            have e2:¬ partsK t.kind=0:=HG1.out.2.2 (by omega)
            show _=_
            rw [<- HBB.out.2.1,<- HBB.out.2.2,decide_eq_false e2,decide_eq_true e1];rfl
           clear HBB
           go_loopw [14] (fun i wr=>∃ j:Nat,j<=K/\i=.int .i64 j/\Hid (∀ q x,q<j->b.2[q]? = some x->okT o V D x bv (bd+moreK t.kind)=true)/\Below w5.heap.size w5 wr) (fun i _=>K - (intOf i).toNat)
           case atStart=>exact⟨0,Nat.zero_le _,rfl,fun q x hq=>by omega,b6⟩
           case round =>
            obtain⟨wq,hwq⟩:∃ wq,wq=wr:=⟨_,rfl⟩
            subst hwq
            obtain⟨j,hj,rfl,HSj,hBq⟩:=hrel
            have hB7:=bchain hB5 hBq
            by_cases hlt2:j<K
            ·have hjI:(j:Int) < (K:Int):=by omega
             obtain⟨y,hy⟩:=someL (l:=b.2) (k:=j) (by rw [<- HKl.out];exact hlt2)
             have hby:blk y<blk t:=blk_sub HMm.out (List.mem_of_getElem? hy)
             have HP:Hid (_∈_):=pts_sys HMm.out (List.mem_of_getElem? hy)
             have HYj:Hid (b.2[j]? = some y):=hy
             obtain⟨g2,off2,ra2,rc2,ka2,kc2,sa2,sc2,rfl,hg2,q6,qt⟩:=(HKd.out.blw hBq).at hy
             have HQ6:Hid (Cs6 wq g2 (off2+j*6) y ra2 rc2 ka2 kc2 sa2 sc2):=q6
             have HQt:Hid (TmTop Tt wq y ra2 rc2 ka2 kc2 sa2 sc2):=qt
             have hml:=moreK_le t.kind
             obtain⟨mK,hmK⟩:∃ m,m=moreK t.kind:=⟨_,rfl⟩
             have HmK:Hid (mK=moreK t.kind):=hmK
             rw [<- hmK] at hml
             clear hy q6 qt hmK
             have z1:wq.cell? ⟨wp.heap.size,1,none⟩=some (.slice (some ⟨g2,off2,none⟩) K kc1):=by have:=(HQ5.out.blw hBq).c1;rw [<- HKl.out] at this;simpa only [Nat.zero_add] using this
             go_upto_region 40 with fail
             clear z1
             have hne:=cw_any wq
             have y0:∀ x:Cw wq,x.1.cell? ⟨w.heap.size,0,none⟩=some (.int .i64 t.kind):=fun x=>by have:=(HC.out.blw (bchain hB7 x.2)).c0;simpa only [Nat.zero_add] using this
             have z1:∀ x:Cw wq,x.1.cell? ⟨wp.heap.size,1,none⟩=some (.slice (some ⟨g2,off2,none⟩) K kc1):=fun x=>by have:=(HQ5.out.blw (bchain hBq x.2)).c1;rw [<- HKl.out] at this;simpa only [Nat.zero_add] using this
             have d0:∀ x:Cw wq,x.1.cell? ⟨g2,off2+j*6,none⟩=some (.int .i64 y.kind):=fun x=>(HQ6.out.blw x.2).c0
             have d1:∀ x:Cw wq,x.1.cell? ⟨g2,off2+j*6+1,none⟩=some (.int .i64 y.n):=fun x=>(HQ6.out.blw x.2).c1
             have d2:∀ x:Cw wq,x.1.cell? ⟨g2,off2+j*6+2,none⟩=some (.string y.name):=fun x=>(HQ6.out.blw x.2).c2
             have d3:∀ x:Cw wq,x.1.cell? ⟨g2,off2+j*6+3,none⟩=some (.slice ra2 y.r.length rc2):=fun x=>(HQ6.out.blw x.2).c3
             have d4:∀ x:Cw wq,x.1.cell? ⟨g2,off2+j*6+4,none⟩=some (.slice ka2 y.kids.length kc2):=fun x=>(HQ6.out.blw x.2).c4
             have d5:∀ x:Cw wq,x.1.cell? ⟨g2,off2+j*6+5,none⟩=some (.slice sa2 y.sys.length sc2):=fun x=>(HQ6.out.blw x.2).c5
             obtain⟨DM,hDM⟩:∃ x,x=DD+mK:=⟨_,rfl⟩
             have wr1:IntKind.i64.wrap ((DD:Int) + (mK:Int))=(DM:Int):=by rw [hDM];simp [IntKind.wrap,IntKind.bits,IntKind.signed];omega
             obtain⟨kb,hkb⟩:∃ b,b=okT o V D y bv (bd+mK):=⟨_,rfl⟩
             have HKb:Hid (kb=okT o V D y bv (bd+moreK t.kind)):=by rw [<- HmK.out];exact hkb
             have rM:Hid (∀ x:Cw wq,Calls Tryz.prog 167 #[.int .i64 t.kind] x.1 fun e w'=>e=.returned (.int .i64 (mK:Int))/\∃ x':Cw wq,w'=x'.1):=fun x=>(rMore_any t.kind x.1).mono fun e w' ⟨he,hw⟩=>⟨by rw [HmK.out];exact he,x,hw⟩
             have rC:Hid (∀ x:Cw wq,Calls Tryz.prog 162 #[.agg #[.int .i64 y.kind,.int .i64 y.n,.string y.name,.slice ra2 y.r.length rc2,.slice ka2 y.kids.length kc2,.slice sa2 y.sys.length sc2],.int .i64 VV,.int .i64 (DM:Int),.bool (!o)] x.1 fun e w'=>e=.returned (.bool kb)/\∃ x':Cw wq,w'=x'.1):=fun x=>cw_call x (by
              have cc:=IH y _ bv (bd+mK) VV x.1 (by omega) (by omega) (by omega) (by omega) hVV (HQt.out.blw x.2).value
              rw [show ((dBr o D+(bd+mK):Nat):Int)=(DM:Int) by have:=HDD.out;omega,<- hkb] at cc
              exact cc)
             clear hDM hkb
             cases kb with
             | false =>
              refine wp_region_cw (by kernel_rfl) (by kernel_rfl) ?_
              repeat (first | go_big_quiet_step (fail) | quiet_step (fail))
              first | go_big_quiet_step (exact rM.out _) | quiet_step (exact rM.out _)
              repeat (first | go_big_quiet_step (fail) | quiet_step (fail))
              first | go_big_quiet_step (exact rC.out _) | quiet_step (exact rC.out _)
              repeat (first | go_big_quiet_step (fail) | quiet_step (fail))
              refine wpQuiet_nil ?_
              rintro _ ⟨x,rfl⟩
              obtain⟨w8,b8⟩:=x
              dsimp only
              clear rM rC hne y0 z1 d0 d1 d2 d3 d4 d5 wr1
              have HF:Hid (ans=false):=F6.out _ HP.out HKb.out.symm
              go_wp2_with fail
              go_ret
              exact⟨ret_bool HF.out.symm,bchain b1 (bchain hB7 b8)⟩
             | true =>
              refine wp_region_cw (by kernel_rfl) (by kernel_rfl) ?_
              repeat (first | go_big_quiet_step (fail) | quiet_step (fail))
              first | go_big_quiet_step (exact rM.out _) | quiet_step (exact rM.out _)
              repeat (first | go_big_quiet_step (fail) | quiet_step (fail))
              first | go_big_quiet_step (exact rC.out _) | quiet_step (exact rC.out _)
              repeat (first | go_big_quiet_step (fail) | quiet_step (fail))
              refine wpQuiet_nil ?_
              rintro _ ⟨x,rfl⟩
              obtain⟨w8,b8⟩:=x
              dsimp only
              clear rM rC hne y0 z1 d0 d1 d2 d3 d4 d5 wr1
              have HS':Hid (∀ q x,q<j+1->b.2[q]? = some x->okT o V D x bv (bd+moreK t.kind)=true):=fun q x hq hx=>by
               rcases Nat.lt_or_ge q j with h|h
               ·exact HSj.out q x h hx
               ·obtain rfl:q=j:=by omega
                rw [HYj.out] at hx;cases hx;exact HKb.out.symm
              clear HSj HP HYj HKb
              go_wp2_with fail
              go_roundw
              case rel=>exact⟨j+1,by omega,by go_num,HS',bchain hBq b8⟩
              case measure=>simp [intOf];omega
            ·have hjI:¬ (j:Int) < (K:Int):=by omega
             have z1:wq.cell? ⟨wp.heap.size,1,none⟩=some (.slice ka1 K kc1):=by have:=(HQ5.out.blw hBq).c1;rw [<- HKl.out] at this;simpa only [Nat.zero_add] using this
             have HS':Hid (∀ j b,j<k+1->t.sys[j]? = some b->(!decide (partsK t.kind=0) && decide ((b.2.length:Int)=partsK t.kind) && rightA b.1 && lowB o D bd b.1)=true/\∀ x∈b.2,okT o V D x bv (bd+moreK t.kind)=true):=fun i c hi hc=>by
              rcases Nat.lt_or_ge i k with h|h
              ·exact HS.out i c h hc
              ·obtain rfl:i=k:=by omega
               rw [HYs.out] at hc;cases hc
               refine⟨HBok.out,fun x hx=>?_⟩
               obtain⟨q,hq⟩:=List.mem_iff_getElem?.1 hx
               exact HSj.out q x (by have:=some_lt hq;rw [<- HKl.out] at this;omega) hq
             clear HS HSj HYs HBok
             go_wp2_with fail
             go_roundw
             case rel=>exact⟨k+1,by omega,by go_num,HS',hB7⟩
             case measure=>simp [intOf];omega
        ·have k1:((K:Int) == p)=false:=by simpa using hKp
         have k2:decide ((K:Int)=p)=false:=by simpa using hKp
         have k3:((K:Int) != p)=true:=by simpa using hKp
         refine wp_region_cw (by kernel_rfl) (by kernel_rfl) ?_
         repeat (first | go_big_quiet_step (fail) | quiet_step (fail))
         first | go_big_quiet_step (exact rP.out _) | quiet_step (exact rP.out _)
         repeat (first | go_big_quiet_step (fail) | quiet_step (fail))
         refine wpQuiet_nil ?_
         rintro _ ⟨x,rfl⟩
         obtain⟨w6,b6⟩:=x
         dsimp only
         clear rP rA rL hne y0 z0 z1
         have HF:Hid (ans=false):=F5.out b HMm.out (by rw [<- HBB.out.1,<- HKl.out,k2];simp)
         go_wp2_with fail
         go_ret
         exact⟨ret_bool HF.out.symm,bchain b1 (bchain hB5 b6)⟩
       ·have hkI:¬ (k:Int) < (M:Int):=by omega
        have HR:Hid (ans=true):=(by
         have hs:∀ b∈t.sys,(!decide (partsK t.kind=0) && decide ((b.2.length:Int)=partsK t.kind) && rightA b.1 && lowB o D bd b.1)=true/\∀ x∈b.2,okT o V D x bv (bd+moreK t.kind)=true:=fun b hb=>by
          obtain⟨q,hq⟩:=List.mem_iff_getElem?.1 hb
          exact HS.out q b (by have:=some_lt hq;rw [<- HM.out] at this;omega) hq
         refine G.out ⟨HG1.out.1,HG1.out.2.1,HG4.out.1,HG4.out.2.1,HG4.out.2.2,fun b hb=>(hs b hb).1⟩ fun q hq=>?_
         rcases mem_pts hq with ⟨j,h1,h2⟩|⟨b,h1,h2,h3⟩
         ·rw [h2];exact HKids.out j q.1 h1
         ·rw [h3];exact (hs b h1).2 q.1 h2:ans=true)
        clear HS HKids
        go_wp2_with fail
        go_ret
        exact⟨ret_bool HR.out.symm,bchain b1 hBr⟩
end Go.Proofs.YtblbhmnahoiecaaGreat
