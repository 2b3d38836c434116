/- A term in a variable's place: what At does, ahead of what catches. -/
import Derived.Test.YtblbhmnahoiecaaGreatGG22
import Derived.Defers
import Derived.Recover
import Derived.RegionTactic
import Derived.Deep.Cut
import Derived.Test.YtblbhmnahoiecaaGreatGG6
set_option linter.unusedVariables false
set_option linter.unusedSimpArgs false
set_option maxRecDepth 100000
set_option maxHeartbeats 2000000
namespace Go.Proofs.YtblbhmnahoiecaaGreat
open Go.RowKit
structure AtB (w:World) (t u:Tm) (n:Int) (tb ub nb:Nat) (ra:Option Addr) (rc:Nat) (ka:Option Addr) (kc:Nat) (sa:Option Addr) (sc:Nat) (ru:Option Addr) (rcu:Nat) (ku:Option Addr) (kcu:Nat) (su:Option Addr) (scu:Nat):Prop where
 ct:Cs6 w tb 0 t ra rc ka kc sa sc
 cu:Cs6 w ub 0 u ru rcu ku kcu su scu
 nlt:nb<w.heap.size
 cn:w.cell? ⟨nb,0,none⟩=some (.int .i64 n)
 tt:TmTop Tt w t ra rc ka kc sa sc
 tu:TmTop Tt w u ru rcu ku kcu su scu
theorem AtB.blw {w w':World} {t u:Tm} {n:Int} {tb ub nb:Nat} {ra rc ka kc sa sc ru rcu ku kcu su scu} (h:AtB w t u n tb ub nb ra rc ka kc sa sc ru rcu ku kcu su scu) (hb:Below w.heap.size w w'):AtB w' t u n tb ub nb ra rc ka kc sa sc ru rcu ku kcu su scu :=
 ⟨h.ct.blw hb,h.cu.blw hb,Nat.lt_of_lt_of_le h.nlt hb.size,(hb.cell (p:=⟨nb,0,none⟩) h.nlt).trans h.cn,h.tt.blw hb,h.tu.blw hb⟩
theorem Cs6.c' {w:World} {g:Nat} {t:Tm} {ra rc ka kc sa sc} (h:Cs6 w g 0 t ra rc ka kc sa sc):w.cell? ⟨g,0,none⟩=some (.int .i64 t.kind)∧w.cell? ⟨g,1,none⟩=some (.int .i64 t.n)∧w.cell? ⟨g,2,none⟩=some (.string t.name)∧w.cell? ⟨g,3,none⟩=some (.slice ra t.r.length rc)∧w.cell? ⟨g,4,none⟩=some (.slice ka t.kids.length kc)∧w.cell? ⟨g,5,none⟩=some (.slice sa t.sys.length sc):=by
 obtain⟨_,h0,h1,h2,h3,h4,h5⟩:=h
 simp only [Nat.zero_add] at h1 h2 h3 h4 h5
 exact⟨h0,h1,h2,h3,h4,h5⟩
theorem cn_le20 (n:Int) (t:Tm) (h:blk t≤20000):cnP n t 0≤20000:=Nat.le_trans (cn_blk n _ t 0 (Nat.le_refl _)) h
theorem atc_any (hLA:LAll) (t u:Tm) (n:Int) (hn:I64 n) (tb ub nb:Nat) (ra:Option Addr) (rc:Nat) (ka:Option Addr) (kc:Nat) (sa:Option Addr) (sc:Nat) (ru:Option Addr) (rcu:Nat) (ku:Option Addr) (kcu:Nat) (su:Option Addr) (scu:Nat) (w:World)
  (hA:AtB w t u n tb ub nb ra rc ka kc sa sc ru rcu ku kcu su scu) (hb:blk t≤20000) (hub:blk u≤20000) (hsm:wrongN true 0 0 t=0→eP n u t 0 0=0→¬ 20000<(sizeT t:Int) + cnP n t 0*((sizeT u:Int) - 1)→blk (putT n u t 0 0)≤10000000) :
  Calls Tryz.prog 50 #[.pointer (some ⟨tb,0,none⟩),.pointer (some ⟨ub,0,none⟩),.pointer (some ⟨nb,0,none⟩)] w fun e w'=>LOut (plE n t u) (TmIn (fun q=>w.heap.size≤q) w' (putT n u t 0 0)) e∧Below w.heap.size w w':=by
 have HP:Hid (plE n t u=if wrongN true 0 0 t≠0 then ((wrongN true 0 0 t:Nat):Int) else if wrongN true 0 0 u≠0 then ((wrongN true 0 0 u:Nat):Int) else if n<0 then 2 else if 20000<(sizeT t:Int) + cnP n t 0*((sizeT u:Int) - 1) then 221 else if eP n u t 0 0≠0 then eP n u t 0 0 else if 200<depthT (putT n u t 0 0) then 62 else 0):=rfl
 obtain⟨pZ,hpZ⟩:∃ z,z=plE n t u:=⟨_,rfl⟩
 rw [← hpZ] at HP ⊢
 obtain⟨tZ,htZ⟩:∃ z,z=putT n u t 0 0:=⟨_,rfl⟩
 rw [← htZ] at HP hsm ⊢
 have Hsm:Hid (wrongN true 0 0 t=0→eP n u t 0 0=0→¬ 20000<(sizeT t:Int) + cnP n t 0*((sizeT u:Int) - 1)→blk tZ≤10000000):=hsm
 clear hsm
 have HtZ:Hid (tZ=putT n u t 0 0):=htZ
 clear hpZ htZ
 obtain⟨X,hX⟩:∃ X,X=w.heap.size:=⟨_,rfl⟩
 obtain⟨w1,hw1⟩:∃ W,W=w.alloc (.cells #[.int .i64 0,.int .i64 0,.string ⟨#[]⟩,.slice none 0 0,.slice none 0 0,.slice none 0 0] 26):=⟨_,rfl⟩
 have b1:Below w.heap.size w w1:=by rw [hw1];exact belowA _ _
 have r1:Six w1 X (.int .i64 0) (.int .i64 0) (.string ⟨#[]⟩) (.slice none 0 0) (.slice none 0 0) (.slice none 0 0):=⟨by rw [hw1,hX];exact heapNew _ _⟩
 have hA1:=hA.blw b1
 have HS:Hid (∀ V,Below w1.heap.size w1 V→AtB V t u n tb ub nb ra rc ka kc sa sc ru rcu ku kcu su scu∧Six V X (.int .i64 0) (.int .i64 0) (.string ⟨#[]⟩) (.slice none 0 0) (.slice none 0 0) (.slice none 0 0)∧Below X w V):=fun V q=>⟨hA1.blw q,r1.blw q,by rw [hX];exact bchain b1 q⟩
 have cF:=formed_any t _ w1 hA1.tt.value hb
 obtain⟨y0,y1,y2,y3,y4,y5⟩:=hA1.ct.c'
 have HW:Hid (_=_):=hw1
 have HX:Hid (X=w.heap.size):=hX
 have hB1:Below w1.heap.size w1 w1:=Below.refl _ _
 have hXw:X<w1.heap.size:=r1.lt
 clear hw1 b1 r1 hA hA1 hX
 rw [← HX.out]
 go_enter Tryz.func50,Tryz.ntmps50
 go_upto_region 1 with fail
 rw [← HW.out]
 simp only [← HX.out]
 clear HW
 go_wp2_with fail
 refine cF.mono ?_
 rintro e w2 ⟨rfl,hb2⟩
 clear cF y0 y1 y2 y3 y4 y5
 obtain⟨eT,heT⟩:∃ z:Int,z=((wrongN true 0 0 t:Nat):Int):=⟨_,rfl⟩
 rw [← heT]
 have HeT:Hid (_=_):=heT
 clear heT
 have hB2:=hB1.trans hb2
 have cr:=prefuse_any eT w2
 go_wp2_with fail
 refine cr.mono ?_
 rintro e w' ⟨⟨h0,v,rfl,rfl⟩ | ⟨hne,rfl⟩,hw'⟩
 rotate_left
 ·subst hw'
  have e1:pZ=eT:=by rw [HP.out,if_pos (by have:=HeT.out;omega),HeT.out]
  exact⟨rfl,.inr ⟨by rw [e1];exact hne,by rw [e1]⟩,(HS.out _ hB2).2.2⟩
 replace hw':=hw'.symm
 subst hw'
 clear cr
 obtain⟨hA2,_,_⟩:=HS.out _ hB2
 obtain⟨y0,y1,y2,y3,y4,y5⟩:=hA2.cu.c'
 have cF:=formed_any u _ w2 hA2.tu.value hub
 clear hA2
 go_wp2_with fail
 refine cF.mono ?_
 rintro e w3 ⟨rfl,hb3⟩
 clear cF y0 y1 y2 y3 y4 y5
 obtain⟨eU,heU⟩:∃ z:Int,z=((wrongN true 0 0 u:Nat):Int):=⟨_,rfl⟩
 rw [← heU]
 have HeU:Hid (_=_):=heU
 clear heU
 have hB3:Below w1.heap.size w1 w3:=hB2.trans (hb3.mono hB2.size)
 have HT0:Hid (wrongN true 0 0 t=0):=by have:=HeT.out;show _=_;omega
 have cr:=prefuse_any eU w3
 go_wp2_with fail
 refine cr.mono ?_
 rintro e w' ⟨⟨h1,v,rfl,rfl⟩ | ⟨hne,rfl⟩,hw'⟩
 rotate_left
 ·subst hw'
  have e1:pZ=eU:=by rw [HP.out,if_neg (by have:=HT0.out;omega),if_pos (by have:=HeU.out;omega),HeU.out]
  exact⟨rfl,.inr ⟨by rw [e1];exact hne,by rw [e1]⟩,(HS.out _ hB3).2.2⟩
 replace hw':=hw'.symm
 subst hw'
 clear cr
 have HU0:Hid (wrongN true 0 0 u=0):=by have:=HeU.out;show _=_;omega
 have HP2:Hid (pZ=if n<0 then 2 else if 20000<(sizeT t:Int) + cnP n t 0*((sizeT u:Int) - 1) then 221 else if eP n u t 0 0≠0 then eP n u t 0 0 else if 200<depthT tZ then 62 else 0):=by
  show _=_
  rw [HP.out,if_neg (by have:=HT0.out;omega),if_neg (by have:=HU0.out;omega)]
 clear HP HeT HeU h0 h1
 obtain⟨hA3,_,_⟩:=HS.out _ hB3
 have yn:=hA3.cn
 by_cases hneg:n<0
 ·have hnb:decide (n<0)=true:=by simpa using hneg
  have cr:=prefuseIf_yes 2 w3
  clear hA3
  go_wp2_with fail
  refine cr.mono ?_
  rintro e w' ⟨rfl,hw'⟩
  subst hw'
  have e1:pZ=2:=by rw [HP2.out,if_pos hneg]
  exact⟨rfl,.inr ⟨by rw [e1];decide,by rw [e1]⟩,(HS.out _ hB3).2.2⟩
 have hnb:decide (n<0)=false:=by simpa using hneg
 have cr:=prefuseIf_no 2 w3
 clear hA3
 go_wp2_with fail
 refine cr.mono ?_
 rintro e w' ⟨rfl,hw'⟩
 replace hw':=hw'.symm
 subst hw'
 clear cr hnb yn
 go_upto_region 4 with fail
 obtain⟨za,hza⟩:∃ z:Int,z=(sizeT t:Nat):=⟨_,rfl⟩
 obtain⟨zc,hzc⟩:∃ z:Int,z=(cnP n t 0:Nat):=⟨_,rfl⟩
 obtain⟨zu,hzu⟩:∃ z:Int,z=(sizeT u:Nat):=⟨_,rfl⟩
 have hza2:0≤za∧za≤20000:=by have:=size_blk t;omega
 have hzu2:0≤zu∧zu≤20000:=by have:=size_blk u;omega
 have hzc2:0≤zc∧zc≤20000:=by have:=cn_le20 n t hb;omega
 obtain⟨zm,hzm⟩:∃ z:Int,z=zc*(zu - 1):=⟨_,rfl⟩
 have hzm2 : -20000≤zm∧zm≤400000000:=by
  rw [hzm]
  have q1:zc*(zu - 1)≤20000*20000:=by
   by_cases h:0≤zu - 1
   ·exact Int.mul_le_mul (by omega) (by omega) h (by omega)
   ·have:zc*(zu - 1)≤0:=Int.mul_nonpos_of_nonneg_of_nonpos (by omega) (by omega)
    omega
  have q2 : -(20000:Int)≤zc*(zu - 1):=by
   have:zc*(-1)≤zc*(zu - 1):=Int.mul_le_mul_of_nonneg_left (by omega) (by omega)
   omega
  omega
 obtain⟨bG,hbG⟩:=bool_of (20000<za+zm)
 have HbG:Hid (bG=true↔20000<(sizeT t:Int) + cnP n t 0*((sizeT u:Int) - 1)):=by
  show _↔_
  rw [hbG,hzm,hza,hzc,hzu]
 have HW1:Hid (IntKind.i64.wrap (zu - 1)=zu - 1∧IntKind.i64.wrap (zc*(zu - 1))=zm∧IntKind.i64.wrap (za+zm)=za+zm∧decide (20000<za+zm)=bG∧decide (za+zm > 20000)=bG):=by
  refine⟨by simp [IntKind.wrap,IntKind.bits,IntKind.signed];omega,by rw [← hzm];simp [IntKind.wrap,IntKind.bits,IntKind.signed];omega,by simp [IntKind.wrap,IntKind.bits,IntKind.signed];omega,?_,?_⟩
  ·rw [Bool.eq_iff_iff,hbG];simp
  ·rw [Bool.eq_iff_iff,hbG];simp
 have HcS:Hid (∀ V,Below w1.heap.size w1 V→Calls Tryz.prog 54 #[.agg #[.int .i64 t.kind,.int .i64 t.n,.string t.name,.slice ra t.r.length rc,.slice ka t.kids.length kc,.slice sa t.sys.length sc]] V fun e w'=>e=.returned (.int .i64 za)∧Below V.heap.size V w'):=fun V q=>by rw [hza];exact size_any t _ V (HS.out V q).1.tt.value (by omega)
 have HcU:Hid (∀ V,Below w1.heap.size w1 V→Calls Tryz.prog 54 #[.agg #[.int .i64 u.kind,.int .i64 u.n,.string u.name,.slice ru u.r.length rcu,.slice ku u.kids.length kcu,.slice su u.sys.length scu]] V fun e w'=>e=.returned (.int .i64 zu)∧Below V.heap.size V w'):=fun V q=>by rw [hzu];exact size_any u _ V (HS.out V q).1.tu.value (by omega)
 have HcC:Hid (∀ V,Below w1.heap.size w1 V→Calls Tryz.prog 55 #[.agg #[.int .i64 t.kind,.int .i64 t.n,.string t.name,.slice ra t.r.length rc,.slice ka t.kids.length kc,.slice sa t.sys.length sc],.int .i64 n] V fun e w'=>e=.returned (.int .i64 zc)∧Below V.heap.size V w'):=fun V q=>by rw [hzc];exact pcount_any n hn t _ V (HS.out V q).1.tt.value (fp_of_wrong HT0.out) (by omega)
 clear hza hzc hzu hzm hbG
 refine wp_region_held_drew (S:=fun V=>Below w1.heap.size w1 V) (by kernel_rfl) hB3.drew (fun hS=>?_)
 refine wpAnyH_take (i:=0) (v:=.agg #[.int .i64 t.kind,.int .i64 t.n,.string t.name,.slice ra t.r.length rc,.slice ka t.kids.length kc,.slice sa t.sys.length sc]) rfl (by kernel_rfl) (by kernel_rfl) (by kernel_rfl) (fun _ _ _ h=>h) (Or.inl ⟨by rfl,fun w hS=>by obtain⟨y0,y1,y2,y3,y4,y5⟩:=(HS.out w hS).1.ct.c'; go_simp⟩) hS ?_
 try simp only [Act.put,List.getElem_toArray,List.getElem_cons_zero,List.getElem_cons_succ,List.setIfInBounds_toArray,List.set_cons_zero,List.set_cons_succ]
 refine wpAnyH_take (i:=2) (v:=.agg #[.int .i64 t.kind,.int .i64 t.n,.string t.name,.slice ra t.r.length rc,.slice ka t.kids.length kc,.slice sa t.sys.length sc]) rfl (by kernel_rfl) (by kernel_rfl) (by kernel_rfl) (fun _ _ _ h=>h) (Or.inl ⟨by rfl,fun w hS=>by obtain⟨y0,y1,y2,y3,y4,y5⟩:=(HS.out w hS).1.ct.c'; go_simp⟩) hS ?_
 try simp only [Act.put,List.getElem_toArray,List.getElem_cons_zero,List.getElem_cons_succ,List.setIfInBounds_toArray,List.set_cons_zero,List.set_cons_succ]
 refine wpAnyH_take (i:=3) (v:=.int .i64 n) rfl (by kernel_rfl) (by kernel_rfl) (by kernel_rfl) (fun _ _ _ h=>h) (Or.inl ⟨by rfl,fun w hS=>by have yn:=(HS.out w hS).1.cn;go_simp⟩) hS ?_
 try simp only [Act.put,List.getElem_toArray,List.getElem_cons_zero,List.getElem_cons_succ,List.setIfInBounds_toArray,List.set_cons_zero,List.set_cons_succ]
 refine wpAnyH_take (i:=5) (v:=.agg #[.int .i64 u.kind,.int .i64 u.n,.string u.name,.slice ru u.r.length rcu,.slice ku u.kids.length kcu,.slice su u.sys.length scu]) rfl (by kernel_rfl) (by kernel_rfl) (by kernel_rfl) (fun _ _ _ h=>h) (Or.inl ⟨by rfl,fun w hS=>by obtain⟨y0,y1,y2,y3,y4,y5⟩:=(HS.out w hS).1.cu.c'; go_simp⟩) hS ?_
 try simp only [Act.put,List.getElem_toArray,List.getElem_cons_zero,List.getElem_cons_succ,List.setIfInBounds_toArray,List.set_cons_zero,List.set_cons_succ]
 refine wpAnyH_ready (rs:=[1]) (by kernel_rfl) (by simp) ?_
 refine ready_cons rfl (fun KK hKK=>?_) AllReadyH.nil
 refine⟨?_⟩
 have cc:=HcS.out _ hS
 go_simp
 refine cc.mono ?_
 rintro e w4 ⟨rfl,hbw4⟩
 have hw4:Below w1.heap.size w1 w4:=hS.trans (hbw4.mono hS.size)
 refine hKK.out _ _ hw4 (fun hS4=>?_)
 clear hKK KK cc
 try simp only [Act.put,List.getElem_toArray,List.getElem_cons_zero,List.getElem_cons_succ,List.setIfInBounds_toArray,List.set_cons_zero,List.set_cons_succ]
 refine wpAnyH_ready (rs:=[4]) (by kernel_rfl) (by simp) ?_
 refine ready_cons rfl (fun KK hKK=>?_) AllReadyH.nil
 refine⟨?_⟩
 have cc:=HcC.out _ hw4
 go_simp
 refine cc.mono ?_
 rintro e w5 ⟨rfl,hbw5⟩
 have hw5:Below w1.heap.size w1 w5:=hw4.trans (hbw5.mono hw4.size)
 refine hKK.out _ _ hw5 (fun hS5=>?_)
 clear hKK KK cc
 try simp only [Act.put,List.getElem_toArray,List.getElem_cons_zero,List.getElem_cons_succ,List.setIfInBounds_toArray,List.set_cons_zero,List.set_cons_succ]
 refine wpAnyH_ready (rs:=[6]) (by kernel_rfl) (by simp) ?_
 refine ready_cons rfl (fun KK hKK=>?_) AllReadyH.nil
 refine⟨?_⟩
 have cc:=HcU.out _ hw5
 go_simp
 refine cc.mono ?_
 rintro e w6 ⟨rfl,hbw6⟩
 have hw6:Below w1.heap.size w1 w6:=hw5.trans (hbw6.mono hw5.size)
 refine hKK.out _ _ hw6 (fun hS6=>?_)
 clear hKK KK cc
 try simp only [Act.put,List.getElem_toArray,List.getElem_cons_zero,List.getElem_cons_succ,List.setIfInBounds_toArray,List.set_cons_zero,List.set_cons_succ]
 refine wpAnyH_take (i:=7) (v:=.int .i64 (zu - 1)) rfl (by kernel_rfl) (by kernel_rfl) (by kernel_rfl) (fun _ _ _ h=>h) (Or.inl ⟨by rfl,fun w hS=>by have wi:=HW1.out.1;go_simp⟩) hS6 ?_
 try simp only [Act.put,List.getElem_toArray,List.getElem_cons_zero,List.getElem_cons_succ,List.setIfInBounds_toArray,List.set_cons_zero,List.set_cons_succ]
 refine wpAnyH_take (i:=8) (v:=.int .i64 zm) rfl (by kernel_rfl) (by kernel_rfl) (by kernel_rfl) (fun _ _ _ h=>h) (Or.inl ⟨by rfl,fun w hS=>by have wi:=HW1.out.2.1;go_simp⟩) hS6 ?_
 try simp only [Act.put,List.getElem_toArray,List.getElem_cons_zero,List.getElem_cons_succ,List.setIfInBounds_toArray,List.set_cons_zero,List.set_cons_succ]
 refine wpAnyH_take (i:=9) (v:=.int .i64 (za+zm)) rfl (by kernel_rfl) (by kernel_rfl) (by kernel_rfl) (fun _ _ _ h=>h) (Or.inl ⟨by rfl,fun w hS=>by have wi:=HW1.out.2.2.1;go_simp⟩) hS6 ?_
 try simp only [Act.put,List.getElem_toArray,List.getElem_cons_zero,List.getElem_cons_succ,List.setIfInBounds_toArray,List.set_cons_zero,List.set_cons_succ]
 refine wpAnyH_take (i:=10) (v:=.bool bG) rfl (by kernel_rfl) (by kernel_rfl) (by kernel_rfl) (fun _ _ _ h=>h) (Or.inl ⟨by rfl,fun w hS=>by have wi:=HW1.out.2.2.2.1;have wj:=HW1.out.2.2.2.2;go_simp⟩) hS6 ?_
 try simp only [Act.put,List.getElem_toArray,List.getElem_cons_zero,List.getElem_cons_succ,List.setIfInBounds_toArray,List.set_cons_zero,List.set_cons_succ]
 refine wpAnyH_ready (rs:=[11]) (by kernel_rfl) (by simp) ?_
 refine ready_cons rfl (fun KK hKK=>?_) AllReadyH.nil
 refine⟨?_⟩
 cases bG
 rotate_left
 ·have cr:=prefuseIf_yes 221 w6
  go_simp
  refine cr.mono ?_
  rintro e w' ⟨rfl,hw'⟩
  subst hw'
  have e1:pZ=221:=by rw [HP2.out,if_neg (by omega),if_pos (HbG.out.1 rfl)]
  exact⟨rfl,.inr ⟨by rw [e1];decide,by rw [e1]⟩,(HS.out _ hw6).2.2⟩
 have cr:=prefuseIf_no 221 w6
 go_simp
 refine cr.mono ?_
 rintro e w' ⟨rfl,hw'⟩
 replace hw':=hw'.symm
 subst hw'
 refine hKK.out _ _ hw6 (fun hS7=>?_)
 clear hKK KK cr
 try simp only [Act.put,List.getElem_toArray,List.getElem_cons_zero,List.getElem_cons_succ,List.setIfInBounds_toArray,List.set_cons_zero,List.set_cons_succ]
 refine wpAnyH_done (by kernel_rfl) ?_ _
 have HP3:Hid (pZ=if eP n u t 0 0≠0 then eP n u t 0 0 else if 200<depthT tZ then 62 else 0):=by
  show _=_
  rw [HP2.out,if_neg (by omega),if_neg (fun h=>by have:=HbG.out.2 h;cases this)]
 obtain⟨hA6,_,_⟩:=HS.out _ hw6
 have cP:=put_any hLA n hn t u _ _ w6 hA6.tt.value hA6.tu.value (fp_of_wrong HT0.out) (by omega) hub
 obtain⟨y0,y1,y2,y3,y4,y5⟩:=hA6.ct.c'
 obtain⟨z0,z1,z2,z3,z4,z5⟩:=hA6.cu.c'
 have yn:=hA6.cn
 have HsG:Hid (¬ 20000<(sizeT t:Int) + cnP n t 0*((sizeT u:Int) - 1)):=fun h=>by have:=HbG.out.2 h;cases this
 obtain⟨eZ,heZ⟩:∃ z,z=eP n u t 0 0:=⟨_,rfl⟩
 have HeZ0:Hid (eZ=eP n u t 0 0):=heZ
 rw [← heZ] at HP3 cP
 rw [← HtZ.out] at cP
 clear hA6 HbG HW1 HcS HcU HcC HP2 heZ hb2 hb3 hbw4 hbw5 hbw6 hS hS4 hS5 hS6 hS7
 go_wp2_with fail
 refine cP.mono ?_
 rintro e w7 ⟨⟨he0,v7,rfl,hv7⟩ | ⟨hne,rfl⟩,hb7⟩
 rotate_left
 ·have e1:pZ=eZ:=by rw [HP3.out,if_pos hne]
  exact⟨rfl,.inr ⟨by rw [e1];exact hne,by rw [e1]⟩,(HS.out _ (hw6.trans (hb7.mono hw6.size))).2.2⟩
 clear cP y0 y1 y2 y3 y4 y5 z0 z1 z2 z3 z4 z5 yn
 obtain⟨r7,rc7,k7,kc7,s7,sc7,rfl,ht7⟩:=hv7.form
 obtain⟨Y,hY⟩:∃ Y,Y=w7.heap.size:=⟨_,rfl⟩
 obtain⟨w8,hw8⟩:∃ W,W=w7.alloc (.cells #[.int .i64 tZ.kind,.int .i64 tZ.n,.string tZ.name,.slice r7 tZ.r.length rc7,.slice k7 tZ.kids.length kc7,.slice s7 tZ.sys.length sc7] 26):=⟨_,rfl⟩
 have b8:Below w7.heap.size w7 w8:=by rw [hw8];exact belowA _ _
 have x8:Cs6 w8 Y 0 tZ r7 rc7 k7 kc7 s7 sc7:=by rw [hw8,hY];exact cs6_new _ _ _ _ _ _ _ _
 have hB7:Below w1.heap.size w1 w7:=hw6.trans (hb7.mono hw6.size)
 have hB8:Below w1.heap.size w1 w8:=hB7.trans (b8.mono hB7.size)
 have ht8:=ht7.blw b8
 have cD:=depth_anyB tZ _ w8 (ht8.value.up fun _ _=>trivial) (Hsm.out HT0.out (by rw [← HeZ0.out];exact he0) HsG.out)
 have hw6s:=hw6.size
 have Ht8:Hid (TmTop (fun q=>w6.heap.size≤q) w8 tZ r7 rc7 k7 kc7 s7 sc7):=ht8
 have H8:Hid (_=_):=hw8
 have HY:Hid (Y=w7.heap.size):=hY
 have Hx8:Hid (∀ V,Below w8.heap.size w8 V→Cs6 V Y 0 tZ r7 rc7 k7 kc7 s7 sc7):=fun V q=>x8.blw q
 obtain⟨y0,y1,y2,y3,y4,y5⟩:=x8.c'
 clear hw8 hY b8 x8 ht7 ht8 hv7 hb7 hB7
 go_upto_region 6 with fail
 rw [← H8.out]
 simp only [← HY.out]
 clear H8 HY
 go_wp2_with fail
 refine cD.mono ?_
 rintro e w9 ⟨rfl,hb9⟩
 clear cD y0 y1 y2 y3 y4 y5
 have hB9:Below w1.heap.size w1 w9:=hB8.trans (hb9.mono hB8.size)
 obtain⟨D,hD⟩:∃ D,D=depthT tZ:=⟨_,rfl⟩
 rw [← hD] at HP3 ⊢
 clear hD
 by_cases hdeep:200<D
 ·have hdb:decide ((200:Int) < (D:Int))=true:=by simp;omega
  have cr:=prefuseIf_yes 62 w9
  go_wp2_with fail
  refine cr.mono ?_
  rintro e w' ⟨rfl,hw'⟩
  subst hw'
  have e1:pZ=62:=by rw [HP3.out,if_neg (by omega),if_pos hdeep]
  exact⟨rfl,.inr ⟨by rw [e1];decide,by rw [e1]⟩,(HS.out _ hB9).2.2⟩
 have hdb:decide ((200:Int) < (D:Int))=false:=by simp;omega
 have cr:=prefuseIf_no 62 w9
 go_wp2_with fail
 refine cr.mono ?_
 rintro e w' ⟨rfl,hw'⟩
 replace hw':=hw'.symm
 subst hw'
 clear cr
 obtain⟨_,z9,hB9X⟩:=HS.out _ hB9
 obtain⟨y0,y1,y2,y3,y4,y5⟩:=(Hx8.out _ hb9).c'
 obtain⟨o0,o1,o2,o3,o4,o5,ff⟩:=z9.cells
 have f0:=ff 0
 have f1:=ff 1
 have f2:=ff 2
 have f3:=ff 3
 have f4:=ff 4
 have f5:=ff 5
 obtain⟨wa,hwa⟩:∃ W,W=(((((w9.setCell ⟨X,0,none⟩ (.int .i64 tZ.kind)).setCell ⟨X,1,none⟩ (.int .i64 tZ.n)).setCell ⟨X,2,none⟩ (.string tZ.name)).setCell ⟨X,3,none⟩ (.slice r7 tZ.r.length rc7)).setCell ⟨X,4,none⟩ (.slice k7 tZ.kids.length kc7)).setCell ⟨X,5,none⟩ (.slice s7 tZ.sys.length sc7):=⟨_,rfl⟩
 have za:=z9.set6 (.int .i64 tZ.kind) (.int .i64 tZ.n) (.string tZ.name) (.slice r7 tZ.r.length rc7) (.slice k7 tZ.kids.length kc7) (.slice s7 tZ.sys.length sc7)
 rw [← hwa] at za
 have ka':Kn (fun q=>q≠X) w9 wa:=by rw [hwa];exact (((((kn_set _ _ _ _).trans (kn_set _ _ _ _)).trans (kn_set _ _ _ _)).trans (kn_set _ _ _ _)).trans (kn_set _ _ _ _)).trans (kn_set _ _ _ _)
 obtain⟨h0,h1,h2,h3,h4,h5,_⟩:=za.cells
 have HF:Hid (pZ=0∧TmIn (fun q=>X≤q) wa tZ (.agg #[.int .i64 tZ.kind,.int .i64 tZ.n,.string tZ.name,.slice r7 tZ.r.length rc7,.slice k7 tZ.kids.length kc7,.slice s7 tZ.sys.length sc7])∧Below X w wa):=by
  refine⟨by rw [HP3.out,if_neg (by omega),if_neg hdeep],?_,hB9X.trans (ka'.below (fun q hq=>by omega) (by have:=z9.lt;omega))⟩
  exact ((Ht8.out.blw hb9).value).keep ka'.size (fun q hq=>by have hq:w6.heap.size≤q:=hq;show X≤q;omega) (fun q hq hs=>ka'.block q (by have hq:w6.heap.size≤q:=hq;show q≠X;omega) hs)
 have Ha:Hid (_=_):=hwa
 clear hwa ff z9 za ka' hb9
 go_wp2_with fail
 rw [← Ha.out]
 exact bodyPost_ret (v:=.agg #[.int .i64 tZ.kind,.int .i64 tZ.n,.string tZ.name,.slice r7 tZ.r.length rc7,.slice k7 tZ.kids.length kc7,.slice s7 tZ.sys.length sc7]) (by simp only [results,Tryz.results50];simp [go_sem,h0,h1,h2,h3,h4,h5]) rfl ⟨.ok HF.out.1 HF.out.2.1,HF.out.2.2⟩
theorem pcatch_panicking (q:Nat) (a x:Int) (older:List PanicEntry) (w:World) (hq:q<w.heap.size) (c0:w.cell? ⟨q,0,none⟩=some (.int .i64 a)) (z0:w.frozen? ⟨q,0,none⟩=false) :
  CallsD Tryz.prog 124 #[.pointer (some ⟨q,0,none⟩)] (.panicking ({ v:=.iface 30 (.int .i64 x),recovered:=false } :: older)) w fun e u' w' =>
   e=.returned (.tuple #[])∧u'=.panicking ({ v:=.iface 30 (.int .i64 x),recovered:=true } :: older)∧w'=w.setCell ⟨q,0,none⟩ (.int .i64 x):=by
 refine callsD_of_wpS Tryz.func124 rfl fun c₀ cs hu=>?_
 apply wpS_seq
 apply wpS_region
 simp [wpOpsS,go_sem,recoverD,hu,Tryz.ntmps124,Exit.thenS]
 refine wpS_of_wp ?_
 change Code.wp Tryz.prog _ _ { tmps:=#[.pointer (some ⟨q,0,none⟩),.iface 30 (.int .i64 x),.iface 30 (.int .i64 x),undef,undef,undef,undef],defers:=[] } w
 have hta:=fun w=>assert_errno (.int .i64 x) w
 go_wp2_with fail
 simp +zetaDelta [bodyPostS,results,Tryz.results124]
theorem pcatch_idle (q:Nat) (w:World) :
  CallsD Tryz.prog 124 #[.pointer (some ⟨q,0,none⟩)] .returning w fun e u' w'=>e=.returned (.tuple #[])∧u'=.returning∧w'=w:=by
 refine callsD_of_wpS Tryz.func124 rfl fun c₀ cs hu=>?_
 apply wpS_seq
 apply wpS_region
 simp [wpOpsS,go_sem,recoverD,hu,Tryz.ntmps124,Exit.thenS]
 refine wpS_of_wp ?_
 change Code.wp Tryz.prog _ _ { tmps:=#[.pointer (some ⟨q,0,none⟩),.nilIface,.nilIface,undef,undef,undef,undef],defers:=[] } w
 go_wp2_with fail
 cases c₀
 simp_all +zetaDelta [bodyPostS,results,Tryz.results124]
theorem atc_eg:∀ args w,(callFunc 50 args).run Tryz.prog w=.ok (.enter 50 args) w:=enters_of Tryz.func50 (by kernel_rfl) rfl
theorem pcaught_any (pZ:Int) (tZ:Tm) (tb ub nb:Nat) (w:World)
  (hC:∀ V,Below w.heap.size w V→Calls Tryz.prog 50 #[.pointer (some ⟨tb,0,none⟩),.pointer (some ⟨ub,0,none⟩),.pointer (some ⟨nb,0,none⟩)] V fun e w'=>LOut pZ (TmIn (fun q=>V.heap.size≤q) w' tZ) e∧Below V.heap.size V w') :
  Calls Tryz.prog 49 #[.func (.func 50) #[] #[.pointer (some ⟨tb,0,none⟩),.pointer (some ⟨ub,0,none⟩),.pointer (some ⟨nb,0,none⟩)]] w fun e w'=>∃ v',e=.returned (.tuple #[v',.int .i64 pZ])∧TmIn (fun q=>w.heap.size≤q) w' (if pZ=0 then tZ else zeroT) v'∧Below w.heap.size w w':=by
 obtain⟨T,hT⟩:∃ T,T=if pZ=0 then tZ else zeroT:=⟨_,rfl⟩
 rw [← hT]
 have HT:Hid (_=_):=hT
 clear hT
 obtain⟨X,hX⟩:∃ X,X=w.heap.size:=⟨_,rfl⟩
 obtain⟨wa,hwa⟩:∃ W,W=w.alloc (.cells #[.int .i64 0,.int .i64 0,.string ⟨#[]⟩,.slice none 0 0,.slice none 0 0,.slice none 0 0] 26):=⟨_,rfl⟩
 have ba:Below w.heap.size w wa:=by rw [hwa];exact belowA _ _
 have sa':wa.heap.size=X+1:=by rw [hwa,hX];simp
 have mr:Six wa X (.int .i64 0) (.int .i64 0) (.string ⟨#[]⟩) (.slice none 0 0) (.slice none 0 0) (.slice none 0 0):=⟨by rw [hwa,hX];exact heapNew _ _⟩
 obtain⟨w2,hw2⟩:∃ W,W=wa.alloc (.cells #[.int .i64 0] 30):=⟨_,rfl⟩
 have b2:Below wa.heap.size wa w2:=by rw [hw2];exact belowA _ _
 have s2:w2.heap.size=X+2:=by rw [hw2];simp;omega
 have me:w2.heap[X+1]? = some (.cells #[.int .i64 0] 30 (0,0)):=by rw [hw2,← sa'];exact heapNew _ _
 have bw2:=bchain ba b2
 have cc:=hC w2 bw2
 have HZ2:Hid (∀ W,Below w2.heap.size w2 W→Six W X (.int .i64 0) (.int .i64 0) (.string ⟨#[]⟩) (.slice none 0 0) (.slice none 0 0) (.slice none 0 0)∧W.heap[X+1]? = some (.cells #[.int .i64 0] 30 (0,0))):=fun W q=>⟨(mr.blw b2).blw q,(q.block (X+1) (by omega)).trans me⟩
 have HB:Hid (∀ W,Below w2.heap.size w2 W→Below X w W):=fun W q=>by rw [hX];exact bchain bw2 q
 have hmk:=pmkfn
 have eg:=atc_eg
 have HW:Hid (w2=(w.alloc (.cells #[.int .i64 0,.int .i64 0,.string ⟨#[]⟩,.slice none 0 0,.slice none 0 0,.slice none 0 0] 26)).alloc (.cells #[.int .i64 0] 30)):=(by rw [hw2,hwa]:_=_)
 have HX:Hid (X=w.heap.size):=hX
 have Hs2:Hid (w2.heap.size=X+2):=s2
 rw [← hX]
 clear hwa hw2 ba b2 bw2 sa' mr me hX s2 hC
 go_enter_defers Tryz.func49,Tryz.ntmps49
 go_upto_region 2 with fail
 rw [← HW.out]
 simp only [← HX.out]
 clear HW
 go_wp2_with fail
 refine cc.mono ?_
 rintro e w3 ⟨⟨h0,v3,rfl,hv3⟩ | ⟨hne,rfl⟩,hb3⟩
 ·clear cc
  obtain⟨ra2,rc2,ka2,kc2,sa2,sc2,rfl,ht2⟩:=hv3.form
  have eT:T=tZ:=by rw [HT.out,if_pos h0]
  rw [← eT] at ht2 ⊢
  obtain⟨z3,e3⟩:=HZ2.out w3 hb3
  have hs2:=Hs2.out
  have hs3:=hb3.size
  obtain⟨w4,hw4⟩:∃ W,W=(((((w3.setCell ⟨X,0,none⟩ (.int .i64 T.kind)).setCell ⟨X,1,none⟩ (.int .i64 T.n)).setCell ⟨X,2,none⟩ (.string T.name)).setCell ⟨X,3,none⟩ (.slice ra2 T.r.length rc2)).setCell ⟨X,4,none⟩ (.slice ka2 T.kids.length kc2)).setCell ⟨X,5,none⟩ (.slice sa2 T.sys.length sc2):=⟨_,rfl⟩
  have k4:Kn (fun q=>q≠X) w3 w4:=by rw [hw4];exact (((((kn_set _ _ _ _).trans (kn_set _ _ _ _)).trans (kn_set _ _ _ _)).trans (kn_set _ _ _ _)).trans (kn_set _ _ _ _)).trans (kn_set _ _ _ _)
  have z4:=z3.set6 (.int .i64 T.kind) (.int .i64 T.n) (.string T.name) (.slice ra2 T.r.length rc2) (.slice ka2 T.kids.length kc2) (.slice sa2 T.sys.length sc2)
  rw [← hw4] at z4
  have e4:=(k4.block (X+1) (by omega) (by omega)).trans e3
  have c40:w4.cell? ⟨X+1,0,none⟩=some (.int .i64 0):=by simp [World.cell?,e4]
  have c4f:w4.frozen? ⟨X+1,0,none⟩=false:=by simp [World.frozen?,e4]
  obtain⟨w5,hw5⟩:∃ W,W=w4.setCell ⟨X+1,0,none⟩ (.int .i64 0):=⟨_,rfl⟩
  have k5:Kn (fun q=>q≠X+1) w4 w5:=by rw [hw5];exact kn_set _ _ _ _
  have z5:=z4.kn k5 (by omega)
  have c5:w5.cell? ⟨X+1,0,none⟩=some (.int .i64 0):=by rw [hw5];exact World.cell?_setCell_same' _ _ _ (by rw [c40];rfl)
  have HTm:Hid (TmIn (fun q=>X≤q) w5 T (.agg #[.int .i64 T.kind,.int .i64 T.n,.string T.name,.slice ra2 T.r.length rc2,.slice ka2 T.kids.length kc2,.slice sa2 T.sys.length sc2])) :=
   ht2.value.keep (Nat.le_trans k4.size k5.size) (fun q hq=>by have hq:w2.heap.size≤q:=hq;show X≤q;omega) (fun q hq hs=>by
    have hq:w2.heap.size≤q:=hq
    exact (k5.block q (by omega) (by have:=k4.size;omega)).trans (k4.block q (by omega) hs))
  have b5:Below X w w5:=((HB.out w3 hb3).trans (k4.below (fun q hq=>by omega) (by omega))).trans (k5.below (fun q hq=>by omega) (by have:=k4.size;omega))
  obtain⟨o0,o1,o2,o3,o4,o5,ff⟩:=z3.cells
  have f0:=ff 0
  have f1:=ff 1
  have f2:=ff 2
  have f3:=ff 3
  have f4:=ff 4
  have f5:=ff 5
  obtain⟨d0,d1,d2,d3,d4,d5,_⟩:=z5.cells
  have H4:Hid (_=_):=hw4
  have H5:Hid (_=_):=hw5
  have p40:(((((((w3.setCell ⟨X,0,none⟩ (.int .i64 T.kind)).setCell ⟨X,1,none⟩ (.int .i64 T.n)).setCell ⟨X,2,none⟩ (.string T.name)).setCell ⟨X,3,none⟩ (.slice ra2 T.r.length rc2)).setCell ⟨X,4,none⟩ (.slice ka2 T.kids.length kc2)).setCell ⟨X,5,none⟩ (.slice sa2 T.sys.length sc2)).cell? ⟨X+1,0,none⟩=some (.int .i64 0)):=by rw [← hw4];exact c40
  have p4f:(((((((w3.setCell ⟨X,0,none⟩ (.int .i64 T.kind)).setCell ⟨X,1,none⟩ (.int .i64 T.n)).setCell ⟨X,2,none⟩ (.string T.name)).setCell ⟨X,3,none⟩ (.slice ra2 T.r.length rc2)).setCell ⟨X,4,none⟩ (.slice ka2 T.kids.length kc2)).setCell ⟨X,5,none⟩ (.slice sa2 T.sys.length sc2)).frozen? ⟨X+1,0,none⟩=false):=by rw [← hw4];exact c4f
  clear hw4 hw5 z3 z4 z5 k4 k5 ff e3 e4 ht2 hv3 c40 c4f hs2 hs3 eT
  go_wp2_with fail
  rw [← H4.out,← H5.out]
  refine leaves_cons (f:=124) (args:=#[.pointer (some ⟨X+1,0,none⟩)]) (by simp) (by simp [go_sem]) ?_
  refine (pcatch_idle _ _).mono ?_
  rintro e u' w'' ⟨rfl,rfl,rfl⟩
  refine⟨.tuple #[.agg #[.int .i64 T.kind,.int .i64 T.n,.string T.name,.slice ra2 T.r.length rc2,.slice ka2 T.kids.length kc2,.slice sa2 T.sys.length sc2],.int .i64 0],by simp only [results,Tryz.results49];simp [go_sem,d0,d1,d2,d3,d4,d5,c5],_,by rw [h0],HTm.out,b5⟩
 ·clear cc
  obtain⟨z3,e3⟩:=HZ2.out w3 hb3
  have hs2:=Hs2.out
  have hs3:=hb3.size
  have c30:w3.cell? ⟨X+1,0,none⟩=some (.int .i64 0):=by simp [World.cell?,e3]
  have c3f:w3.frozen? ⟨X+1,0,none⟩=false:=by simp [World.frozen?,e3]
  refine leaves_cons (f:=124) (args:=#[.pointer (some ⟨X+1,0,none⟩)]) (by simp) (by simp [go_sem]) ?_
  refine (pcatch_panicking (X+1) 0 pZ [] w3 (by omega) c30 c3f).mono ?_
  rintro e u' w5 ⟨rfl,rfl,hw5⟩
  have k5:Kn (fun q=>q≠X+1) w3 w5:=by rw [hw5];exact kn_set _ _ _ _
  have z5:=z3.kn k5 (by omega)
  have c5:w5.cell? ⟨X+1,0,none⟩=some (.int .i64 pZ):=by rw [hw5];exact World.cell?_setCell_same' _ _ _ (by rw [c30];rfl)
  have b5:Below X w w5:=(HB.out w3 hb3).trans (k5.below (fun q hq=>by omega) (by omega))
  obtain⟨d0,d1,d2,d3,d4,d5,_⟩:=z5.cells
  refine⟨.tuple #[.agg #[.int .i64 0,.int .i64 0,.string ⟨#[]⟩,.slice none 0 0,.slice none 0 0,.slice none 0 0],.int .i64 pZ],by simp only [results,Tryz.results49];simp [go_sem,d0,d1,d2,d3,d4,d5,c5],_,rfl,by rw [HT.out,if_neg hne];exact zeroT_in _ _,b5⟩
theorem plat_any (hLA:LAll) (t u:Tm) (n:Int) (hn:I64 n) (v vu:Value) (w:World) (hv:TmIn Tt w t v) (hvu:TmIn Tt w u vu) (hb:blk t≤20000) (hub:blk u≤20000) (hsm:wrongN true 0 0 t=0→eP n u t 0 0=0→¬ 20000<(sizeT t:Int) + cnP n t 0*((sizeT u:Int) - 1)→blk (putT n u t 0 0)≤10000000) :
  Calls Tryz.prog 16 #[v,.int .i64 n,vu] w fun e w'=>∃ v',e=.returned (.tuple #[v',.int .i64 (plE n t u)])∧TmIn (fun q=>w.heap.size≤q) w' (plT n t u) v'∧Below w.heap.size w w':=by
 obtain⟨ra,rc,ka,kc,sa,sc,rfl,ht⟩:=hv.form
 obtain⟨ru,rcu,ku,kcu,su,scu,rfl,htu⟩:=hvu.form
 obtain⟨X,hX⟩:∃ X,X=w.heap.size:=⟨_,rfl⟩
 obtain⟨wa,hwa⟩:∃ W,W=w.alloc (.cells #[.int .i64 t.kind,.int .i64 t.n,.string t.name,.slice ra t.r.length rc,.slice ka t.kids.length kc,.slice sa t.sys.length sc] 26):=⟨_,rfl⟩
 have ba:Below w.heap.size w wa:=by rw [hwa];exact belowA _ _
 have sa':wa.heap.size=X+1:=by rw [hwa,hX];simp
 have m6:Cs6 wa X 0 t ra rc ka kc sa sc:=by rw [hwa,hX];exact cs6_new w t ra rc ka kc sa sc
 obtain⟨wb,hwb⟩:∃ W,W=wa.alloc (.cells #[.int .i64 n] 3):=⟨_,rfl⟩
 have bb:Below wa.heap.size wa wb:=by rw [hwb];exact belowA _ _
 have sb':wb.heap.size=X+2:=by rw [hwb];simp;omega
 have mn:wb.heap[X+1]? = some (.cells #[.int .i64 n] 3 (0,0)):=by rw [hwb,← sa'];exact heapNew _ _
 obtain⟨wc,hwc⟩:∃ W,W=wb.alloc (.cells #[.int .i64 u.kind,.int .i64 u.n,.string u.name,.slice ru u.r.length rcu,.slice ku u.kids.length kcu,.slice su u.sys.length scu] 26):=⟨_,rfl⟩
 have bc:Below wb.heap.size wb wc:=by rw [hwc];exact belowA _ _
 have sc':wc.heap.size=X+3:=by rw [hwc];simp;omega
 have mu:Cs6 wc (X+2) 0 u ru rcu ku kcu su scu:=by rw [hwc,← sb'];exact cs6_new _ _ _ _ _ _ _ _
 obtain⟨w2,hw2⟩:∃ W,W=wc.alloc (.cells #[.int .i64 0,.int .i64 0,.string ⟨#[]⟩,.slice none 0 0,.slice none 0 0,.slice none 0 0] 26):=⟨_,rfl⟩
 have b2:Below wc.heap.size wc w2:=by rw [hw2];exact belowA _ _
 have s2':w2.heap.size=X+4:=by rw [hw2];simp;omega
 have mr:Six w2 (X+3) (.int .i64 0) (.int .i64 0) (.string ⟨#[]⟩) (.slice none 0 0) (.slice none 0 0) (.slice none 0 0):=⟨by rw [hw2,← sc'];exact heapNew _ _⟩
 have bc2:=bchain bc b2
 have bb2:=bchain bb bc2
 have ba2:=bchain ba bb2
 have hAt:AtB w2 t u n X (X+2) (X+1) ra rc ka kc sa sc ru rcu ku kcu su scu:=⟨m6.blw bb2,mu.blw b2,by omega,(bc2.cell (p:=⟨X+1,0,none⟩) (by show X+1<_;omega)).trans (by simp [World.cell?,mn]),ht.blw ba2,htu.blw ba2⟩
 have cc:=pcaught_any (plE n t u) (putT n u t 0 0) X (X+2) (X+1) w2 (fun V q=>atc_any hLA t u n hn X (X+2) (X+1) ra rc ka kc sa sc ru rcu ku kcu su scu V (hAt.blw q) hb hub hsm)
 obtain⟨pZ,hpZ⟩:∃ z,z=plE n t u:=⟨_,rfl⟩
 obtain⟨T,hT⟩:∃ z,z=plT n t u:=⟨_,rfl⟩
 have eT:T=if pZ=0 then putT n u t 0 0 else zeroT:=by rw [hT,hpZ];rfl
 rw [← hpZ,← eT] at cc
 rw [← hpZ,← hT]
 have hmk:=pmkfn
 have HW:Hid (w2=((((w.alloc (.cells #[.int .i64 t.kind,.int .i64 t.n,.string t.name,.slice ra t.r.length rc,.slice ka t.kids.length kc,.slice sa t.sys.length sc] 26)).alloc (.cells #[.int .i64 n] 3)).alloc (.cells #[.int .i64 u.kind,.int .i64 u.n,.string u.name,.slice ru u.r.length rcu,.slice ku u.kids.length kcu,.slice su u.sys.length scu] 26)).alloc (.cells #[.int .i64 0,.int .i64 0,.string ⟨#[]⟩,.slice none 0 0,.slice none 0 0,.slice none 0 0] 26))):=(by rw [hw2,hwc,hwb,hwa]:_=_)
 have HX:Hid (X=w.heap.size):=hX
 have HB2:Hid (Below w.heap.size w w2):=ba2
 have HR:Hid (Six w2 (X+3) (.int .i64 0) (.int .i64 0) (.string ⟨#[]⟩) (.slice none 0 0) (.slice none 0 0) (.slice none 0 0)):=mr
 have hs2:X+4≤w2.heap.size:=by omega
 clear hwa hwb hwc hw2 ba bb bc b2 sa' sb' sc' s2' m6 mn mu mr bc2 bb2 ba2 hAt hv hvu ht htu hX hpZ hT eT
 rw [← HX.out]
 go_enter Tryz.func16,Tryz.ntmps16
 go_upto_region 1 with fail
 rw [← HW.out]
 simp only [← HX.out]
 clear HW
 go_wp2_with fail
 refine cc.mono ?_
 rintro e w3 ⟨v3,rfl,hv3,hb3⟩
 clear cc
 obtain⟨r5,rc5,k5,kc5,s5,sc5,rfl,ht5⟩:=hv3.form
 have z5:=HR.out.blw hb3
 have hs3:=hb3.size
 obtain⟨w6,hw6⟩:∃ W,W=(((((w3.setCell ⟨X+3,0,none⟩ (.int .i64 T.kind)).setCell ⟨X+3,1,none⟩ (.int .i64 T.n)).setCell ⟨X+3,2,none⟩ (.string T.name)).setCell ⟨X+3,3,none⟩ (.slice r5 T.r.length rc5)).setCell ⟨X+3,4,none⟩ (.slice k5 T.kids.length kc5)).setCell ⟨X+3,5,none⟩ (.slice s5 T.sys.length sc5):=⟨_,rfl⟩
 have z6:=z5.set6 (.int .i64 T.kind) (.int .i64 T.n) (.string T.name) (.slice r5 T.r.length rc5) (.slice k5 T.kids.length kc5) (.slice s5 T.sys.length sc5)
 rw [← hw6] at z6
 have k6:Kn (fun q=>q≠X+3) w3 w6:=by rw [hw6];exact (((((kn_set _ _ _ _).trans (kn_set _ _ _ _)).trans (kn_set _ _ _ _)).trans (kn_set _ _ _ _)).trans (kn_set _ _ _ _)).trans (kn_set _ _ _ _)
 obtain⟨o0,o1,o2,o3,o4,o5,ff⟩:=z5.cells
 have f0:=ff 0
 have f1:=ff 1
 have f2:=ff 2
 have f3:=ff 3
 have f4:=ff 4
 have f5:=ff 5
 obtain⟨h0,h1,h2,h3,h4,h5,_⟩:=z6.cells
 have HF:Hid (TmIn (fun q=>X≤q) w6 T (.agg #[.int .i64 T.kind,.int .i64 T.n,.string T.name,.slice r5 T.r.length rc5,.slice k5 T.kids.length kc5,.slice s5 T.sys.length sc5])∧Below X w w6):=by
  refine⟨ht5.value.keep k6.size (fun q hq=>by have hq:w2.heap.size≤q:=hq;show X≤q;omega) (fun q hq hs=>k6.block q (by have hq:w2.heap.size≤q:=hq;omega) hs),?_⟩
  rw [HX.out]
  exact (bchain HB2.out hb3).trans (k6.below (fun q hq=>by have:=HX.out;omega) (by have:=(bchain HB2.out hb3).size;omega))
 have H6:Hid (_=_):=hw6
 clear hw6 ff z5 z6 k6 ht5 hb3 hv3
 go_wp2_with fail
 rw [← H6.out]
 exact bodyPost_ret (v:=.tuple #[.agg #[.int .i64 T.kind,.int .i64 T.n,.string T.name,.slice r5 T.r.length rc5,.slice k5 T.kids.length kc5,.slice s5 T.sys.length sc5],.int .i64 pZ]) (by simp only [results,Tryz.results16];simp [go_sem,h0,h1,h2,h3,h4,h5]) rfl ⟨_,rfl,HF.out.1,HF.out.2⟩
theorem toList_eq {a b:ByteArray} (h:a.toList=b.toList):a=b:=by
 rw [Lib.toList_data,Lib.toList_data] at h
 obtain⟨⟨x⟩⟩:=a
 obtain⟨⟨y⟩⟩:=b
 simp at h;rw [h]
theorem strNe {a b:ByteArray} (h:¬ a=b):(a.toList == b.toList)=false:=by
 rw [Bool.eq_false_iff];intro e;exact h (toList_eq (eq_of_beq e))
end Go.Proofs.YtblbhmnahoiecaaGreat
