/- A maker's parts: ends, faces, lines, what is told at the end. -/
import Derived.Test.YtmblbmdchinflaaGreatFG27
import Derived.Test.YtmblbmdchinflaaGreatEG5
import Derived.Test.YtmblbmdchinflaaGreatFYBdL
set_option linter.unusedVariables false
set_option linter.unusedSimpArgs false
set_option maxRecDepth 100000
set_option maxHeartbeats 4000000
namespace Go.Proofs.YtmblbmdchinflaaGreat
open Go.RowKit
theorem misZero_any (g:Nat) (f:Int) (w:World) (hM:Mk w g f) :
  Calls Tryz.prog 40 #[.pointer (some ⟨g,0,none⟩)] w fun e w'=>∃ v',e=.returned v'∧ClRow (Bt g w.heap.size w'.heap.size) w' [negB 0] v'∧Mk w' g f∧Kn (Ng g) w w':=by
 have htab:ofZ [posB 0]=([negB 0],0):=by decide
 go_enter Tryz.func40,Tryz.ntmps40
 go_upto_region 1 with fail
 refine wp_region_held_drew (S:=fun V=>Kn (Ng g) w V) (by kernel_rfl) ((Kn.refl _ _).drew) (fun hS=>?_)
 obtain⟨wd,hwd⟩:∃ V,V=w.drew:=⟨_,rfl⟩
 have hkd:Kn (Ng g) w wd:=by rw [hwd];exact (Kn.refl _ _).drew
 have hszd:w.heap.size≤wd.heap.size:=hkd.size
 have hbd:Below w.heap.size w wd:=by rw [hwd];exact (Below.refl _ _).drew
 have hK:Kn (Ng g) w w:=Kn.refl _ _
 rw [← hwd] at hS ⊢
 clear hwd
 have hK:=hK.trans hkd
 have hM:=hM.blw hbd
 clear hkd hbd
 refine zk 0 (.pointer (some ⟨g,0,none⟩)) rfl (by rfl) (fun w hS=>by go_simp) hS ?_
 try simp only [Act.put,zg1,zg2,zg3,zs1,zs2,zs3]
 refine zk 1 (.pointer (some ⟨g,0,none⟩)) rfl (by rfl) (fun w hS=>by go_simp) hS ?_
 try simp only [Act.put,zg1,zg2,zg3,zs1,zs2,zs3]
 refine zk 2 (.pointer (some ⟨g,0,none⟩)) rfl (by rfl) (fun w hS=>by go_simp) hS ?_
 try simp only [Act.put,zg1,zg2,zg3,zs1,zs2,zs3]
 refine zk 3 (.pointer (some ⟨g,0,none⟩)) rfl (by rfl) (fun w hS=>by go_simp) hS ?_
 try simp only [Act.put,zg1,zg2,zg3,zs1,zs2,zs3]
 refine zr 4 rfl (fun KK hKK=>?_)
 refine⟨?_⟩
 have cc:=malone_any g f wd hM
 go_simp
 refine cc.mono ?_
 rintro e u1 ⟨vu1,rfl,hRu1,hMu1,hk⟩
 obtain⟨au1,cu1,eu1,_⟩:=id hRu1
 simp only [List.length_cons,List.length_nil,Nat.zero_add] at eu1
 subst eu1
 have hK:=hK.trans hk
 have hM:=hMu1
 have hszu1:=hk.size
 clear cc
 refine hKK.out _ _ (hK) (fun hS=>?_)
 clear hKK KK
 try simp only [Act.put,zg1,zg2,zg3,zs1,zs2,zs3]
 clear hk
 refine zr 5 rfl (fun KK hKK=>?_)
 refine⟨?_⟩
 have cc:=OfZero_any [posB 0] (.slice au1 1 cu1) u1 hRu1.tt.frow (by decide)
 rw [htab] at cc
 dsimp only at cc
 go_simp
 refine cc.mono ?_
 rintro e u2 ⟨vu2,rfl,hOu2,bu2⟩
 obtain⟨au2,cu2,eu2⟩:=OwnsC.len hOu2
 simp only [List.length_cons,List.length_nil,Nat.zero_add] at eu2
 subst eu2
 have hRu2:ClRow (Bt g u1.heap.size u2.heap.size) u2 ([negB 0]) (.slice au2 1 cu2):=(OwnsC.okn hOu2).bt (g:=g) (by have:=hM.lt;omega)
 have hk:Kn (Ng g) u1 u2:=Kn.of_below bu2
 have hszu2:=hk.size
 have hK:=hK.trans hk
 have hM:=hM.blw bu2
 have hRu1:=hRu1.kn hk (fun _ q=>q.1)
 clear cc hOu2
 refine hKK.out _ _ (hK) (fun hS=>?_)
 clear hKK KK
 try simp only [Act.put,zg1,zg2,zg3,zs1,zs2,zs3]
 clear hk
 refine zk 6 (.slice au2 1 cu2) rfl (by rfl) (fun w hS=>by go_simp) hS ?_
 try simp only [Act.put,zg1,zg2,zg3,zs1,zs2,zs3]
 refine zk 7 (.int .i64 0) rfl (by rfl) (fun w hS=>by go_simp) hS ?_
 try simp only [Act.put,zg1,zg2,zg3,zs1,zs2,zs3]
 refine zr 8 rfl (fun KK hKK=>?_)
 refine⟨?_⟩
 have cc:=mrow_any g f 0 au2 1 cu2 u2 hM
 rw [fstE_none] at cc
 go_simp
 refine cc.mono ?_
 rintro e u3 ⟨rfl,hMu3,hk⟩
 have hK:=hK.trans hk
 have hRu1:=hRu1.kn hk (fun _ q=>q.1)
 have hRu2:=hRu2.kn hk (fun _ q=>q.1)
 have hM:=hMu3
 have hszu3:=hk.size
 clear cc
 refine hKK.out _ _ (hK) (fun hS=>?_)
 clear hKK KK
 try simp only [Act.put,zg1,zg2,zg3,zs1,zs2,zs3]
 clear hk
 refine zk 9 (.slice au2 1 cu2) rfl (by rfl) (fun w hS=>by go_simp) hS ?_
 try simp only [Act.put,zg1,zg2,zg3,zs1,zs2,zs3]
 refine wpAnyH_done (by kernel_rfl) ?_ _
 have hF:Hid (ClRow (Bt g w.heap.size u3.heap.size) u3 [negB 0] (.slice au2 1 cu2)):=hRu2.lt' (fun q h1 h2=>⟨h1.1,by have:=h1.2.1;omega,h2⟩)
 go_wp2_with fail
 go_ret
 exact⟨_,rfl,hF.out,hM,hS⟩
theorem mup_any (g:Nat) (f:Int) (r:List C) (v:Value) (w:World) (hM:Mk w g f) (hr:ClRow Tt w r v) (hl:r.length≤40000) :
  Calls Tryz.prog 34 #[.pointer (some ⟨g,0,none⟩),v] w fun e w'=>∃ v',e=.returned v'∧ClRow (Bt g w.heap.size w'.heap.size) w' (liftFF r 0 1).1 v'∧Mk w' g (fstE f (liftFF r 0 1).2)∧Kn (Ng g) w w':=by
 obtain⟨ra,rc,e2,_⟩:=id hr
 subst e2
 have cL:Hid (∀ V,Below w.heap.size w V→Calls Tryz.prog 43 #[.slice ra r.length rc,.int .i64 0,.int .i64 1] V fun e w'=>∃ v,e=.returned (.tuple #[v,.int .i64 (liftFF r 0 1).2])∧OwnsC w' V.heap.size v (liftFF r 0 1).1∧Below V.heap.size V w'):=fun V q=>Lift_any r 0 1 _ V ((hr.blw q).frow) hl
 obtain⟨LF,hLF⟩:∃ L,L=liftFF r 0 1:=⟨_,rfl⟩
 rw [← hLF] at cL ⊢
 obtain⟨LR,hLR⟩:∃ L,L=r.length:=⟨_,rfl⟩
 rw [← hLR] at cL ⊢
 clear hr hLF hLR
 go_enter Tryz.func34,Tryz.ntmps34
 go_upto_region 1 with fail
 have hb0:=Below.refl w.heap.size w
 refine wp_region_held_drew (S:=fun V=>Kn (Ng g) w V) (by kernel_rfl) ((Kn.refl _ _).drew) (fun hS=>?_)
 obtain⟨wd,hwd⟩:∃ V,V=w.drew:=⟨_,rfl⟩
 have hkd:Kn (Ng g) w wd:=by rw [hwd];exact (Kn.refl _ _).drew
 have hszd:w.heap.size≤wd.heap.size:=hkd.size
 have hbd:Below w.heap.size w wd:=by rw [hwd];exact (Below.refl _ _).drew
 have hK:Kn (Ng g) w w:=Kn.refl _ _
 rw [← hwd] at hS ⊢
 clear hwd
 have hK:=hK.trans hkd
 have hM:=hM.blw hbd
 have hbw:Below w.heap.size w wd:=hbd
 clear hkd hbd
 refine zk 0 (.pointer (some ⟨g,0,none⟩)) rfl (by rfl) (fun w hS=>by go_simp) hS ?_
 try simp only [Act.put,zg1,zg2,zg3,zs1,zs2,zs3]
 refine zk 1 (.pointer (some ⟨g,0,none⟩)) rfl (by rfl) (fun w hS=>by go_simp) hS ?_
 try simp only [Act.put,zg1,zg2,zg3,zs1,zs2,zs3]
 refine zk 2 (.pointer (some ⟨g,0,none⟩)) rfl (by rfl) (fun w hS=>by go_simp) hS ?_
 try simp only [Act.put,zg1,zg2,zg3,zs1,zs2,zs3]
 refine zk 3 (.slice ra LR rc) rfl (by rfl) (fun w hS=>by go_simp) hS ?_
 try simp only [Act.put,zg1,zg2,zg3,zs1,zs2,zs3]
 refine zr 4 rfl (fun KK hKK=>?_)
 refine⟨?_⟩
 have cc:=cL.out wd hbw
 go_simp
 refine cc.mono ?_
 rintro e u1 ⟨vu1,rfl,hOu1,bu1⟩
 obtain⟨au1,cu1,eu1⟩:=OwnsC.len hOu1
 subst eu1
 have hRu1:ClRow (Bt g wd.heap.size u1.heap.size) u1 LF.1 (.slice au1 LF.1.length cu1):=(OwnsC.okn hOu1).bt (g:=g) (by have:=hM.lt;omega)
 have hk:Kn (Ng g) wd u1:=Kn.of_below bu1
 have hszu1:=hk.size
 have hK:=hK.trans hk
 have hM:=hM.blw bu1
 clear cc hOu1
 refine hKK.out _ _ (hK) (fun hS=>?_)
 clear hKK KK
 try simp only [Act.put,zg1,zg2,zg3,zs1,zs2,zs3]
 clear hk
 refine zk 5 (.slice au1 LF.1.length cu1) rfl (by rfl) (fun w hS=>by go_simp) hS ?_
 try simp only [Act.put,zg1,zg2,zg3,zs1,zs2,zs3]
 refine zk 6 (.int .i64 LF.2) rfl (by rfl) (fun w hS=>by go_simp) hS ?_
 try simp only [Act.put,zg1,zg2,zg3,zs1,zs2,zs3]
 refine zr 7 rfl (fun KK hKK=>?_)
 refine⟨?_⟩
 have cc:=mrow_any g f LF.2 au1 LF.1.length cu1 u1 hM
 go_simp
 refine cc.mono ?_
 rintro e u2 ⟨rfl,hMu2,hk⟩
 have hK:=hK.trans hk
 have hRu1:=hRu1.kn hk (fun _ q=>q.1)
 have hM:=hMu2
 have hszu2:=hk.size
 clear cc
 refine hKK.out _ _ (hK) (fun hS=>?_)
 clear hKK KK
 try simp only [Act.put,zg1,zg2,zg3,zs1,zs2,zs3]
 clear hk
 refine zk 8 (.slice au1 LF.1.length cu1) rfl (by rfl) (fun w hS=>by go_simp) hS ?_
 try simp only [Act.put,zg1,zg2,zg3,zs1,zs2,zs3]
 refine wpAnyH_done (by kernel_rfl) ?_ _
 have hF:Hid (ClRow (Bt g w.heap.size u2.heap.size) u2 LF.1 (.slice au1 LF.1.length cu1)):=hRu1.lt' (fun q h1 h2=>⟨h1.1,by have:=h1.2.1;omega,h2⟩)
 go_wp2_with fail
 go_ret
 exact⟨_,rfl,hF.out,hM,hS⟩
theorem dims_blk {fr by_:Int} {t:Tm}:blk (dimsT fr by_ t)≤blk t:=by
 have h0:blk zeroT=1:=by rw [blk_eq];simp [zeroT,blkL,blkS];rfl
 have h1:=blk_pos t
 unfold dimsT apT
 split
 ·unfold ansL
  split
  ·exact blk_li _ t 0 0 (Nat.le_refl _)
  ·omega
 ·omega
theorem take_blk {r:List C} {t:Tm} (hb:blk t≤600):blk (ansD (putOp 0 (liftFF r 0 1).1) t)≤40000∧blk (takT 0 r t)≤40000:=by
 have h1:=(cap_ge (ansD (putOp 0 (liftFF r 0 1).1) t)).1
 have h2:=cap_ans (putOp_len 0 (liftFF r 0 1).1) t
 have h3:=(cap_ge t).2
 have h0:blk noT=1:=by rw [blk_eq];simp [noT,blkL,blkS];rfl
 refine⟨by omega,?_⟩
 unfold takT
 split
 ·split
  ·split
   ·have h4:=(cap_ge (ansD (dropOp 0) (ansD (putOp 0 (liftFF r 0 1).1) t))).1
    have h5:=cap_ans (dropOp_len 0) (ansD (putOp 0 (liftFF r 0 1).1) t)
    omega
   ·omega
  ·omega
 ·omega
def lineT (r:List C) (t:Tm):Tm:=takT 0 r (dimsT 1 2 t)
def lineE (f:Int) (r:List C) (t:Tm):Int:=fstE (fstE f (dimsE 1 2 t)) (takE 0 r (dimsT 1 2 t))
theorem mwithin_any (hLA:LAll) (g:Nat) (f:Int) (t:Tm) (v:Value) (r:List C) (vr:Value) (w:World) (hM:Mk w g f) (hv:TmIn Tt w t v) (hb:blk t≤600) (hr:ClRow (Ng g) w r vr) (hl:r.length≤40000) :
  Calls Tryz.prog 35 #[.pointer (some ⟨g,0,none⟩),v,vr] w fun e w'=>∃ v',e=.returned v'∧TmIn (Bt g w.heap.size w'.heap.size) w' (lineT r t) v'∧Mk w' g (lineE f r t)∧Kn (Ng g) w w':=by
 have HE:Hid (lineE f r t=fstE (fstE f (dimsE 1 2 t)) (takE 0 r (dimsT 1 2 t))∧lineT r t=takT 0 r (dimsT 1 2 t)):=⟨rfl,rfl⟩
 obtain⟨ra,rc,ka,kc,sa,sc,rfl,ht⟩:=hv.form
 obtain⟨w1,hw1⟩:∃ W,W=(w.alloc (.cells #[.int .i64 t.kind,.int .i64 t.n,.string t.name,.slice ra t.r.length rc,.slice ka t.kids.length kc,.slice sa t.sys.length sc] 26)).alloc (.cells #[.int .i64 0,.int .i64 0,.string ⟨#[]⟩,.slice none 0 0,.slice none 0 0,.slice none 0 0] 26):=⟨_,rfl⟩
 have b1:Below w.heap.size w w1:=by rw [hw1];exact bchain (belowA _ _) (belowA _ _)
 obtain⟨X,hX⟩:∃ X,X=w.heap.size:=⟨_,rfl⟩
 have s1:w1.heap.size=X+2:=by rw [hw1,hX];simp
 have x1:Six w1 (X) (.int .i64 t.kind) (.int .i64 t.n) (.string t.name) (.slice ra t.r.length rc) (.slice ka t.kids.length kc) (.slice sa t.sys.length sc):=⟨by
  rw [hX,hw1]
  have q:=heapNew w (.cells #[.int .i64 t.kind,.int .i64 t.n,.string t.name,.slice ra t.r.length rc,.slice ka t.kids.length kc,.slice sa t.sys.length sc] 26)
  try simp only [World.size_alloc] at q
  exact heapBox _ (q)⟩
 have x2:Six w1 (X+1) (.int .i64 0) (.int .i64 0) (.string ⟨#[]⟩) (.slice none 0 0) (.slice none 0 0) (.slice none 0 0):=⟨by
  rw [hX,hw1]
  have q:=heapNew (w.alloc (.cells #[.int .i64 t.kind,.int .i64 t.n,.string t.name,.slice ra t.r.length rc,.slice ka t.kids.length kc,.slice sa t.sys.length sc] 26)) (.cells #[.int .i64 0,.int .i64 0,.string ⟨#[]⟩,.slice none 0 0,.slice none 0 0,.slice none 0 0] 26)
  try simp only [World.size_alloc] at q
  exact q⟩
 obtain⟨va,vc,e2,_⟩:=id hr
 subst e2
 have hgX:g<X:=by rw [hX];exact hM.lt
 have hM1:=hM.blw b1
 have hL1:=(ht.blw b1).value.tt
 have hr1:ClRow (Bt g 0 X) w1 r _:=(hr.lt' (ok':=Bt g 0 X) (fun q h hs=>⟨h,Nat.zero_le _,by rw [hX];exact hs⟩)).blw b1
 have hblk:=dims_blk (fr:=1) (by_:=2) (t:=t)
 have htb:=take_blk (r:=r) (t:=dimsT 1 2 t) (by omega)
 have cD:Hid (∀ V v,TmIn Tt V t v→Calls Tryz.prog 71 #[v,.int .i64 1,.int .i64 2] V fun e w'=>∃ v',e=.returned (.tuple #[v',.int .i64 (dimsE 1 2 t)])∧TmIn (OkN V.heap.size w') w' (dimsT 1 2 t) v'∧Below V.heap.size V w'):=fun V v q=>ldims_any hLA t v V q (by omega) 1 2 (by unfold I64;omega)
 have cT:Hid (∀ V v vq,TmIn Tt V (dimsT 1 2 t) v→ClRow Tt V r vq→Calls Tryz.prog 11 #[v,.int .i64 0,vq] V fun e w'=>∃ v',e=.returned (.tuple #[v',.int .i64 (takE 0 r (dimsT 1 2 t))])∧TmIn (OkN V.heap.size w') w' (takT 0 r (dimsT 1 2 t)) v'∧Below V.heap.size V w'):=fun V v vq q1 q2=>dtake_any _ v V q1 (by omega) 0 r vq q2 hl htb.1
 obtain⟨D,hD⟩:∃ D,D=dimsT 1 2 t:=⟨_,rfl⟩
 obtain⟨eD,heD⟩:∃ D,D=dimsE 1 2 t:=⟨_,rfl⟩
 rw [← hD,← heD] at HE
 rw [← hD] at cD cT
 rw [← heD] at cD
 obtain⟨F,hF⟩:∃ q,q=takT 0 r D:=⟨_,rfl⟩
 obtain⟨eF,heF⟩:∃ e,e=takE 0 r D:=⟨_,rfl⟩
 rw [← hF,← heF] at HE
 rw [← hF,← heF] at cT
 obtain⟨LR,hLR⟩:∃ L,L=r.length:=⟨_,rfl⟩
 rw [← hLR] at hr1 ⊢
 rw [HE.out.1,HE.out.2]
 have HW:Hid (_=_):=hw1
 have HX:Hid (X=w.heap.size):=hX
 have Hb1:Hid (Below w.heap.size w w1):=b1
 have HS1:Hid (∀ V,Kn (Ng g) w1 V→Six V X (.int .i64 t.kind) (.int .i64 t.n) (.string t.name) (.slice ra t.r.length rc) (.slice ka t.kids.length kc) (.slice sa t.sys.length sc)):=fun V q=>x1.kn q (by omega)
 rw [← hX]
 clear hw1 hX hM b1 hv ht hD heD hF heF hr hLR hb hblk htb hl x1
 go_enter Tryz.func35,Tryz.ntmps35
 go_upto_region 1 with fail
 rw [← HW.out]
 simp only [← HX.out]
 clear HW
 have hM:=hM1
 go_cut [7] (fun s wx=>∃ o ra3 rc3 ka3 kc3 sa3 sc3,s=.pointer (some ⟨o,0,none⟩)∧w1.heap.size≤o∧Six wx o (.int .i64 D.kind) (.int .i64 D.n) (.string D.name) (.slice ra3 D.r.length rc3) (.slice ka3 D.kids.length kc3) (.slice sa3 D.sys.length sc3)∧TmIn Tt wx D (.agg #[.int .i64 D.kind,.int .i64 D.n,.string D.name,.slice ra3 D.r.length rc3,.slice ka3 D.kids.length kc3,.slice sa3 D.sys.length sc3])∧ClRow (Bt g 0 X) wx r (.slice va LR vc)∧Six wx (X+1) (.int .i64 0) (.int .i64 0) (.string ⟨#[]⟩) (.slice none 0 0) (.slice none 0 0) (.slice none 0 0)∧Mk wx g (fstE f eD)∧Kn (Ng g) w1 wx)
 case first=>as_aux_lemma =>
  refine wp_region_held_drew (S:=fun V=>Kn (Ng g) w1 V) (by kernel_rfl) ((Kn.refl _ _).drew) (fun hS=>?_)
  obtain⟨wd,hwd⟩:∃ V,V=w1.drew:=⟨_,rfl⟩
  have hkd:Kn (Ng g) w1 wd:=by rw [hwd];exact (Kn.refl _ _).drew
  have hszd:w1.heap.size≤wd.heap.size:=hkd.size
  have hbd:Below w1.heap.size w1 wd:=by rw [hwd];exact (Below.refl _ _).drew
  have hK:Kn (Ng g) w1 w1:=Kn.refl _ _
  rw [← hwd] at hS ⊢
  clear hwd
  have hK:=hK.trans hkd
  have hM:=hM.blw hbd
  have hL1:=hL1.blw hbd
  have hr1:=hr1.kn hkd (fun _ q=>q.1)
  have x2:=x2.kn hkd (by omega)
  clear hkd hbd
  refine zk 0 (.pointer (some ⟨g,0,none⟩)) rfl (by rfl) (fun w hS=>by go_simp) hS ?_
  try simp only [Act.put,zg1,zg2,zg3,zs1,zs2,zs3]
  refine zk 1 (.pointer (some ⟨g,0,none⟩)) rfl (by rfl) (fun w hS=>by go_simp) hS ?_
  try simp only [Act.put,zg1,zg2,zg3,zs1,zs2,zs3]
  refine zk 2 (.pointer (some ⟨g,0,none⟩)) rfl (by rfl) (fun w hS=>by go_simp) hS ?_
  try simp only [Act.put,zg1,zg2,zg3,zs1,zs2,zs3]
  refine zk 3 (.agg #[.int .i64 t.kind,.int .i64 t.n,.string t.name,.slice ra t.r.length rc,.slice ka t.kids.length kc,.slice sa t.sys.length sc]) rfl (by rfl) (fun w hS=>by obtain⟨y0,y1,y2,y3,y4,y5,_⟩:=(HS1.out w hS).cells;go_simp) hS ?_
  try simp only [Act.put,zg1,zg2,zg3,zs1,zs2,zs3]
  refine wpAnyH_ready (rs:=[4,8]) (by kernel_rfl) (by simp) ?_
  refine ready_cons rfl (fun KK hKK=>?_) (ready_cons rfl (fun KK hKK=>?_) AllReadyH.nil)
  ·skip
   refine⟨?_⟩
   have cc:=cD.out wd _ hL1
   go_simp
   refine cc.mono ?_
   rintro e u1 ⟨vu1,rfl,hvu1,bu1⟩
   obtain⟨ra3,rc3,ka3,kc3,sa3,sc3,rfl,ht3⟩:=hvu1.form
   have hT3:=(ht3.value).bt (g:=g) (by have:=hM.lt;omega)
   have hk:Kn (Ng g) wd u1:=Kn.of_below bu1
   have hszu1:=hk.size
   have hK:=hK.trans hk
   have hM:=hM.blw bu1
   have hr1:=hr1.kn hk (fun _ q=>q.1)
   have x2:=x2.kn hk (by omega)
   clear cc hvu1 ht3
   refine hKK.out _ _ (hK) (fun hS=>?_)
   clear hKK KK
   try simp only [Act.put,zg1,zg2,zg3,zs1,zs2,zs3]
   clear hk
   refine zk 5 (.agg #[.int .i64 D.kind,.int .i64 D.n,.string D.name,.slice ra3 D.r.length rc3,.slice ka3 D.kids.length kc3,.slice sa3 D.sys.length sc3]) rfl (by rfl) (fun w hS=>by go_simp) hS ?_
   try simp only [Act.put,zg1,zg2,zg3,zs1,zs2,zs3]
   refine zk 6 (.int .i64 eD) rfl (by rfl) (fun w hS=>by go_simp) hS ?_
   try simp only [Act.put,zg1,zg2,zg3,zs1,zs2,zs3]
   refine wpAnyH_ready (rs:=[7,8]) (by kernel_rfl) (by simp) ?_
   refine ready_cons rfl (fun KK hKK=>?_) (ready_cons rfl (fun KK hKK=>?_) AllReadyH.nil)
   ·skip
    refine⟨?_⟩
    have cc:=mpart_any g f eD D.kind D.n D.name ra3 D.r.length rc3 ka3 D.kids.length kc3 sa3 D.sys.length sc3 u1 hM
    go_simp
    refine cc.mono ?_
    rintro e u2 ⟨rfl,hMu2,hk⟩
    have hK:=hK.trans hk
    have hr1:=hr1.kn hk (fun _ q=>q.1)
    have x2:=x2.kn hk (by omega)
    have hT3:=hT3.kn hk (fun _ q=>q.1)
    have hM:=hMu2
    have hszu2:=hk.size
    clear cc
    refine hKK.out _ _ (hK) (fun hS=>?_)
    clear hKK KK
    try simp only [Act.put,zg1,zg2,zg3,zs1,zs2,zs3]
    clear hk
    refine zr 8 rfl (fun KK hKK=>?_)
    obtain⟨bk4,u3,hbk4,hu3,bu3,su3,lebk4,zu3⟩:=zal u2
    have gbk4:w1.heap.size≤bk4:=by rw [hbk4];exact hK.size
    have hk:Kn (Ng g) u2 u3:=Kn.of_below bu3
    have Hu3:Hid (_=_):=hu3
    have Kbk4:Hid (_=_):=hbk4
    have hK:=hK.trans hk
    have hM:=hM.blw bu3
    have hr1:=hr1.kn hk (fun _ q=>q.1)
    have x2:=x2.kn hk (by omega)
    have hT3:=hT3.kn hk (fun _ q=>q.1)
    clear hu3 hbk4
    refine⟨?_⟩
    go_simp
    rw [← Hu3.out]
    try simp only [← Kbk4.out]
    refine hKK.out _ _ (hK) (fun hS=>?_)
    clear hKK KK
    try simp only [Act.put,zg1,zg2,zg3,zs1,zs2,zs3]
    clear hk Hu3
    refine zr 9 rfl (fun KK hKK=>?_)
    obtain⟨w95,hwz,zz2,kz,o0,o1,o2,o3,o4,o5,f0,f1,f2,f3,f4,f5⟩:=zst zu3 (.int .i64 D.kind) (.int .i64 D.n) (.string D.name) (.slice ra3 D.r.length rc3) (.slice ka3 D.kids.length kc3) (.slice sa3 D.sys.length sc3)
    have Hwz:Hid (_=_):=hwz
    clear hwz
    have hTt:TmIn Tt w95 D (.agg #[.int .i64 D.kind,.int .i64 D.n,.string D.name,.slice ra3 D.r.length rc3,.slice ka3 D.kids.length kc3,.slice sa3 D.sys.length sc3]):=(hT3.kn kz (fun _ q=>by have:=q.2.1;have:=q.2.2;omega)).tt
    have hM:=hM.kn kz (by omega)
    have hr1:=hr1.kn kz (fun _ q=>by have:=q.2.2;omega)
    have x2:=x2.kn kz (by omega)
    have hK:=hK.new kz (by omega)
    clear kz
    refine⟨?_⟩
    go_simp
    rw [← Hwz.out]
    refine hKK.out _ _ (hK) (fun hS=>?_)
    clear hKK KK
    try simp only [Act.put,zg1,zg2,zg3,zs1,zs2,zs3]
    refine wpAnyH_done (by kernel_rfl) ?_ _
    go_wp2_with fail
    go_meet
    exact⟨_,_,_,_,_,_,_,rfl,by omega,zz2,hTt,hr1,x2,hM,hK⟩
   ·skip
    obtain⟨bk7,u6,hbk7,hu6,bu6,su6,lebk7,zu6⟩:=zal u1
    have gbk7:w1.heap.size≤bk7:=by rw [hbk7];exact hK.size
    have hk:Kn (Ng g) u1 u6:=Kn.of_below bu6
    have Hu6:Hid (_=_):=hu6
    have Kbk7:Hid (_=_):=hbk7
    have hK:=hK.trans hk
    have hM:=hM.blw bu6
    have hr1:=hr1.kn hk (fun _ q=>q.1)
    have x2:=x2.kn hk (by omega)
    have hT3:=hT3.kn hk (fun _ q=>q.1)
    clear hu6 hbk7
    refine⟨?_⟩
    go_simp
    rw [← Hu6.out]
    try simp only [← Kbk7.out]
    refine hKK.out _ _ (hK) (fun hS=>?_)
    clear hKK KK
    try simp only [Act.put,zg1,zg2,zg3,zs1,zs2,zs3]
    clear hk Hu6
    refine zr 7 rfl (fun KK hKK=>?_)
    refine⟨?_⟩
    have cc:=mpart_any g f eD D.kind D.n D.name ra3 D.r.length rc3 ka3 D.kids.length kc3 sa3 D.sys.length sc3 u6 hM
    go_simp
    refine cc.mono ?_
    rintro e u8 ⟨rfl,hMu8,hk⟩
    have hK:=hK.trans hk
    have hr1:=hr1.kn hk (fun _ q=>q.1)
    have x2:=x2.kn hk (by omega)
    have hT3:=hT3.kn hk (fun _ q=>q.1)
    have zu6:=zu6.kn hk (by omega)
    have hM:=hMu8
    have hszu8:=hk.size
    clear cc
    refine hKK.out _ _ (hK) (fun hS=>?_)
    clear hKK KK
    try simp only [Act.put,zg1,zg2,zg3,zs1,zs2,zs3]
    clear hk
    refine zr 9 rfl (fun KK hKK=>?_)
    obtain⟨w99,hwz,zz2,kz,o0,o1,o2,o3,o4,o5,f0,f1,f2,f3,f4,f5⟩:=zst zu6 (.int .i64 D.kind) (.int .i64 D.n) (.string D.name) (.slice ra3 D.r.length rc3) (.slice ka3 D.kids.length kc3) (.slice sa3 D.sys.length sc3)
    have Hwz:Hid (_=_):=hwz
    clear hwz
    have hTt:TmIn Tt w99 D (.agg #[.int .i64 D.kind,.int .i64 D.n,.string D.name,.slice ra3 D.r.length rc3,.slice ka3 D.kids.length kc3,.slice sa3 D.sys.length sc3]):=(hT3.kn kz (fun _ q=>by have:=q.2.1;have:=q.2.2;omega)).tt
    have hM:=hM.kn kz (by omega)
    have hr1:=hr1.kn kz (fun _ q=>by have:=q.2.2;omega)
    have x2:=x2.kn kz (by omega)
    have hK:=hK.new kz (by omega)
    clear kz
    refine⟨?_⟩
    go_simp
    rw [← Hwz.out]
    refine hKK.out _ _ (hK) (fun hS=>?_)
    clear hKK KK
    try simp only [Act.put,zg1,zg2,zg3,zs1,zs2,zs3]
    refine wpAnyH_done (by kernel_rfl) ?_ _
    go_wp2_with fail
    go_meet
    exact⟨_,_,_,_,_,_,_,rfl,by omega,zz2,hTt,hr1,x2,hM,hK⟩
  ·skip
   obtain⟨bk11,u10,hbk11,hu10,bu10,su10,lebk11,zu10⟩:=zal wd
   have gbk11:w1.heap.size≤bk11:=by rw [hbk11];exact hK.size
   have hk:Kn (Ng g) wd u10:=Kn.of_below bu10
   have Hu10:Hid (_=_):=hu10
   have Kbk11:Hid (_=_):=hbk11
   have hK:=hK.trans hk
   have hM:=hM.blw bu10
   have hL1:=hL1.blw bu10
   have hr1:=hr1.kn hk (fun _ q=>q.1)
   have x2:=x2.kn hk (by omega)
   clear hu10 hbk11
   refine⟨?_⟩
   go_simp
   rw [← Hu10.out]
   try simp only [← Kbk11.out]
   refine hKK.out _ _ (hK) (fun hS=>?_)
   clear hKK KK
   try simp only [Act.put,zg1,zg2,zg3,zs1,zs2,zs3]
   clear hk Hu10
   refine zr 4 rfl (fun KK hKK=>?_)
   refine⟨?_⟩
   have cc:=cD.out u10 _ hL1
   go_simp
   refine cc.mono ?_
   rintro e u12 ⟨vu12,rfl,hvu12,bu12⟩
   obtain⟨ra3,rc3,ka3,kc3,sa3,sc3,rfl,ht3⟩:=hvu12.form
   have hT3:=(ht3.value).bt (g:=g) (by have:=hM.lt;omega)
   have hk:Kn (Ng g) u10 u12:=Kn.of_below bu12
   have hszu12:=hk.size
   have hK:=hK.trans hk
   have hM:=hM.blw bu12
   have hr1:=hr1.kn hk (fun _ q=>q.1)
   have x2:=x2.kn hk (by omega)
   have zu10:=zu10.kn hk (by omega)
   clear cc hvu12 ht3
   refine hKK.out _ _ (hK) (fun hS=>?_)
   clear hKK KK
   try simp only [Act.put,zg1,zg2,zg3,zs1,zs2,zs3]
   clear hk
   refine zk 5 (.agg #[.int .i64 D.kind,.int .i64 D.n,.string D.name,.slice ra3 D.r.length rc3,.slice ka3 D.kids.length kc3,.slice sa3 D.sys.length sc3]) rfl (by rfl) (fun w hS=>by go_simp) hS ?_
   try simp only [Act.put,zg1,zg2,zg3,zs1,zs2,zs3]
   refine zk 6 (.int .i64 eD) rfl (by rfl) (fun w hS=>by go_simp) hS ?_
   try simp only [Act.put,zg1,zg2,zg3,zs1,zs2,zs3]
   refine zr 7 rfl (fun KK hKK=>?_)
   refine⟨?_⟩
   have cc:=mpart_any g f eD D.kind D.n D.name ra3 D.r.length rc3 ka3 D.kids.length kc3 sa3 D.sys.length sc3 u12 hM
   go_simp
   refine cc.mono ?_
   rintro e u13 ⟨rfl,hMu13,hk⟩
   have hK:=hK.trans hk
   have hr1:=hr1.kn hk (fun _ q=>q.1)
   have x2:=x2.kn hk (by omega)
   have zu10:=zu10.kn hk (by omega)
   have hT3:=hT3.kn hk (fun _ q=>q.1)
   have hM:=hMu13
   have hszu13:=hk.size
   clear cc
   refine hKK.out _ _ (hK) (fun hS=>?_)
   clear hKK KK
   try simp only [Act.put,zg1,zg2,zg3,zs1,zs2,zs3]
   clear hk
   refine zr 9 rfl (fun KK hKK=>?_)
   obtain⟨w914,hwz,zz2,kz,o0,o1,o2,o3,o4,o5,f0,f1,f2,f3,f4,f5⟩:=zst zu10 (.int .i64 D.kind) (.int .i64 D.n) (.string D.name) (.slice ra3 D.r.length rc3) (.slice ka3 D.kids.length kc3) (.slice sa3 D.sys.length sc3)
   have Hwz:Hid (_=_):=hwz
   clear hwz
   have hTt:TmIn Tt w914 D (.agg #[.int .i64 D.kind,.int .i64 D.n,.string D.name,.slice ra3 D.r.length rc3,.slice ka3 D.kids.length kc3,.slice sa3 D.sys.length sc3]):=(hT3.kn kz (fun _ q=>by have:=q.2.1;have:=q.2.2;omega)).tt
   have hM:=hM.kn kz (by omega)
   have hr1:=hr1.kn kz (fun _ q=>by have:=q.2.2;omega)
   have x2:=x2.kn kz (by omega)
   have hK:=hK.new kz (by omega)
   clear kz
   refine⟨?_⟩
   go_simp
   rw [← Hwz.out]
   refine hKK.out _ _ (hK) (fun hS=>?_)
   clear hKK KK
   try simp only [Act.put,zg1,zg2,zg3,zs1,zs2,zs3]
   refine wpAnyH_done (by kernel_rfl) ?_ _
   go_wp2_with fail
   go_meet
   exact⟨_,_,_,_,_,_,_,rfl,by omega,zz2,hTt,hr1,x2,hM,hK⟩
 case rest =>
 obtain⟨o,ra3,rc3,ka3,kc3,sa3,sc3,rfl,ho,x3,hD3,hr3,x4,hM3,hk3⟩:=hcut
 obtain⟨w2,hw2⟩:∃ V,V=wc:=⟨_,rfl⟩
 subst hw2
 have hsz3:=hk3.size
 clear hM hM1 hL1 hr1 x2 cD HS1
 have hM:=hM3
 have hr1:=hr3
 have hL1:=hD3
 clear hM3 hr3 hD3
 go_upto_region 2 with fail
 refine wp_region_held_drew (S:=fun V=>Six V o (.int .i64 D.kind) (.int .i64 D.n) (.string D.name) (.slice ra3 D.r.length rc3) (.slice ka3 D.kids.length kc3) (.slice sa3 D.sys.length sc3)) (by kernel_rfl) ⟨x3.blk⟩ (fun hS=>?_)
 obtain⟨wd,hwd⟩:∃ V,V=w2.drew:=⟨_,rfl⟩
 have hkd:Kn (Ng g) w2 wd:=by rw [hwd];exact (Kn.refl _ _).drew
 have hszd:w2.heap.size≤wd.heap.size:=hkd.size
 have hbd:Below w2.heap.size w2 wd:=by rw [hwd];exact (Below.refl _ _).drew
 have hK:Kn (Ng g) w2 w2:=Kn.refl _ _
 rw [← hwd] at hS ⊢
 clear hwd
 have hK:=hK.trans hkd
 have hM:=hM.blw hbd
 have hL1:=hL1.blw hbd
 have hr1:=hr1.kn hkd (fun _ q=>q.1)
 have x4:=x4.kn hkd (by omega)
 have x3:=x3.kn hkd (by omega)
 clear hkd hbd
 refine zk 0 (.pointer (some ⟨g,0,none⟩)) rfl (by rfl) (fun w hS=>by go_simp) hS ?_
 try simp only [Act.put,zg1,zg2,zg3,zs1,zs2,zs3]
 refine zk 1 (.pointer (some ⟨g,0,none⟩)) rfl (by rfl) (fun w hS=>by go_simp) hS ?_
 try simp only [Act.put,zg1,zg2,zg3,zs1,zs2,zs3]
 refine zk 2 (.pointer (some ⟨g,0,none⟩)) rfl (by rfl) (fun w hS=>by go_simp) hS ?_
 try simp only [Act.put,zg1,zg2,zg3,zs1,zs2,zs3]
 refine zk 3 (.agg #[.int .i64 D.kind,.int .i64 D.n,.string D.name,.slice ra3 D.r.length rc3,.slice ka3 D.kids.length kc3,.slice sa3 D.sys.length sc3]) rfl (by rfl) (fun w hS=>by obtain⟨y0,y1,y2,y3,y4,y5,_⟩:=hS.cells;go_simp) hS ?_
 try simp only [Act.put,zg1,zg2,zg3,zs1,zs2,zs3]
 refine zk 4 (.slice va LR vc) rfl (by rfl) (fun w hS=>by go_simp) hS ?_
 try simp only [Act.put,zg1,zg2,zg3,zs1,zs2,zs3]
 refine zr 5 rfl (fun KK hKK=>?_)
 refine⟨?_⟩
 have cc:=cT.out wd _ _ hL1 hr1.tt
 go_simp
 refine cc.mono ?_
 rintro e u1 ⟨vu1,rfl,hvu1,bu1⟩
 obtain⟨ra5,rc5,ka5,kc5,sa5,sc5,rfl,ht5⟩:=hvu1.form
 have hT5:=(ht5.value).bt (g:=g) (by have:=hM.lt;omega)
 have hk:Kn (Ng g) wd u1:=Kn.of_below bu1
 have hszu1:=hk.size
 have hK:=hK.trans hk
 have hM:=hM.blw bu1
 have hr1:=hr1.kn hk (fun _ q=>q.1)
 have x4:=x4.kn hk (by omega)
 have x3:=x3.kn hk (by omega)
 clear cc hvu1 ht5
 refine hKK.out _ _ (x3) (fun hS=>?_)
 clear hKK KK
 try simp only [Act.put,zg1,zg2,zg3,zs1,zs2,zs3]
 clear hk
 refine zk 6 (.agg #[.int .i64 F.kind,.int .i64 F.n,.string F.name,.slice ra5 F.r.length rc5,.slice ka5 F.kids.length kc5,.slice sa5 F.sys.length sc5]) rfl (by rfl) (fun w hS=>by go_simp) hS ?_
 try simp only [Act.put,zg1,zg2,zg3,zs1,zs2,zs3]
 refine zk 7 (.int .i64 eF) rfl (by rfl) (fun w hS=>by go_simp) hS ?_
 try simp only [Act.put,zg1,zg2,zg3,zs1,zs2,zs3]
 refine zr 8 rfl (fun KK hKK=>?_)
 refine⟨?_⟩
 have cc:=mpart_any g (fstE f eD) eF F.kind F.n F.name ra5 F.r.length rc5 ka5 F.kids.length kc5 sa5 F.sys.length sc5 u1 hM
 go_simp
 refine cc.mono ?_
 rintro e u2 ⟨rfl,hMu2,hk⟩
 have hK:=hK.trans hk
 have hr1:=hr1.kn hk (fun _ q=>q.1)
 have x4:=x4.kn hk (by omega)
 have x3:=x3.kn hk (by omega)
 have hT5:=hT5.kn hk (fun _ q=>q.1)
 have hM:=hMu2
 have hszu2:=hk.size
 clear cc
 refine hKK.out _ _ (x3) (fun hS=>?_)
 clear hKK KK
 try simp only [Act.put,zg1,zg2,zg3,zs1,zs2,zs3]
 clear hk
 refine zr 9 rfl (fun KK hKK=>?_)
 obtain⟨w93,hwz,zz2,kz,o0,o1,o2,o3,o4,o5,f0,f1,f2,f3,f4,f5⟩:=zst x4 (.int .i64 F.kind) (.int .i64 F.n) (.string F.name) (.slice ra5 F.r.length rc5) (.slice ka5 F.kids.length kc5) (.slice sa5 F.sys.length sc5)
 have Hwz:Hid (_=_):=hwz
 clear hwz
 have hTf:Hid (TmIn (Bt g X w93.heap.size) w93 F (.agg #[.int .i64 F.kind,.int .i64 F.n,.string F.name,.slice ra5 F.r.length rc5,.slice ka5 F.kids.length kc5,.slice sa5 F.sys.length sc5])):=(hT5.kn kz (fun _ q=>by have:=q.2.1;omega)).up fun q h=>⟨h.1,by have:=h.2.1;omega,by have:=kz.size;have:=h.2.2;omega⟩
 have hMn:=hM.kn kz (by omega)
 have hKf:Kn (Ng g) w w93:=(((Kn.of_below Hb1.out).trans hk3).trans hK).new kz (by rw [← HX.out];omega)
 have x3:=x3.kn kz (by omega)
 obtain⟨h0,h1,h2,h3,h4,h5,_⟩:=zz2.cells
 refine⟨?_⟩
 go_simp
 rw [← Hwz.out]
 refine hKK.out _ _ (x3) (fun hS=>?_)
 clear hKK KK
 try simp only [Act.put,zg1,zg2,zg3,zs1,zs2,zs3]
 refine wpAnyH_done (by kernel_rfl) ?_ _
 go_wp2_with fail
 exact bodyPost_ret (v:=.agg #[.int .i64 F.kind,.int .i64 F.n,.string F.name,.slice ra5 F.r.length rc5,.slice ka5 F.kids.length kc5,.slice sa5 F.sys.length sc5]) (by simp only [results,Tryz.results35];simp [go_sem,h0,h1,h2,h3,h4,h5]) rfl ⟨_,rfl,hTf.out,hMn,hKf⟩
end Go.Proofs.YtmblbmdchinflaaGreat
