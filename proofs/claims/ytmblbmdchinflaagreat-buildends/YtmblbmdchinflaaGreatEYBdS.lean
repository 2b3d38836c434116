/- Along a line, from its beginning, from its end. -/
import Derived.Test.YtmblbmdchinflaaGreatEG27
import Derived.Test.YtmblbmdchinflaaGreatEG5
import Derived.Test.YtmblbmdchinflaaGreatEYBdR
import Derived.Test.YtmblbmdchinflaaGreatEYBdP
set_option linter.unusedVariables false
set_option linter.unusedSimpArgs false
set_option maxRecDepth 100000
set_option maxHeartbeats 4000000
namespace Go.Proofs.YtmblbmdchinflaaGreat
open Go.RowKit
def runE (line:Tm) (phi:List C) (a:Tm):Int:=alongE line phi a [negB 0] [e2 0 1]
def runT (line:Tm) (phi:List C) (a:Tm):Tm:=alongT line phi a [negB 0] [e2 0 1]
def backE (line:Tm) (phi:List C) (a:Tm):Int:=alongE line phi a [posB 0] [negB 0,posB 1]
def backT (line:Tm) (phi:List C) (a:Tm):Tm:=alongT line phi a [posB 0] [negB 0,posB 1]
theorem run_any (hLA:LAll) (line:Tm) (v1:Value) (phi:List C) (vp:Value) (a:Tm) (v2:Value) (w:World) (h1:TmIn Tt w line v1) (h2:TmIn Tt w a v2) (hp:ClRow Tt w phi vp) (hb1:blk line≤150) (hb2:blk a≤150) (hpl:phi.length≤40000) :
  Calls Tryz.prog 16 #[v1,vp,v2] w fun e w'=>∃ v',e=.returned (.tuple #[v',.int .i64 (runE line phi a)])∧TmIn (fun q=>w.heap.size≤q) w' (runT line phi a) v'∧Below w.heap.size w w':=by
 have HE:Hid (runE line phi a=alongE line phi a [negB 0] [e2 0 1]∧runT line phi a=alongT line phi a [negB 0] [e2 0 1]):=⟨rfl,rfl⟩
 have htm:meetF [posB 1] [posB 0]=([e2 0 1],0):=by decide +kernel
 obtain⟨pa,pc,e3,_⟩:=id hp
 subst e3
 obtain⟨ra1,rc1,ka1,kc1,sa1,sc1,rfl,ht1⟩:=h1.form
 obtain⟨ra2,rc2,ka2,kc2,sa2,sc2,rfl,ht2⟩:=h2.form
 obtain⟨w1,hw1⟩:∃ W,W=((w.alloc (.cells #[.int .i64 line.kind,.int .i64 line.n,.string line.name,.slice ra1 line.r.length rc1,.slice ka1 line.kids.length kc1,.slice sa1 line.sys.length sc1] 26)).alloc (.cells #[.int .i64 a.kind,.int .i64 a.n,.string a.name,.slice ra2 a.r.length rc2,.slice ka2 a.kids.length kc2,.slice sa2 a.sys.length sc2] 26)).alloc (.cells #[.int .i64 0,.int .i64 0,.string ⟨#[]⟩,.slice none 0 0,.slice none 0 0,.slice none 0 0] 26):=⟨_,rfl⟩
 have b1:Below w.heap.size w w1:=by rw [hw1];exact bchain (bchain (belowA _ _) (belowA _ _)) (belowA _ _)
 obtain⟨X,hX⟩:∃ X,X=w.heap.size:=⟨_,rfl⟩
 have s1:w1.heap.size=X+3:=by rw [hw1,hX];simp
 have x1:Six w1 (X) (.int .i64 line.kind) (.int .i64 line.n) (.string line.name) (.slice ra1 line.r.length rc1) (.slice ka1 line.kids.length kc1) (.slice sa1 line.sys.length sc1):=⟨by
  rw [hX,hw1]
  have q:=heapNew w (.cells #[.int .i64 line.kind,.int .i64 line.n,.string line.name,.slice ra1 line.r.length rc1,.slice ka1 line.kids.length kc1,.slice sa1 line.sys.length sc1] 26)
  try simp only [World.size_alloc] at q
  exact heapBox _ (heapBox _ (q))⟩
 have x2:Six w1 (X+1) (.int .i64 a.kind) (.int .i64 a.n) (.string a.name) (.slice ra2 a.r.length rc2) (.slice ka2 a.kids.length kc2) (.slice sa2 a.sys.length sc2):=⟨by
  rw [hX,hw1]
  have q:=heapNew (w.alloc (.cells #[.int .i64 line.kind,.int .i64 line.n,.string line.name,.slice ra1 line.r.length rc1,.slice ka1 line.kids.length kc1,.slice sa1 line.sys.length sc1] 26)) (.cells #[.int .i64 a.kind,.int .i64 a.n,.string a.name,.slice ra2 a.r.length rc2,.slice ka2 a.kids.length kc2,.slice sa2 a.sys.length sc2] 26)
  try simp only [World.size_alloc] at q
  exact heapBox _ (q)⟩
 have x3:Six w1 (X+2) (.int .i64 0) (.int .i64 0) (.string ⟨#[]⟩) (.slice none 0 0) (.slice none 0 0) (.slice none 0 0):=⟨by
  rw [hX,hw1]
  have q:=heapNew ((w.alloc (.cells #[.int .i64 line.kind,.int .i64 line.n,.string line.name,.slice ra1 line.r.length rc1,.slice ka1 line.kids.length kc1,.slice sa1 line.sys.length sc1] 26)).alloc (.cells #[.int .i64 a.kind,.int .i64 a.n,.string a.name,.slice ra2 a.r.length rc2,.slice ka2 a.kids.length kc2,.slice sa2 a.sys.length sc2] 26)) (.cells #[.int .i64 0,.int .i64 0,.string ⟨#[]⟩,.slice none 0 0,.slice none 0 0,.slice none 0 0] 26)
  try simp only [World.size_alloc] at q
  exact q⟩
 obtain⟨w2,hw2⟩:∃ W,W=w1.alloc (.cells #[.int .i64 0] 59):=⟨_,rfl⟩
 have b2:Below w1.heap.size w1 w2:=by rw [hw2];exact belowA _ _
 have s2:w2.heap.size=X+4:=by rw [hw2];simp [s1]
 obtain⟨g,hg⟩:∃ g,g=X+3:=⟨_,rfl⟩
 have hM:Mk w2 g 0:=⟨⟨_,by rw [hg,hw2,← s1];exact heapNew _ _⟩⟩
 have b12:=bchain b1 b2
 have hgn:∀ q,q<w.heap.size→q≠g:=fun q hq=>by rw [hg,hX];omega
 have h1:=(h1.lt' (ok':=Ng g) (fun q _ hs=>hgn q hs)).blw b12
 have h2:=(h2.lt' (ok':=Ng g) (fun q _ hs=>hgn q hs)).blw b12
 have hp:=(hp.lt' (ok':=Ng g) (fun q _ hs=>hgn q hs)).blw b12
 have x1:=x1.blw b2
 have x2:=x2.blw b2
 have x3:=x3.blw b2
 obtain⟨PL,hPL⟩:∃ L,L=phi.length:=⟨_,rfl⟩
 rw [← hPL] at hp ⊢
 have cA:Hid (∀ V v v' ve vr,Mk V g 0→TmIn (Ng g) V line v→TmIn (Ng g) V a v'→ClRow (Ng g) V phi (.slice pa PL pc)→ClRow (Ng g) V [negB 0] ve→ClRow (Ng g) V [e2 0 1] vr→Calls Tryz.prog 50 #[.pointer (some ⟨g,0,none⟩),v,.slice pa PL pc,v',ve,vr] V fun e w'=>∃ v',e=.returned (.tuple #[v',.int .i64 (runE line phi a)])∧TmIn (Bt g V.heap.size w'.heap.size) w' (runT line phi a) v'∧Kn (Ng g) V w'):=fun V v v' ve vr q1 q2 q3 q4 q5 q6=>malong_any hLA g line v phi _ a v' _ ve _ vr V q1 q2 q3 q4 q5 q6 hb1 hb2 hpl (by decide) (by decide)
 obtain⟨RE,hRE⟩:∃ e,e=runE line phi a:=⟨_,rfl⟩
 obtain⟨RT,hRT⟩:∃ e,e=runT line phi a:=⟨_,rfl⟩
 rw [← hRE,← hRT] at cA ⊢
 have HW:Hid (_=_):=hw1
 have H2:Hid (_=_):=hw2
 have HX:Hid (X=w.heap.size):=hX
 have Hg:Hid (g=X+3):=hg
 have hgX:X+3≤g∧g<X+4:=by omega
 have Hb:Hid (Below w.heap.size w w2):=b12
 clear hw1 hw2 hX hg b1 b2 b12 hgn HE hRE hRT hPL hb1 hb2 hpl ht1 ht2
 go_enter Tryz.func16,Tryz.ntmps16
 go_upto_region 1 with fail
 rw [← HW.out]
 simp only [← HX.out]
 clear HW
 go_upto_region 2 with fail
 rw [← H2.out]
 simp only [← Hg.out]
 clear H2
 refine wp_region_held_drew (S:=fun V=>Six V X (.int .i64 line.kind) (.int .i64 line.n) (.string line.name) (.slice ra1 line.r.length rc1) (.slice ka1 line.kids.length kc1) (.slice sa1 line.sys.length sc1)∧Six V (X+1) (.int .i64 a.kind) (.int .i64 a.n) (.string a.name) (.slice ra2 a.r.length rc2) (.slice ka2 a.kids.length kc2) (.slice sa2 a.sys.length sc2)) (by kernel_rfl) ⟨⟨x1.blk⟩,⟨x2.blk⟩⟩ (fun hS=>?_)
 obtain⟨wd,hwd⟩:∃ V,V=w2.drew:=⟨_,rfl⟩
 have hkd:Kn (Ng g) w2 wd:=by rw [hwd];exact (Kn.refl _ _).drew
 have hszd:w2.heap.size≤wd.heap.size:=hkd.size
 have hbd:Below w2.heap.size w2 wd:=by rw [hwd];exact (Below.refl _ _).drew
 have hK:Kn (Ng g) w2 w2:=Kn.refl _ _
 rw [← hwd] at hS ⊢
 clear hwd
 have hK:=hK.trans hkd
 have hM:=hM.blw hbd
 have h1:=h1.kn hkd (fun _ q=>q)
 have h2:=h2.kn hkd (fun _ q=>q)
 have hp:=hp.kn hkd (fun _ q=>q)
 have x1:=x1.kn hkd (by omega)
 have x2:=x2.kn hkd (by omega)
 have x3:=x3.kn hkd (by omega)
 clear hkd hbd
 refine zk 0 (.agg #[.int .i64 line.kind,.int .i64 line.n,.string line.name,.slice ra1 line.r.length rc1,.slice ka1 line.kids.length kc1,.slice sa1 line.sys.length sc1]) rfl (by rfl) (fun w hS=>by obtain⟨y0,y1,y2,y3,y4,y5,_⟩:=hS.1.cells;go_simp) hS ?_
 try simp only [Act.put,zg1,zg2,zg3,zs1,zs2,zs3]
 refine zk 1 (.slice pa PL pc) rfl (by rfl) (fun w hS=>by go_simp) hS ?_
 try simp only [Act.put,zg1,zg2,zg3,zs1,zs2,zs3]
 refine zk 2 (.agg #[.int .i64 a.kind,.int .i64 a.n,.string a.name,.slice ra2 a.r.length rc2,.slice ka2 a.kids.length kc2,.slice sa2 a.sys.length sc2]) rfl (by rfl) (fun w hS=>by obtain⟨y0,y1,y2,y3,y4,y5,_⟩:=hS.2.cells;go_simp) hS ?_
 try simp only [Act.put,zg1,zg2,zg3,zs1,zs2,zs3]
 refine zk 4 (.pointer (some ⟨g,0,none⟩)) rfl (by rfl) (fun w hS=>by go_simp) hS ?_
 try simp only [Act.put,zg1,zg2,zg3,zs1,zs2,zs3]
 refine zr 3 rfl (fun KK hKK=>?_)
 refine⟨?_⟩
 have cc:=misZero_any g 0 wd hM
 go_simp
 refine cc.mono ?_
 rintro e u1 ⟨vu1,rfl,hRu1,hMu1,hk⟩
 obtain⟨au1,cu1,eu1,_⟩:=id hRu1
 simp only [List.length_cons,List.length_nil,Nat.zero_add] at eu1
 subst eu1
 have hK:=hK.trans hk
 have h1:=h1.kn hk (fun _ q=>q)
 have h2:=h2.kn hk (fun _ q=>q)
 have hp:=hp.kn hk (fun _ q=>q)
 have x1:=x1.kn hk (by omega)
 have x2:=x2.kn hk (by omega)
 have x3:=x3.kn hk (by omega)
 have hM:=hMu1
 have hszu1:=hk.size
 clear cc
 refine hKK.out _ _ (⟨x1,x2⟩) (fun hS=>?_)
 clear hKK KK
 try simp only [Act.put,zg1,zg2,zg3,zs1,zs2,zs3]
 clear hk
 refine zr 5 rfl (fun KK hKK=>?_)
 refine⟨?_⟩
 have cc:=mi_any g 0 u1 hM
 go_simp
 refine cc.mono ?_
 rintro e u2 ⟨vu2,rfl,hRu2,hMu2,hk⟩
 obtain⟨au2,cu2,eu2,_⟩:=id hRu2
 simp only [List.length_cons,List.length_nil,Nat.zero_add] at eu2
 subst eu2
 have hK:=hK.trans hk
 have h1:=h1.kn hk (fun _ q=>q)
 have h2:=h2.kn hk (fun _ q=>q)
 have hp:=hp.kn hk (fun _ q=>q)
 have x1:=x1.kn hk (by omega)
 have x2:=x2.kn hk (by omega)
 have x3:=x3.kn hk (by omega)
 have hRu1:=hRu1.kn hk (fun _ q=>q.1)
 have hM:=hMu2
 have hszu2:=hk.size
 clear cc
 refine hKK.out _ _ (⟨x1,x2⟩) (fun hS=>?_)
 clear hKK KK
 try simp only [Act.put,zg1,zg2,zg3,zs1,zs2,zs3]
 clear hk
 refine zr 6 rfl (fun KK hKK=>?_)
 refine⟨?_⟩
 have cc:=mj_any g 0 u2 hM
 go_simp
 refine cc.mono ?_
 rintro e u3 ⟨vu3,rfl,hRu3,hMu3,hk⟩
 obtain⟨au3,cu3,eu3,_⟩:=id hRu3
 simp only [List.length_cons,List.length_nil,Nat.zero_add] at eu3
 subst eu3
 have hK:=hK.trans hk
 have h1:=h1.kn hk (fun _ q=>q)
 have h2:=h2.kn hk (fun _ q=>q)
 have hp:=hp.kn hk (fun _ q=>q)
 have x1:=x1.kn hk (by omega)
 have x2:=x2.kn hk (by omega)
 have x3:=x3.kn hk (by omega)
 have hRu1:=hRu1.kn hk (fun _ q=>q.1)
 have hRu2:=hRu2.kn hk (fun _ q=>q.1)
 have hM:=hMu3
 have hszu3:=hk.size
 clear cc
 refine hKK.out _ _ (⟨x1,x2⟩) (fun hS=>?_)
 clear hKK KK
 try simp only [Act.put,zg1,zg2,zg3,zs1,zs2,zs3]
 clear hk
 refine zr 7 rfl (fun KK hKK=>?_)
 refine⟨?_⟩
 have cc:=Meet_any [posB 1] [posB 0] _ _ u3 hRu2.tt.frow hRu3.tt.frow (by decide) (by decide)
 rw [htm] at cc
 dsimp only at cc
 go_simp
 refine cc.mono ?_
 rintro e u4 ⟨vu4,rfl,hOu4,bu4⟩
 obtain⟨au4,cu4,eu4⟩:=OwnsC.len hOu4
 simp only [List.length_cons,List.length_nil,Nat.zero_add] at eu4
 subst eu4
 have hRu4:ClRow (Bt g u3.heap.size u4.heap.size) u4 ([e2 0 1]) (.slice au4 1 cu4):=(OwnsC.okn hOu4).bt (g:=g) (by have:=hM.lt;omega)
 have hk:Kn (Ng g) u3 u4:=Kn.of_below bu4
 have hszu4:=hk.size
 have hK:=hK.trans hk
 have hM:=hM.blw bu4
 have h1:=h1.kn hk (fun _ q=>q)
 have h2:=h2.kn hk (fun _ q=>q)
 have hp:=hp.kn hk (fun _ q=>q)
 have x1:=x1.kn hk (by omega)
 have x2:=x2.kn hk (by omega)
 have x3:=x3.kn hk (by omega)
 have hRu1:=hRu1.kn hk (fun _ q=>q.1)
 have hRu2:=hRu2.kn hk (fun _ q=>q.1)
 have hRu3:=hRu3.kn hk (fun _ q=>q.1)
 clear cc hOu4
 refine hKK.out _ _ (⟨x1,x2⟩) (fun hS=>?_)
 clear hKK KK
 try simp only [Act.put,zg1,zg2,zg3,zs1,zs2,zs3]
 clear hk
 refine zk 8 (.slice au4 1 cu4) rfl (by rfl) (fun w hS=>by go_simp) hS ?_
 try simp only [Act.put,zg1,zg2,zg3,zs1,zs2,zs3]
 refine zk 9 (.int .i64 0) rfl (by rfl) (fun w hS=>by go_simp) hS ?_
 try simp only [Act.put,zg1,zg2,zg3,zs1,zs2,zs3]
 refine zr 10 rfl (fun KK hKK=>?_)
 refine⟨?_⟩
 have cc:=mrow_any g 0 0 au4 1 cu4 u4 hM
 rw [fstE_none] at cc
 go_simp
 refine cc.mono ?_
 rintro e u5 ⟨rfl,hMu5,hk⟩
 have hK:=hK.trans hk
 have h1:=h1.kn hk (fun _ q=>q)
 have h2:=h2.kn hk (fun _ q=>q)
 have hp:=hp.kn hk (fun _ q=>q)
 have x1:=x1.kn hk (by omega)
 have x2:=x2.kn hk (by omega)
 have x3:=x3.kn hk (by omega)
 have hRu1:=hRu1.kn hk (fun _ q=>q.1)
 have hRu2:=hRu2.kn hk (fun _ q=>q.1)
 have hRu3:=hRu3.kn hk (fun _ q=>q.1)
 have hRu4:=hRu4.kn hk (fun _ q=>q.1)
 have hM:=hMu5
 have hszu5:=hk.size
 clear cc
 refine hKK.out _ _ (⟨x1,x2⟩) (fun hS=>?_)
 clear hKK KK
 try simp only [Act.put,zg1,zg2,zg3,zs1,zs2,zs3]
 clear hk
 refine zr 11 rfl (fun KK hKK=>?_)
 refine⟨?_⟩
 have cc:=cA.out u5 _ _ _ _ hM h1 h2 hp (hRu1.lt' fun q h _=>h.1) (hRu4.lt' fun q h _=>h.1)
 go_simp
 refine cc.mono ?_
 rintro e u6 ⟨vu6,rfl,hvu6,hk⟩
 obtain⟨ra8,rc8,ka8,kc8,sa8,sc8,rfl,ht8⟩:=hvu6.form
 have hT8:=ht8.value
 have hK:=hK.trans hk
 have x1:=x1.kn hk (by omega)
 have x2:=x2.kn hk (by omega)
 have x3:=x3.kn hk (by omega)
 have hszu6:=hk.size
 clear cc hvu6 ht8
 refine hKK.out _ _ (⟨x1,x2⟩) (fun hS=>?_)
 clear hKK KK
 try simp only [Act.put,zg1,zg2,zg3,zs1,zs2,zs3]
 clear hk
 refine zk 12 (.agg #[.int .i64 RT.kind,.int .i64 RT.n,.string RT.name,.slice ra8 RT.r.length rc8,.slice ka8 RT.kids.length kc8,.slice sa8 RT.sys.length sc8]) rfl (by rfl) (fun w hS=>by go_simp) hS ?_
 try simp only [Act.put,zg1,zg2,zg3,zs1,zs2,zs3]
 refine zk 13 (.int .i64 RE) rfl (by rfl) (fun w hS=>by go_simp) hS ?_
 try simp only [Act.put,zg1,zg2,zg3,zs1,zs2,zs3]
 refine zr 14 rfl (fun KK hKK=>?_)
 obtain⟨w97,hwz,zz2,kz,o0,o1,o2,o3,o4,o5,f0,f1,f2,f3,f4,f5⟩:=zst x3 (.int .i64 RT.kind) (.int .i64 RT.n) (.string RT.name) (.slice ra8 RT.r.length rc8) (.slice ka8 RT.kids.length kc8) (.slice sa8 RT.sys.length sc8)
 have Hwz:Hid (_=_):=hwz
 clear hwz
 have hTf:Hid (TmIn (fun q=>X≤q) w97 RT (.agg #[.int .i64 RT.kind,.int .i64 RT.n,.string RT.name,.slice ra8 RT.r.length rc8,.slice ka8 RT.kids.length kc8,.slice sa8 RT.sys.length sc8])):=(hT8.kn kz (fun _ q=>by have:=q.2.1;omega)).up fun q h=>by have:=h.2.1;omega
 have hKf:Below X w w97:=by
  have q1:Kn (fun q=>q<X) w2 w97:=(hK.sub (fun q h=>by show q≠g;omega)).trans (kz.sub (fun q h=>by omega))
  have q2:=(Kn.of_below (No:=fun q=>q<X) Hb.out).trans q1
  exact q2.below (fun q h=>h) (by rw [HX.out];exact Nat.le_refl _)
 have x1:=x1.kn kz (by omega)
 have x2:=x2.kn kz (by omega)
 obtain⟨g0,g1,g2,g3,g4,g5,_⟩:=zz2.cells
 refine⟨?_⟩
 go_simp
 rw [← Hwz.out]
 refine hKK.out _ _ (⟨x1,x2⟩) (fun hS=>?_)
 clear hKK KK
 try simp only [Act.put,zg1,zg2,zg3,zs1,zs2,zs3]
 refine zk 15 (.int .i64 RE) rfl (by rfl) (fun w hS=>by go_simp) hS ?_
 try simp only [Act.put,zg1,zg2,zg3,zs1,zs2,zs3]
 refine wpAnyH_done (by kernel_rfl) ?_ _
 go_wp2_with fail
 exact bodyPost_ret (v:=.tuple #[.agg #[.int .i64 RT.kind,.int .i64 RT.n,.string RT.name,.slice ra8 RT.r.length rc8,.slice ka8 RT.kids.length kc8,.slice sa8 RT.sys.length sc8],.int .i64 RE]) (by simp only [results,Tryz.results16];simp [go_sem,g0,g1,g2,g3,g4,g5]) rfl ⟨_,rfl,by rw [← HX.out];exact hTf.out,by rw [← HX.out];exact hKf⟩
theorem back_any (hLA:LAll) (line:Tm) (v1:Value) (phi:List C) (vp:Value) (a:Tm) (v2:Value) (w:World) (h1:TmIn Tt w line v1) (h2:TmIn Tt w a v2) (hp:ClRow Tt w phi vp) (hb1:blk line≤150) (hb2:blk a≤150) (hpl:phi.length≤40000) :
  Calls Tryz.prog 17 #[v1,vp,v2] w fun e w'=>∃ v',e=.returned (.tuple #[v',.int .i64 (backE line phi a)])∧TmIn (fun q=>w.heap.size≤q) w' (backT line phi a) v'∧Below w.heap.size w w':=by
 have HE:Hid (backE line phi a=alongE line phi a [posB 0] [negB 0,posB 1]∧backT line phi a=alongT line phi a [posB 0] [negB 0,posB 1]):=⟨rfl,rfl⟩
 have htn:notF [posB 0]=([negB 0],0):=by decide +kernel
 have htj:joinF [posB 1] [negB 0]=([negB 0,posB 1],0):=by decide +kernel
 obtain⟨pa,pc,e3,_⟩:=id hp
 subst e3
 obtain⟨ra1,rc1,ka1,kc1,sa1,sc1,rfl,ht1⟩:=h1.form
 obtain⟨ra2,rc2,ka2,kc2,sa2,sc2,rfl,ht2⟩:=h2.form
 obtain⟨w1,hw1⟩:∃ W,W=((w.alloc (.cells #[.int .i64 line.kind,.int .i64 line.n,.string line.name,.slice ra1 line.r.length rc1,.slice ka1 line.kids.length kc1,.slice sa1 line.sys.length sc1] 26)).alloc (.cells #[.int .i64 a.kind,.int .i64 a.n,.string a.name,.slice ra2 a.r.length rc2,.slice ka2 a.kids.length kc2,.slice sa2 a.sys.length sc2] 26)).alloc (.cells #[.int .i64 0,.int .i64 0,.string ⟨#[]⟩,.slice none 0 0,.slice none 0 0,.slice none 0 0] 26):=⟨_,rfl⟩
 have b1:Below w.heap.size w w1:=by rw [hw1];exact bchain (bchain (belowA _ _) (belowA _ _)) (belowA _ _)
 obtain⟨X,hX⟩:∃ X,X=w.heap.size:=⟨_,rfl⟩
 have s1:w1.heap.size=X+3:=by rw [hw1,hX];simp
 have x1:Six w1 (X) (.int .i64 line.kind) (.int .i64 line.n) (.string line.name) (.slice ra1 line.r.length rc1) (.slice ka1 line.kids.length kc1) (.slice sa1 line.sys.length sc1):=⟨by
  rw [hX,hw1]
  have q:=heapNew w (.cells #[.int .i64 line.kind,.int .i64 line.n,.string line.name,.slice ra1 line.r.length rc1,.slice ka1 line.kids.length kc1,.slice sa1 line.sys.length sc1] 26)
  try simp only [World.size_alloc] at q
  exact heapBox _ (heapBox _ (q))⟩
 have x2:Six w1 (X+1) (.int .i64 a.kind) (.int .i64 a.n) (.string a.name) (.slice ra2 a.r.length rc2) (.slice ka2 a.kids.length kc2) (.slice sa2 a.sys.length sc2):=⟨by
  rw [hX,hw1]
  have q:=heapNew (w.alloc (.cells #[.int .i64 line.kind,.int .i64 line.n,.string line.name,.slice ra1 line.r.length rc1,.slice ka1 line.kids.length kc1,.slice sa1 line.sys.length sc1] 26)) (.cells #[.int .i64 a.kind,.int .i64 a.n,.string a.name,.slice ra2 a.r.length rc2,.slice ka2 a.kids.length kc2,.slice sa2 a.sys.length sc2] 26)
  try simp only [World.size_alloc] at q
  exact heapBox _ (q)⟩
 have x3:Six w1 (X+2) (.int .i64 0) (.int .i64 0) (.string ⟨#[]⟩) (.slice none 0 0) (.slice none 0 0) (.slice none 0 0):=⟨by
  rw [hX,hw1]
  have q:=heapNew ((w.alloc (.cells #[.int .i64 line.kind,.int .i64 line.n,.string line.name,.slice ra1 line.r.length rc1,.slice ka1 line.kids.length kc1,.slice sa1 line.sys.length sc1] 26)).alloc (.cells #[.int .i64 a.kind,.int .i64 a.n,.string a.name,.slice ra2 a.r.length rc2,.slice ka2 a.kids.length kc2,.slice sa2 a.sys.length sc2] 26)) (.cells #[.int .i64 0,.int .i64 0,.string ⟨#[]⟩,.slice none 0 0,.slice none 0 0,.slice none 0 0] 26)
  try simp only [World.size_alloc] at q
  exact q⟩
 obtain⟨w2,hw2⟩:∃ W,W=w1.alloc (.cells #[.int .i64 0] 59):=⟨_,rfl⟩
 have b2:Below w1.heap.size w1 w2:=by rw [hw2];exact belowA _ _
 have s2:w2.heap.size=X+4:=by rw [hw2];simp [s1]
 obtain⟨g,hg⟩:∃ g,g=X+3:=⟨_,rfl⟩
 have hM:Mk w2 g 0:=⟨⟨_,by rw [hg,hw2,← s1];exact heapNew _ _⟩⟩
 have b12:=bchain b1 b2
 have hgn:∀ q,q<w.heap.size→q≠g:=fun q hq=>by rw [hg,hX];omega
 have h1:=(h1.lt' (ok':=Ng g) (fun q _ hs=>hgn q hs)).blw b12
 have h2:=(h2.lt' (ok':=Ng g) (fun q _ hs=>hgn q hs)).blw b12
 have hp:=(hp.lt' (ok':=Ng g) (fun q _ hs=>hgn q hs)).blw b12
 have x1:=x1.blw b2
 have x2:=x2.blw b2
 have x3:=x3.blw b2
 obtain⟨PL,hPL⟩:∃ L,L=phi.length:=⟨_,rfl⟩
 rw [← hPL] at hp ⊢
 have cA:Hid (∀ V v v' ve vr,Mk V g 0→TmIn (Ng g) V line v→TmIn (Ng g) V a v'→ClRow (Ng g) V phi (.slice pa PL pc)→ClRow (Ng g) V [posB 0] ve→ClRow (Ng g) V [negB 0,posB 1] vr→Calls Tryz.prog 50 #[.pointer (some ⟨g,0,none⟩),v,.slice pa PL pc,v',ve,vr] V fun e w'=>∃ v',e=.returned (.tuple #[v',.int .i64 (backE line phi a)])∧TmIn (Bt g V.heap.size w'.heap.size) w' (backT line phi a) v'∧Kn (Ng g) V w'):=fun V v v' ve vr q1 q2 q3 q4 q5 q6=>malong_any hLA g line v phi _ a v' _ ve _ vr V q1 q2 q3 q4 q5 q6 hb1 hb2 hpl (by decide) (by decide)
 obtain⟨RE,hRE⟩:∃ e,e=backE line phi a:=⟨_,rfl⟩
 obtain⟨RT,hRT⟩:∃ e,e=backT line phi a:=⟨_,rfl⟩
 rw [← hRE,← hRT] at cA ⊢
 have HW:Hid (_=_):=hw1
 have H2:Hid (_=_):=hw2
 have HX:Hid (X=w.heap.size):=hX
 have Hg:Hid (g=X+3):=hg
 have hgX:X+3≤g∧g<X+4:=by omega
 have Hb:Hid (Below w.heap.size w w2):=b12
 clear hw1 hw2 hX hg b1 b2 b12 hgn HE hRE hRT hPL hb1 hb2 hpl ht1 ht2
 go_enter Tryz.func17,Tryz.ntmps17
 go_upto_region 1 with fail
 rw [← HW.out]
 simp only [← HX.out]
 clear HW
 go_upto_region 2 with fail
 rw [← H2.out]
 simp only [← Hg.out]
 clear H2
 refine wp_region_held_drew (S:=fun V=>Six V X (.int .i64 line.kind) (.int .i64 line.n) (.string line.name) (.slice ra1 line.r.length rc1) (.slice ka1 line.kids.length kc1) (.slice sa1 line.sys.length sc1)∧Six V (X+1) (.int .i64 a.kind) (.int .i64 a.n) (.string a.name) (.slice ra2 a.r.length rc2) (.slice ka2 a.kids.length kc2) (.slice sa2 a.sys.length sc2)) (by kernel_rfl) ⟨⟨x1.blk⟩,⟨x2.blk⟩⟩ (fun hS=>?_)
 obtain⟨wd,hwd⟩:∃ V,V=w2.drew:=⟨_,rfl⟩
 have hkd:Kn (Ng g) w2 wd:=by rw [hwd];exact (Kn.refl _ _).drew
 have hszd:w2.heap.size≤wd.heap.size:=hkd.size
 have hbd:Below w2.heap.size w2 wd:=by rw [hwd];exact (Below.refl _ _).drew
 have hK:Kn (Ng g) w2 w2:=Kn.refl _ _
 rw [← hwd] at hS ⊢
 clear hwd
 have hK:=hK.trans hkd
 have hM:=hM.blw hbd
 have h1:=h1.kn hkd (fun _ q=>q)
 have h2:=h2.kn hkd (fun _ q=>q)
 have hp:=hp.kn hkd (fun _ q=>q)
 have x1:=x1.kn hkd (by omega)
 have x2:=x2.kn hkd (by omega)
 have x3:=x3.kn hkd (by omega)
 clear hkd hbd
 refine zk 0 (.agg #[.int .i64 line.kind,.int .i64 line.n,.string line.name,.slice ra1 line.r.length rc1,.slice ka1 line.kids.length kc1,.slice sa1 line.sys.length sc1]) rfl (by rfl) (fun w hS=>by obtain⟨y0,y1,y2,y3,y4,y5,_⟩:=hS.1.cells;go_simp) hS ?_
 try simp only [Act.put,zg1,zg2,zg3,zs1,zs2,zs3]
 refine zk 1 (.slice pa PL pc) rfl (by rfl) (fun w hS=>by go_simp) hS ?_
 try simp only [Act.put,zg1,zg2,zg3,zs1,zs2,zs3]
 refine zk 2 (.agg #[.int .i64 a.kind,.int .i64 a.n,.string a.name,.slice ra2 a.r.length rc2,.slice ka2 a.kids.length kc2,.slice sa2 a.sys.length sc2]) rfl (by rfl) (fun w hS=>by obtain⟨y0,y1,y2,y3,y4,y5,_⟩:=hS.2.cells;go_simp) hS ?_
 try simp only [Act.put,zg1,zg2,zg3,zs1,zs2,zs3]
 refine zk 4 (.pointer (some ⟨g,0,none⟩)) rfl (by rfl) (fun w hS=>by go_simp) hS ?_
 try simp only [Act.put,zg1,zg2,zg3,zs1,zs2,zs3]
 refine zk 6 (.pointer (some ⟨g,0,none⟩)) rfl (by rfl) (fun w hS=>by go_simp) hS ?_
 try simp only [Act.put,zg1,zg2,zg3,zs1,zs2,zs3]
 refine zr 3 rfl (fun KK hKK=>?_)
 refine⟨?_⟩
 have cc:=misOne_any g 0 wd hM
 go_simp
 refine cc.mono ?_
 rintro e u1 ⟨vu1,rfl,hRu1,hMu1,hk⟩
 obtain⟨au1,cu1,eu1,_⟩:=id hRu1
 simp only [List.length_cons,List.length_nil,Nat.zero_add] at eu1
 subst eu1
 have hK:=hK.trans hk
 have h1:=h1.kn hk (fun _ q=>q)
 have h2:=h2.kn hk (fun _ q=>q)
 have hp:=hp.kn hk (fun _ q=>q)
 have x1:=x1.kn hk (by omega)
 have x2:=x2.kn hk (by omega)
 have x3:=x3.kn hk (by omega)
 have hM:=hMu1
 have hszu1:=hk.size
 clear cc
 refine hKK.out _ _ (⟨x1,x2⟩) (fun hS=>?_)
 clear hKK KK
 try simp only [Act.put,zg1,zg2,zg3,zs1,zs2,zs3]
 clear hk
 refine zr 5 rfl (fun KK hKK=>?_)
 refine⟨?_⟩
 have cc:=mi_any g 0 u1 hM
 go_simp
 refine cc.mono ?_
 rintro e u2 ⟨vu2,rfl,hRu2,hMu2,hk⟩
 obtain⟨au2,cu2,eu2,_⟩:=id hRu2
 simp only [List.length_cons,List.length_nil,Nat.zero_add] at eu2
 subst eu2
 have hK:=hK.trans hk
 have h1:=h1.kn hk (fun _ q=>q)
 have h2:=h2.kn hk (fun _ q=>q)
 have hp:=hp.kn hk (fun _ q=>q)
 have x1:=x1.kn hk (by omega)
 have x2:=x2.kn hk (by omega)
 have x3:=x3.kn hk (by omega)
 have hRu1:=hRu1.kn hk (fun _ q=>q.1)
 have hM:=hMu2
 have hszu2:=hk.size
 clear cc
 refine hKK.out _ _ (⟨x1,x2⟩) (fun hS=>?_)
 clear hKK KK
 try simp only [Act.put,zg1,zg2,zg3,zs1,zs2,zs3]
 clear hk
 refine zr 7 rfl (fun KK hKK=>?_)
 refine⟨?_⟩
 have cc:=mj_any g 0 u2 hM
 go_simp
 refine cc.mono ?_
 rintro e u3 ⟨vu3,rfl,hRu3,hMu3,hk⟩
 obtain⟨au3,cu3,eu3,_⟩:=id hRu3
 simp only [List.length_cons,List.length_nil,Nat.zero_add] at eu3
 subst eu3
 have hK:=hK.trans hk
 have h1:=h1.kn hk (fun _ q=>q)
 have h2:=h2.kn hk (fun _ q=>q)
 have hp:=hp.kn hk (fun _ q=>q)
 have x1:=x1.kn hk (by omega)
 have x2:=x2.kn hk (by omega)
 have x3:=x3.kn hk (by omega)
 have hRu1:=hRu1.kn hk (fun _ q=>q.1)
 have hRu2:=hRu2.kn hk (fun _ q=>q.1)
 have hM:=hMu3
 have hszu3:=hk.size
 clear cc
 refine hKK.out _ _ (⟨x1,x2⟩) (fun hS=>?_)
 clear hKK KK
 try simp only [Act.put,zg1,zg2,zg3,zs1,zs2,zs3]
 clear hk
 refine zr 8 rfl (fun KK hKK=>?_)
 refine⟨?_⟩
 have cc:=Not_any [posB 0] _ u3 hRu3.tt.frow (by decide)
 rw [htn] at cc
 dsimp only at cc
 go_simp
 refine cc.mono ?_
 rintro e u4 ⟨vu4,rfl,hOu4,bu4⟩
 obtain⟨au4,cu4,eu4⟩:=OwnsC.len hOu4
 simp only [List.length_cons,List.length_nil,Nat.zero_add] at eu4
 subst eu4
 have hRu4:ClRow (Bt g u3.heap.size u4.heap.size) u4 ([negB 0]) (.slice au4 1 cu4):=(OwnsC.okn hOu4).bt (g:=g) (by have:=hM.lt;omega)
 have hk:Kn (Ng g) u3 u4:=Kn.of_below bu4
 have hszu4:=hk.size
 have hK:=hK.trans hk
 have hM:=hM.blw bu4
 have h1:=h1.kn hk (fun _ q=>q)
 have h2:=h2.kn hk (fun _ q=>q)
 have hp:=hp.kn hk (fun _ q=>q)
 have x1:=x1.kn hk (by omega)
 have x2:=x2.kn hk (by omega)
 have x3:=x3.kn hk (by omega)
 have hRu1:=hRu1.kn hk (fun _ q=>q.1)
 have hRu2:=hRu2.kn hk (fun _ q=>q.1)
 have hRu3:=hRu3.kn hk (fun _ q=>q.1)
 clear cc hOu4
 refine hKK.out _ _ (⟨x1,x2⟩) (fun hS=>?_)
 clear hKK KK
 try simp only [Act.put,zg1,zg2,zg3,zs1,zs2,zs3]
 clear hk
 refine zk 9 (.slice au4 1 cu4) rfl (by rfl) (fun w hS=>by go_simp) hS ?_
 try simp only [Act.put,zg1,zg2,zg3,zs1,zs2,zs3]
 refine zk 10 (.int .i64 0) rfl (by rfl) (fun w hS=>by go_simp) hS ?_
 try simp only [Act.put,zg1,zg2,zg3,zs1,zs2,zs3]
 refine zr 11 rfl (fun KK hKK=>?_)
 refine⟨?_⟩
 have cc:=mrow_any g 0 0 au4 1 cu4 u4 hM
 rw [fstE_none] at cc
 go_simp
 refine cc.mono ?_
 rintro e u5 ⟨rfl,hMu5,hk⟩
 have hK:=hK.trans hk
 have h1:=h1.kn hk (fun _ q=>q)
 have h2:=h2.kn hk (fun _ q=>q)
 have hp:=hp.kn hk (fun _ q=>q)
 have x1:=x1.kn hk (by omega)
 have x2:=x2.kn hk (by omega)
 have x3:=x3.kn hk (by omega)
 have hRu1:=hRu1.kn hk (fun _ q=>q.1)
 have hRu2:=hRu2.kn hk (fun _ q=>q.1)
 have hRu3:=hRu3.kn hk (fun _ q=>q.1)
 have hRu4:=hRu4.kn hk (fun _ q=>q.1)
 have hM:=hMu5
 have hszu5:=hk.size
 clear cc
 refine hKK.out _ _ (⟨x1,x2⟩) (fun hS=>?_)
 clear hKK KK
 try simp only [Act.put,zg1,zg2,zg3,zs1,zs2,zs3]
 clear hk
 refine zr 12 rfl (fun KK hKK=>?_)
 refine⟨?_⟩
 have cc:=Join_any [posB 1] [negB 0] _ _ u5 hRu2.tt.frow hRu4.tt.frow (by decide) (by decide)
 rw [htj] at cc
 dsimp only at cc
 go_simp
 refine cc.mono ?_
 rintro e u6 ⟨vu6,rfl,hOu6,bu6⟩
 obtain⟨au6,cu6,eu6⟩:=OwnsC.len hOu6
 simp only [List.length_cons,List.length_nil,Nat.zero_add] at eu6
 subst eu6
 have hRu6:ClRow (Bt g u5.heap.size u6.heap.size) u6 ([negB 0,posB 1]) (.slice au6 2 cu6):=(OwnsC.okn hOu6).bt (g:=g) (by have:=hM.lt;omega)
 have hk:Kn (Ng g) u5 u6:=Kn.of_below bu6
 have hszu6:=hk.size
 have hK:=hK.trans hk
 have hM:=hM.blw bu6
 have h1:=h1.kn hk (fun _ q=>q)
 have h2:=h2.kn hk (fun _ q=>q)
 have hp:=hp.kn hk (fun _ q=>q)
 have x1:=x1.kn hk (by omega)
 have x2:=x2.kn hk (by omega)
 have x3:=x3.kn hk (by omega)
 have hRu1:=hRu1.kn hk (fun _ q=>q.1)
 have hRu2:=hRu2.kn hk (fun _ q=>q.1)
 have hRu3:=hRu3.kn hk (fun _ q=>q.1)
 have hRu4:=hRu4.kn hk (fun _ q=>q.1)
 clear cc hOu6
 refine hKK.out _ _ (⟨x1,x2⟩) (fun hS=>?_)
 clear hKK KK
 try simp only [Act.put,zg1,zg2,zg3,zs1,zs2,zs3]
 clear hk
 refine zk 13 (.slice au6 2 cu6) rfl (by rfl) (fun w hS=>by go_simp) hS ?_
 try simp only [Act.put,zg1,zg2,zg3,zs1,zs2,zs3]
 refine zk 14 (.int .i64 0) rfl (by rfl) (fun w hS=>by go_simp) hS ?_
 try simp only [Act.put,zg1,zg2,zg3,zs1,zs2,zs3]
 refine zr 15 rfl (fun KK hKK=>?_)
 refine⟨?_⟩
 have cc:=mrow_any g 0 0 au6 2 cu6 u6 hM
 rw [fstE_none] at cc
 go_simp
 refine cc.mono ?_
 rintro e u7 ⟨rfl,hMu7,hk⟩
 have hK:=hK.trans hk
 have h1:=h1.kn hk (fun _ q=>q)
 have h2:=h2.kn hk (fun _ q=>q)
 have hp:=hp.kn hk (fun _ q=>q)
 have x1:=x1.kn hk (by omega)
 have x2:=x2.kn hk (by omega)
 have x3:=x3.kn hk (by omega)
 have hRu1:=hRu1.kn hk (fun _ q=>q.1)
 have hRu2:=hRu2.kn hk (fun _ q=>q.1)
 have hRu3:=hRu3.kn hk (fun _ q=>q.1)
 have hRu4:=hRu4.kn hk (fun _ q=>q.1)
 have hRu6:=hRu6.kn hk (fun _ q=>q.1)
 have hM:=hMu7
 have hszu7:=hk.size
 clear cc
 refine hKK.out _ _ (⟨x1,x2⟩) (fun hS=>?_)
 clear hKK KK
 try simp only [Act.put,zg1,zg2,zg3,zs1,zs2,zs3]
 clear hk
 refine zr 16 rfl (fun KK hKK=>?_)
 refine⟨?_⟩
 have cc:=cA.out u7 _ _ _ _ hM h1 h2 hp (hRu1.lt' fun q h _=>h.1) (hRu6.lt' fun q h _=>h.1)
 go_simp
 refine cc.mono ?_
 rintro e u8 ⟨vu8,rfl,hvu8,hk⟩
 obtain⟨ra8,rc8,ka8,kc8,sa8,sc8,rfl,ht8⟩:=hvu8.form
 have hT8:=ht8.value
 have hK:=hK.trans hk
 have x1:=x1.kn hk (by omega)
 have x2:=x2.kn hk (by omega)
 have x3:=x3.kn hk (by omega)
 have hszu8:=hk.size
 clear cc hvu8 ht8
 refine hKK.out _ _ (⟨x1,x2⟩) (fun hS=>?_)
 clear hKK KK
 try simp only [Act.put,zg1,zg2,zg3,zs1,zs2,zs3]
 clear hk
 refine zk 17 (.agg #[.int .i64 RT.kind,.int .i64 RT.n,.string RT.name,.slice ra8 RT.r.length rc8,.slice ka8 RT.kids.length kc8,.slice sa8 RT.sys.length sc8]) rfl (by rfl) (fun w hS=>by go_simp) hS ?_
 try simp only [Act.put,zg1,zg2,zg3,zs1,zs2,zs3]
 refine zk 18 (.int .i64 RE) rfl (by rfl) (fun w hS=>by go_simp) hS ?_
 try simp only [Act.put,zg1,zg2,zg3,zs1,zs2,zs3]
 refine zr 19 rfl (fun KK hKK=>?_)
 obtain⟨w99,hwz,zz2,kz,o0,o1,o2,o3,o4,o5,f0,f1,f2,f3,f4,f5⟩:=zst x3 (.int .i64 RT.kind) (.int .i64 RT.n) (.string RT.name) (.slice ra8 RT.r.length rc8) (.slice ka8 RT.kids.length kc8) (.slice sa8 RT.sys.length sc8)
 have Hwz:Hid (_=_):=hwz
 clear hwz
 have hTf:Hid (TmIn (fun q=>X≤q) w99 RT (.agg #[.int .i64 RT.kind,.int .i64 RT.n,.string RT.name,.slice ra8 RT.r.length rc8,.slice ka8 RT.kids.length kc8,.slice sa8 RT.sys.length sc8])):=(hT8.kn kz (fun _ q=>by have:=q.2.1;omega)).up fun q h=>by have:=h.2.1;omega
 have hKf:Below X w w99:=by
  have q1:Kn (fun q=>q<X) w2 w99:=(hK.sub (fun q h=>by show q≠g;omega)).trans (kz.sub (fun q h=>by omega))
  have q2:=(Kn.of_below (No:=fun q=>q<X) Hb.out).trans q1
  exact q2.below (fun q h=>h) (by rw [HX.out];exact Nat.le_refl _)
 have x1:=x1.kn kz (by omega)
 have x2:=x2.kn kz (by omega)
 obtain⟨g0,g1,g2,g3,g4,g5,_⟩:=zz2.cells
 refine⟨?_⟩
 go_simp
 rw [← Hwz.out]
 refine hKK.out _ _ (⟨x1,x2⟩) (fun hS=>?_)
 clear hKK KK
 try simp only [Act.put,zg1,zg2,zg3,zs1,zs2,zs3]
 refine zk 20 (.int .i64 RE) rfl (by rfl) (fun w hS=>by go_simp) hS ?_
 try simp only [Act.put,zg1,zg2,zg3,zs1,zs2,zs3]
 refine wpAnyH_done (by kernel_rfl) ?_ _
 go_wp2_with fail
 exact bodyPost_ret (v:=.tuple #[.agg #[.int .i64 RT.kind,.int .i64 RT.n,.string RT.name,.slice ra8 RT.r.length rc8,.slice ka8 RT.kids.length kc8,.slice sa8 RT.sys.length sc8],.int .i64 RE]) (by simp only [results,Tryz.results17];simp [go_sem,g0,g1,g2,g3,g4,g5]) rfl ⟨_,rfl,by rw [← HX.out];exact hTf.out,by rw [← HX.out];exact hKf⟩
end Go.Proofs.YtmblbmdchinflaaGreat
