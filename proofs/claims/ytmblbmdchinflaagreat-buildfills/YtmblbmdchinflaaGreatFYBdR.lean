/- What goes along a line. -/
import Derived.Test.YtmblbmdchinflaaGreatFG27
import Derived.Test.YtmblbmdchinflaaGreatEG5
import Derived.Test.YtmblbmdchinflaaGreatFYBdN
import Derived.Test.YtmblbmdchinflaaGreatFG30
set_option linter.unusedVariables false
set_option linter.unusedSimpArgs false
set_option maxRecDepth 100000
set_option maxHeartbeats 4000000
namespace Go.Proofs.YtmblbmdchinflaaGreat
open Go.RowKit
theorem take_blk2 {r:List C} {t:Tm}:blk (takT 0 r t)≤65*blk t:=by
 have h1:=(cap_ge (ansD (putOp 0 (liftFF r 0 1).1) t)).1
 have h2:=cap_ans (putOp_len 0 (liftFF r 0 1).1) t
 have h3:=(cap_ge t).2
 have h0:blk noT=1:=by rw [blk_eq];simp [noT,blkL,blkS];rfl
 have hp:=blk_pos t
 unfold takT
 split
 ·split
  ·split
   ·have h4:=(cap_ge (ansD (dropOp 0) (ansD (putOp 0 (liftFF r 0 1).1) t))).1
    have h5:=cap_ans (dropOp_len 0) (ansD (putOp 0 (liftFF r 0 1).1) t)
    omega
   ·omega
  ·omega
 ·omega
theorem line_blk {r:List C} {t:Tm}:blk (lineT r t)≤65*blk t:=by
 have h1:=take_blk2 (r:=r) (t:=dimsT 1 2 t)
 have h2:=dims_blk (fr:=1) (by_:=2) (t:=t)
 unfold lineT
 omega
theorem both_blk {vs ds:Int} {t:Tm}:blk (bothT vs ds t)≤blk t:=by
 have h0:blk zeroT=1:=by rw [blk_eq];simp [zeroT,blkL,blkS];rfl
 have h1:=blk_pos t
 unfold bothT
 split
 ·exact Nat.le_trans (blk_li _ _ 0 0 (Nat.le_refl _)) (blk_li _ t 0 0 (Nat.le_refl _))
 ·omega
theorem jnA_len (f g:List C):(jnA f g).1.length≤64:=rightA_len (jnA_right f g)
def alJ (phi E:List C):List C × Int:=jnA (liftFF phi 0 1).1 E
def alT (line:Tm) (phi:List C) (a:Tm) (E r:List C):Tm:=.mk 14 0 ⟨#[]⟩ (alJ phi E).1 [lineT r line,bothT 0 1 a] []
def alF (line:Tm) (phi:List C) (a:Tm) (E r:List C):Int:=fstE (lineE (fstE (fstE 0 (liftFF phi 0 1).2) (alJ phi E).2) r line) (bothE 0 1 a)
def alongE (line:Tm) (phi:List C) (a:Tm) (E r:List C):Int:=if wrE [line,a]=0 then (if rightA phi=true then doneE (alF line phi a E r) (alT line phi a E r) else 2) else wrE [line,a]
def alongT (line:Tm) (phi:List C) (a:Tm) (E r:List C):Tm:=if wrE [line,a]=0 then (if rightA phi=true then doneT (alF line phi a E r) (alT line phi a E r) else zeroT) else zeroT
theorem al_blk {line a:Tm} {phi E r:List C} (h1:blk line≤150) (h2:blk a≤150):blk (alT line phi a E r)≤20000:=by
 have h3:=jnA_len (liftFF phi 0 1).1 E
 have h4:=line_blk (r:=r) (t:=line)
 have h5:=both_blk (vs:=0) (ds:=1) (t:=a)
 rw [blk_eq]
 unfold alT alJ
 simp [blkL,blkS]
 have h6:ByteArray.size ⟨#[]⟩=0:=rfl
 omega
theorem malong_any (hLA:LAll) (g:Nat) (line:Tm) (v1:Value) (phi:List C) (vp:Value) (a:Tm) (v2:Value) (E:List C) (ve:Value) (r:List C) (vr:Value) (w:World) (hM:Mk w g 0) (h1:TmIn (Ng g) w line v1) (h2:TmIn (Ng g) w a v2) (hp:ClRow (Ng g) w phi vp) (he:ClRow (Ng g) w E ve) (hr:ClRow (Ng g) w r vr) (hb1:blk line≤150) (hb2:blk a≤150) (hpl:phi.length≤40000) (hel:E.length≤40000) (hrl:r.length≤40000) :
  Calls Tryz.prog 50 #[.pointer (some ⟨g,0,none⟩),v1,vp,v2,ve,vr] w fun e w'=>∃ v',e=.returned (.tuple #[v',.int .i64 (alongE line phi a E r)])∧TmIn (Bt g w.heap.size w'.heap.size) w' (alongT line phi a E r) v'∧Kn (Ng g) w w':=by
 have HE:Hid (alongE line phi a E r=(if wrE [line,a]=0 then (if rightA phi=true then doneE (alF line phi a E r) (alT line phi a E r) else 2) else wrE [line,a])∧alongT line phi a E r=(if wrE [line,a]=0 then (if rightA phi=true then doneT (alF line phi a E r) (alT line phi a E r) else zeroT) else zeroT)):=⟨rfl,rfl⟩
 have HF:Hid (alF line phi a E r=fstE (lineE (fstE (fstE 0 (liftFF phi 0 1).2) (alJ phi E).2) r line) (bothE 0 1 a)∧alT line phi a E r=.mk 14 0 ⟨#[]⟩ (alJ phi E).1 [lineT r line,bothT 0 1 a] []):=⟨rfl,rfl⟩
 have hbA:blk (alT line phi a E r)≤20000:=al_blk hb1 hb2
 have hLl:=liftFF_len phi 0 1
 obtain⟨pa,pc,e3,_⟩:=id hp
 subst e3
 obtain⟨ea,ec,e3,_⟩:=id he
 subst e3
 obtain⟨fa,fc,e3,_⟩:=id hr
 subst e3
 obtain⟨ra1,rc1,ka1,kc1,sa1,sc1,rfl,ht1⟩:=h1.form
 obtain⟨ra2,rc2,ka2,kc2,sa2,sc2,rfl,ht2⟩:=h2.form
 obtain⟨w1,hw1⟩:∃ W,W=((w.alloc (.cells #[.int .i64 line.kind,.int .i64 line.n,.string line.name,.slice ra1 line.r.length rc1,.slice ka1 line.kids.length kc1,.slice sa1 line.sys.length sc1] 26)).alloc (.cells #[.int .i64 a.kind,.int .i64 a.n,.string a.name,.slice ra2 a.r.length rc2,.slice ka2 a.kids.length kc2,.slice sa2 a.sys.length sc2] 26)).alloc (.cells #[.int .i64 0,.int .i64 0,.string ⟨#[]⟩,.slice none 0 0,.slice none 0 0,.slice none 0 0] 26):=⟨_,rfl⟩
 have b1:Below w.heap.size w w1:=by rw [hw1];exact bchain (bchain (belowA _ _) (belowA _ _)) (belowA _ _)
 obtain⟨X,hX⟩:∃ X,X=w.heap.size:=⟨_,rfl⟩
 have s1:w1.heap.size=X+3:=by rw [hw1,hX];simp
 have x1:Six w1 (X) (.int .i64 line.kind) (.int .i64 line.n) (.string line.name) (.slice ra1 line.r.length rc1) (.slice ka1 line.kids.length kc1) (.slice sa1 line.sys.length sc1):=⟨by
  rw [hX,hw1]
  have q:=heapNew w (.cells #[.int .i64 line.kind,.int .i64 line.n,.string line.name,.slice ra1 line.r.length rc1,.slice ka1 line.kids.length kc1,.slice sa1 line.sys.length sc1] 26)
  try simp only [World.size_alloc] at q
  exact heapBox _ (heapBox _ (q))⟩
 have x2:Six w1 (X+1) (.int .i64 a.kind) (.int .i64 a.n) (.string a.name) (.slice ra2 a.r.length rc2) (.slice ka2 a.kids.length kc2) (.slice sa2 a.sys.length sc2):=⟨by
  rw [hX,hw1]
  have q:=heapNew (w.alloc (.cells #[.int .i64 line.kind,.int .i64 line.n,.string line.name,.slice ra1 line.r.length rc1,.slice ka1 line.kids.length kc1,.slice sa1 line.sys.length sc1] 26)) (.cells #[.int .i64 a.kind,.int .i64 a.n,.string a.name,.slice ra2 a.r.length rc2,.slice ka2 a.kids.length kc2,.slice sa2 a.sys.length sc2] 26)
  try simp only [World.size_alloc] at q
  exact heapBox _ (q)⟩
 have x3:Six w1 (X+2) (.int .i64 0) (.int .i64 0) (.string ⟨#[]⟩) (.slice none 0 0) (.slice none 0 0) (.slice none 0 0):=⟨by
  rw [hX,hw1]
  have q:=heapNew ((w.alloc (.cells #[.int .i64 line.kind,.int .i64 line.n,.string line.name,.slice ra1 line.r.length rc1,.slice ka1 line.kids.length kc1,.slice sa1 line.sys.length sc1] 26)).alloc (.cells #[.int .i64 a.kind,.int .i64 a.n,.string a.name,.slice ra2 a.r.length rc2,.slice ka2 a.kids.length kc2,.slice sa2 a.sys.length sc2] 26)) (.cells #[.int .i64 0,.int .i64 0,.string ⟨#[]⟩,.slice none 0 0,.slice none 0 0,.slice none 0 0] 26)
  try simp only [World.size_alloc] at q
  exact q⟩
 have hgX:g<X:=by rw [hX];exact hM.lt
 have hM1:=hM.blw b1
 have h11:=h1.blw b1
 have h21:=h2.blw b1
 have hp1:=hp.blw b1
 have he1:=he.blw b1
 have hr1:=hr.blw b1
 obtain⟨PL,hPL⟩:∃ L,L=phi.length:=⟨_,rfl⟩
 obtain⟨EL,hEL⟩:∃ L,L=E.length:=⟨_,rfl⟩
 obtain⟨RL,hRL⟩:∃ L,L=r.length:=⟨_,rfl⟩
 rw [← hPL] at hp1 ⊢
 rw [← hEL] at he1 ⊢
 rw [← hRL] at hr1 ⊢
 obtain⟨w2,hw2⟩:∃ W,W=w1.alloc (.cells #[.int .i64 line.kind,.int .i64 line.n,.string line.name,.slice ra1 line.r.length rc1,.slice ka1 line.kids.length kc1,.slice sa1 line.sys.length sc1,.int .i64 a.kind,.int .i64 a.n,.string a.name,.slice ra2 a.r.length rc2,.slice ka2 a.kids.length kc2,.slice sa2 a.sys.length sc2] 26):=⟨_,rfl⟩
 have b2:Below w1.heap.size w1 w2:=by rw [hw2];exact belowA _ _
 have hB2:w2.heap[X+3]? = some (.cells #[.int .i64 line.kind,.int .i64 line.n,.string line.name,.slice ra1 line.r.length rc1,.slice ka1 line.kids.length kc1,.slice sa1 line.sys.length sc1,.int .i64 a.kind,.int .i64 a.n,.string a.name,.slice ra2 a.r.length rc2,.slice ka2 a.kids.length kc2,.slice sa2 a.sys.length sc2] 26 (0,0)):=by rw [hw2,← s1];exact heapNew _ _
 have s2:w2.heap.size=X+4:=by rw [hw2];simp [s1]
 have hk2:=kd_two hB2 (ok:=Tt) trivial (h11.blw b2).tt (h21.blw b2).tt
 have cw:=mwrong_any [line,a] _ w2 hk2 (by intro x hx;simp at hx;rcases hx with rfl | rfl <;> omega) (by simp)
 have hM2:=hM1.blw b2
 have h12:=h11.blw b2
 have h22:=h21.blw b2
 have hp2:=hp1.blw b2
 have he2:=he1.blw b2
 have hr2:=hr1.blw b2
 have z1:=x1.blw b2
 have z2:=x2.blw b2
 have z3:=x3.blw b2
 have cRt:Hid (∀ V,ClRow Tt V phi (.slice pa PL pc)→Calls Tryz.prog 95 #[.slice pa PL pc] V fun e w'=>e=.returned (.bool (rightA phi))∧Below V.heap.size V w'):=fun V q=>aright_any phi _ V q.frow (by omega)
 have cJ:Hid (∀ V v L,ClRow Tt V (liftFF phi 0 1).1 v→ClRow Tt V E (.slice ea EL ec)→L=(liftFF phi 0 1).1→Calls Tryz.prog 96 #[v,.slice ea EL ec] V fun e w'=>∃ v',e=.returned (.tuple #[v',.int .i64 (alJ phi E).2])∧OwnsC w' V.heap.size v' (alJ phi E).1∧Below V.heap.size V w'):=fun V v L q1 q2 _=>AJoin_any _ _ _ _ V q1.frow q2.frow (by omega) hel
 have cU:Hid (∀ V f,Mk V g f→ClRow Tt V phi (.slice pa PL pc)→Calls Tryz.prog 34 #[.pointer (some ⟨g,0,none⟩),.slice pa PL pc] V fun e w'=>∃ v',e=.returned v'∧ClRow (Bt g V.heap.size w'.heap.size) w' (liftFF phi 0 1).1 v'∧Mk w' g (fstE f (liftFF phi 0 1).2)∧Kn (Ng g) V w'):=fun V f q1 q2=>mup_any g f phi _ V q1 q2 hpl
 have cW:Hid (∀ V v f,Mk V g f→TmIn Tt V line v→ClRow (Ng g) V r (.slice fa RL fc)→Calls Tryz.prog 35 #[.pointer (some ⟨g,0,none⟩),v,.slice fa RL fc] V fun e w'=>∃ v',e=.returned v'∧TmIn (Bt g V.heap.size w'.heap.size) w' (lineT r line) v'∧Mk w' g (lineE f r line)∧Kn (Ng g) V w'):=fun V v f q1 q2 q3=>mwithin_any hLA g f line v r _ V q1 q2 (by omega) q3 hrl
 have cB:Hid (∀ V v f,Mk V g f→TmIn Tt V a v→Calls Tryz.prog 32 #[.pointer (some ⟨g,0,none⟩),v,.int .i64 0,.int .i64 1] V fun e w'=>∃ v',e=.returned v'∧TmIn (Bt g V.heap.size w'.heap.size) w' (bothT 0 1 a) v'∧Mk w' g (fstE f (bothE 0 1 a))∧Kn (Ng g) V w'):=fun V v f q1 q2=>mlifted_any hLA g f a v 0 1 V q1 q2 (by omega)
 have cDn:Hid (∀ V v f,Mk V g f→TmIn Tt V (alT line phi a E r) v→TmIn (Ng g) V (alT line phi a E r) v→Calls Tryz.prog 41 #[.pointer (some ⟨g,0,none⟩),v] V fun e w'=>∃ v',e=.returned (.tuple #[v',.int .i64 (doneE f (alT line phi a E r))])∧TmIn (Bt g V.heap.size w'.heap.size) w' (doneT f (alT line phi a E r)) v'∧Kn (Ng g) V w'):=fun V v f q1 q2 q3=>mdone_any g f _ v V q1 q2 q3 hbA
 obtain⟨EW,hEW⟩:∃ e,e=wrE [line,a]:=⟨_,rfl⟩
 rw [← hEW] at cw HE
 obtain⟨LU,hLU⟩:∃ e,e=liftFF phi 0 1:=⟨_,rfl⟩
 obtain⟨J,hJ⟩:∃ e,e=alJ phi E:=⟨_,rfl⟩
 obtain⟨TF,hTF⟩:∃ e,e=lineT r line:=⟨_,rfl⟩
 obtain⟨TB,hTB⟩:∃ e,e=bothT 0 1 a:=⟨_,rfl⟩
 obtain⟨eB,heB⟩:∃ e,e=bothE 0 1 a:=⟨_,rfl⟩
 obtain⟨AT,hAT⟩:∃ e,e=alT line phi a E r:=⟨_,rfl⟩
 obtain⟨AF,hAF⟩:∃ e,e=alF line phi a E r:=⟨_,rfl⟩
 rw [← hAF,← hAT,← hLU,← hJ,← hTF,← hTB,← heB] at HF
 rw [← hAF,← hAT] at HE
 rw [← hLU,← hJ] at cJ
 rw [← hLU] at cU
 rw [← hTF] at cW
 rw [← hTB,← heB] at cB
 rw [← hAT] at cDn
 have HW:Hid (_=_):=hw1
 have H2:Hid (_=_):=hw2
 have HX:Hid (X=w.heap.size):=hX
 have Hb1:Hid (Below w.heap.size w w2):=bchain b1 b2
 clear hw1 hX hM b1 b2 hw2 h1 h2 hp he hr hM1 h11 h21 hp1 he1 hr1 hk2 hB2 hbA hLl hb1 hb2 hpl hel hrl hPL hEL hRL hEW hLU hJ hTF hTB heB hAT hAF
 go_enter Tryz.func50,Tryz.ntmps50
 go_upto_region 1 with fail
 rw [← HW.out]
 simp only [← HX.out]
 clear HW
 obtain⟨y0,y1,y2,y3,y4,y5,_⟩:=x1.cells
 obtain⟨q0,q1,q2,q3,q4,q5,_⟩:=x2.cells
 go_wp2_with fail
 rw [← H2.out]
 refine cw.mono ?_
 rintro e w3 ⟨rfl,b3⟩
 clear cw H2 y0 y1 y2 y3 y4 y5 q0 q1 q2 q3 q4 q5 x1 x2 x3
 have hM:=hM2.blw b3
 have h1:=h12.blw b3
 have h2:=h22.blw b3
 have hp:=hp2.blw b3
 have he:=he2.blw b3
 have hr:=hr2.blw b3
 have x1:=z1.blw b3
 have x2:=z2.blw b3
 have x3:=z3.blw b3
 have hs3:=b3.size
 have Hb3:Hid (Below w.heap.size w w3):=bchain Hb1.out b3
 clear hM2 h12 h22 hp2 he2 hr2 z1 z2 z3 b3 Hb1
 by_cases hz:EW=0
 rotate_left
 ·have hz1:(EW == 0)=false:=by simpa using hz
  have zz:=x3
  have Hf:Hid (alongE line phi a E r=EW∧alongT line phi a E r=zeroT):=⟨by rw [HE.out.1,if_neg hz],by rw [HE.out.2,if_neg hz]⟩
  obtain⟨w9,hwz,zz2,kz,o0,o1,o2,o3,o4,o5,f0,f1,f2,f3,f4,f5⟩:=zst zz (.int .i64 0) (.int .i64 0) (.string ⟨#[]⟩) (.slice none 0 0) (.slice none 0 0) (.slice none 0 0)
  have hKf:Kn (Ng g) w w9:=(Kn.of_below Hb3.out).new kz (by rw [← HX.out];omega)
  obtain⟨h0,h1',h2',h3,h4,h5,_⟩:=zz2.cells
  have Hwz:Hid (_=_):=hwz
  clear hwz kz zz zz2
  go_wp2_with fail
  rw [← Hwz.out]
  exact bodyPost_ret (v:=.tuple #[.agg #[.int .i64 0,.int .i64 0,.string ⟨#[]⟩,.slice none 0 0,.slice none 0 0,.slice none 0 0],.int .i64 (EW)]) (by simp only [results,Tryz.results50];simp [go_sem,h0,h1',h2',h3,h4,h5]) rfl ⟨_,by rw [Hf.out.1],by rw [Hf.out.2];exact zeroT_in _ _,hKf⟩
 subst hz
 have cr:=cRt.out w3 (hp.tt)
 go_wp2_with fail
 refine cr.mono ?_
 rintro e w4 ⟨rfl,b4⟩
 clear cr
 have hM:=hM.blw b4
 have h1:=h1.blw b4
 have h2:=h2.blw b4
 have hp:=hp.blw b4
 have he:=he.blw b4
 have hr:=hr.blw b4
 have x1:=x1.blw b4
 have x2:=x2.blw b4
 have x3:=x3.blw b4
 have hs4:=b4.size
 have Hb4:Hid (Below w.heap.size w w4):=bchain Hb3.out b4
 clear b4 Hb3 cRt
 obtain⟨RA,hRA⟩:∃ b,b=rightA phi:=⟨_,rfl⟩
 rw [← hRA] at HE ⊢
 clear hRA
 cases RA
 ·skip
  have zz:=x3
  have Hf:Hid (alongE line phi a E r=2∧alongT line phi a E r=zeroT):=⟨by rw [HE.out.1];simp,by rw [HE.out.2];simp⟩
  obtain⟨w9,hwz,zz2,kz,o0,o1,o2,o3,o4,o5,f0,f1,f2,f3,f4,f5⟩:=zst zz (.int .i64 0) (.int .i64 0) (.string ⟨#[]⟩) (.slice none 0 0) (.slice none 0 0) (.slice none 0 0)
  have hKf:Kn (Ng g) w w9:=(Kn.of_below Hb4.out).new kz (by rw [← HX.out];omega)
  obtain⟨h0,h1',h2',h3,h4,h5,_⟩:=zz2.cells
  have Hwz:Hid (_=_):=hwz
  clear hwz kz zz zz2
  go_wp2_with fail
  rw [← Hwz.out]
  exact bodyPost_ret (v:=.tuple #[.agg #[.int .i64 0,.int .i64 0,.string ⟨#[]⟩,.slice none 0 0,.slice none 0 0,.slice none 0 0],.int .i64 (2)]) (by simp only [results,Tryz.results50];simp [go_sem,h0,h1',h2',h3,h4,h5]) rfl ⟨_,by rw [Hf.out.1],by rw [Hf.out.2];exact zeroT_in _ _,hKf⟩
 have Hf:Hid (alongE line phi a E r=doneE AF AT∧alongT line phi a E r=doneT AF AT):=⟨by rw [HE.out.1];simp,by rw [HE.out.2];simp⟩
 clear HE
 go_upto_region 6 with fail
 refine wp_region_held_drew (S:=fun V=>Kn (Ng g) w4 V) (by kernel_rfl) ((Kn.refl _ _).drew) (fun hS=>?_)
 obtain⟨wd,hwd⟩:∃ V,V=w4.drew:=⟨_,rfl⟩
 have hkd:Kn (Ng g) w4 wd:=by rw [hwd];exact (Kn.refl _ _).drew
 have hszd:w4.heap.size≤wd.heap.size:=hkd.size
 have hbd:Below w4.heap.size w4 wd:=by rw [hwd];exact (Below.refl _ _).drew
 have hK:Kn (Ng g) w4 w4:=Kn.refl _ _
 rw [← hwd] at hS ⊢
 clear hwd
 have hK:=hK.trans hkd
 have hM:=hM.blw hbd
 have h1:=h1.kn hkd (fun _ q=>q)
 have h2:=h2.kn hkd (fun _ q=>q)
 have hp:=hp.kn hkd (fun _ q=>q)
 have he:=he.kn hkd (fun _ q=>q)
 have hr:=hr.kn hkd (fun _ q=>q)
 have x1:=x1.kn hkd (by omega)
 have x2:=x2.kn hkd (by omega)
 have x3:=x3.kn hkd (by omega)
 clear hkd hbd
 refine zk 0 (.pointer (some ⟨g,0,none⟩)) rfl (by rfl) (fun w hS=>by go_simp) hS ?_
 try simp only [Act.put,zg1,zg2,zg3,zs1,zs2,zs3]
 refine zk 1 (.pointer (some ⟨g,0,none⟩)) rfl (by rfl) (fun w hS=>by go_simp) hS ?_
 try simp only [Act.put,zg1,zg2,zg3,zs1,zs2,zs3]
 refine zk 2 (.pointer (some ⟨g,0,none⟩)) rfl (by rfl) (fun w hS=>by go_simp) hS ?_
 try simp only [Act.put,zg1,zg2,zg3,zs1,zs2,zs3]
 refine zk 3 (.pointer (some ⟨g,0,none⟩)) rfl (by rfl) (fun w hS=>by go_simp) hS ?_
 try simp only [Act.put,zg1,zg2,zg3,zs1,zs2,zs3]
 refine zk 4 (.slice pa PL pc) rfl (by rfl) (fun w hS=>by go_simp) hS ?_
 try simp only [Act.put,zg1,zg2,zg3,zs1,zs2,zs3]
 refine zk 6 (.slice ea EL ec) rfl (by rfl) (fun w hS=>by go_simp) hS ?_
 try simp only [Act.put,zg1,zg2,zg3,zs1,zs2,zs3]
 refine zr 5 rfl (fun KK hKK=>?_)
 refine⟨?_⟩
 have cc:=cU.out wd 0 hM hp.tt
 go_simp
 refine cc.mono ?_
 rintro e u1 ⟨vu1,rfl,hRu1,hMu1,hk⟩
 obtain⟨au1,cu1,eu1,_⟩:=id hRu1
 subst eu1
 have hK:=hK.trans hk
 have h1:=h1.kn hk (fun _ q=>q)
 have h2:=h2.kn hk (fun _ q=>q)
 have hp:=hp.kn hk (fun _ q=>q)
 have he:=he.kn hk (fun _ q=>q)
 have hr:=hr.kn hk (fun _ q=>q)
 have x1:=x1.kn hk (by omega)
 have x2:=x2.kn hk (by omega)
 have x3:=x3.kn hk (by omega)
 have hM:=hMu1
 have hszu1:=hk.size
 clear cc
 refine hKK.out _ _ (hK) (fun hS=>?_)
 clear hKK KK
 try simp only [Act.put,zg1,zg2,zg3,zs1,zs2,zs3]
 clear hk
 refine zr 7 rfl (fun KK hKK=>?_)
 refine⟨?_⟩
 have cc:=cJ.out u1 _ _ hRu1.tt he.tt rfl
 go_simp
 refine cc.mono ?_
 rintro e u2 ⟨vu2,rfl,hOu2,bu2⟩
 obtain⟨au2,cu2,eu2⟩:=OwnsC.len hOu2
 subst eu2
 have hRu2:ClRow (Bt g u1.heap.size u2.heap.size) u2 J.1 (.slice au2 J.1.length cu2):=(OwnsC.okn hOu2).bt (g:=g) (by have:=hM.lt;omega)
 have hk:Kn (Ng g) u1 u2:=Kn.of_below bu2
 have hszu2:=hk.size
 have hK:=hK.trans hk
 have hM:=hM.blw bu2
 have h1:=h1.kn hk (fun _ q=>q)
 have h2:=h2.kn hk (fun _ q=>q)
 have hp:=hp.kn hk (fun _ q=>q)
 have he:=he.kn hk (fun _ q=>q)
 have hr:=hr.kn hk (fun _ q=>q)
 have x1:=x1.kn hk (by omega)
 have x2:=x2.kn hk (by omega)
 have x3:=x3.kn hk (by omega)
 have hRu1:=hRu1.kn hk (fun _ q=>q.1)
 clear cc hOu2
 refine hKK.out _ _ (hK) (fun hS=>?_)
 clear hKK KK
 try simp only [Act.put,zg1,zg2,zg3,zs1,zs2,zs3]
 clear hk
 refine zk 8 (.slice au2 J.1.length cu2) rfl (by rfl) (fun w hS=>by go_simp) hS ?_
 try simp only [Act.put,zg1,zg2,zg3,zs1,zs2,zs3]
 refine zk 9 (.int .i64 J.2) rfl (by rfl) (fun w hS=>by go_simp) hS ?_
 try simp only [Act.put,zg1,zg2,zg3,zs1,zs2,zs3]
 refine zr 10 rfl (fun KK hKK=>?_)
 refine⟨?_⟩
 have cc:=mrow_any g (fstE 0 LU.2) J.2 au2 J.1.length cu2 u2 hM
 go_simp
 refine cc.mono ?_
 rintro e u3 ⟨rfl,hMu3,hk⟩
 have hK:=hK.trans hk
 have h1:=h1.kn hk (fun _ q=>q)
 have h2:=h2.kn hk (fun _ q=>q)
 have hp:=hp.kn hk (fun _ q=>q)
 have he:=he.kn hk (fun _ q=>q)
 have hr:=hr.kn hk (fun _ q=>q)
 have x1:=x1.kn hk (by omega)
 have x2:=x2.kn hk (by omega)
 have x3:=x3.kn hk (by omega)
 have hRu1:=hRu1.kn hk (fun _ q=>q.1)
 have hRu2:=hRu2.kn hk (fun _ q=>q.1)
 have hM:=hMu3
 have hszu3:=hk.size
 clear cc
 refine hKK.out _ _ (hK) (fun hS=>?_)
 clear hKK KK
 try simp only [Act.put,zg1,zg2,zg3,zs1,zs2,zs3]
 clear hk
 refine zk 11 (.slice au2 J.1.length cu2) rfl (by rfl) (fun w hS=>by go_simp) hS ?_
 try simp only [Act.put,zg1,zg2,zg3,zs1,zs2,zs3]
 refine wpAnyH_done (by kernel_rfl) ?_ _
 obtain⟨w5,hw5⟩:∃ V,V=u3:=⟨_,rfl⟩
 have hJr:ClRow (Ng g) u3 J.1 (.slice au2 J.1.length cu2):=hRu2.lt' fun q h _=>h.1
 rw [← hw5] at hM hJr h1 h2 hp he hr x1 x2 x3 hK ⊢
 have hs5:w4.heap.size≤w5.heap.size:=hK.size
 have Hk5:Hid (Kn (Ng g) w w5):=(Kn.of_below Hb4.out).trans hK
 clear hw5 hS hK
 go_upto_region 7 with fail
 refine wp_region_held_drew (S:=fun V=>Six V X (.int .i64 line.kind) (.int .i64 line.n) (.string line.name) (.slice ra1 line.r.length rc1) (.slice ka1 line.kids.length kc1) (.slice sa1 line.sys.length sc1)∧Six V (X+1) (.int .i64 a.kind) (.int .i64 a.n) (.string a.name) (.slice ra2 a.r.length rc2) (.slice ka2 a.kids.length kc2) (.slice sa2 a.sys.length sc2)) (by kernel_rfl) ⟨⟨x1.blk⟩,⟨x2.blk⟩⟩ (fun hS=>?_)
 obtain⟨wd,hwd⟩:∃ V,V=w5.drew:=⟨_,rfl⟩
 have hkd:Kn (Ng g) w5 wd:=by rw [hwd];exact (Kn.refl _ _).drew
 have hszd:w5.heap.size≤wd.heap.size:=hkd.size
 have hbd:Below w5.heap.size w5 wd:=by rw [hwd];exact (Below.refl _ _).drew
 have hK:Kn (Ng g) w5 w5:=Kn.refl _ _
 rw [← hwd] at hS ⊢
 clear hwd
 have hK:=hK.trans hkd
 have hM:=hM.blw hbd
 have h1:=h1.kn hkd (fun _ q=>q)
 have h2:=h2.kn hkd (fun _ q=>q)
 have hr:=hr.kn hkd (fun _ q=>q)
 have hJr:=hJr.kn hkd (fun _ q=>q)
 have x1:=x1.kn hkd (by omega)
 have x2:=x2.kn hkd (by omega)
 have x3:=x3.kn hkd (by omega)
 clear hkd hbd
 refine zk 0 (.pointer (some ⟨g,0,none⟩)) rfl (by rfl) (fun w hS=>by go_simp) hS ?_
 try simp only [Act.put,zg1,zg2,zg3,zs1,zs2,zs3]
 refine zk 1 (.pointer (some ⟨g,0,none⟩)) rfl (by rfl) (fun w hS=>by go_simp) hS ?_
 try simp only [Act.put,zg1,zg2,zg3,zs1,zs2,zs3]
 refine zk 2 (.pointer (some ⟨g,0,none⟩)) rfl (by rfl) (fun w hS=>by go_simp) hS ?_
 try simp only [Act.put,zg1,zg2,zg3,zs1,zs2,zs3]
 refine zk 3 (.slice au2 J.1.length cu2) rfl (by rfl) (fun w hS=>by go_simp) hS ?_
 try simp only [Act.put,zg1,zg2,zg3,zs1,zs2,zs3]
 refine zk 4 (.pointer (some ⟨g,0,none⟩)) rfl (by rfl) (fun w hS=>by go_simp) hS ?_
 try simp only [Act.put,zg1,zg2,zg3,zs1,zs2,zs3]
 refine zk 5 (.agg #[.int .i64 line.kind,.int .i64 line.n,.string line.name,.slice ra1 line.r.length rc1,.slice ka1 line.kids.length kc1,.slice sa1 line.sys.length sc1]) rfl (by rfl) (fun w hS=>by obtain⟨y0,y1,y2,y3,y4,y5,_⟩:=hS.1.cells;go_simp) hS ?_
 try simp only [Act.put,zg1,zg2,zg3,zs1,zs2,zs3]
 refine zk 6 (.slice fa RL fc) rfl (by rfl) (fun w hS=>by go_simp) hS ?_
 try simp only [Act.put,zg1,zg2,zg3,zs1,zs2,zs3]
 refine zk 8 (.pointer (some ⟨g,0,none⟩)) rfl (by rfl) (fun w hS=>by go_simp) hS ?_
 try simp only [Act.put,zg1,zg2,zg3,zs1,zs2,zs3]
 refine zk 9 (.pointer (some ⟨g,0,none⟩)) rfl (by rfl) (fun w hS=>by go_simp) hS ?_
 try simp only [Act.put,zg1,zg2,zg3,zs1,zs2,zs3]
 refine zk 10 (.pointer (some ⟨g,0,none⟩)) rfl (by rfl) (fun w hS=>by go_simp) hS ?_
 try simp only [Act.put,zg1,zg2,zg3,zs1,zs2,zs3]
 refine zk 11 (.agg #[.int .i64 a.kind,.int .i64 a.n,.string a.name,.slice ra2 a.r.length rc2,.slice ka2 a.kids.length kc2,.slice sa2 a.sys.length sc2]) rfl (by rfl) (fun w hS=>by obtain⟨y0,y1,y2,y3,y4,y5,_⟩:=hS.2.cells;go_simp) hS ?_
 try simp only [Act.put,zg1,zg2,zg3,zs1,zs2,zs3]
 refine zr 7 rfl (fun KK hKK=>?_)
 refine⟨?_⟩
 have cc:=cW.out wd _ _ hM h1.tt hr
 go_simp
 refine cc.mono ?_
 rintro e u1 ⟨vu1,rfl,hvu1,hMu1,hk⟩
 obtain⟨ra5,rc5,ka5,kc5,sa5,sc5,rfl,ht5⟩:=hvu1.form
 have hT5:=ht5.value
 have hK:=hK.trans hk
 have h1:=h1.kn hk (fun _ q=>q)
 have h2:=h2.kn hk (fun _ q=>q)
 have hr:=hr.kn hk (fun _ q=>q)
 have hJr:=hJr.kn hk (fun _ q=>q)
 have x1:=x1.kn hk (by omega)
 have x2:=x2.kn hk (by omega)
 have x3:=x3.kn hk (by omega)
 have hM:=hMu1
 have hszu1:=hk.size
 clear cc hvu1 ht5
 refine hKK.out _ _ (⟨x1,x2⟩) (fun hS=>?_)
 clear hKK KK
 try simp only [Act.put,zg1,zg2,zg3,zs1,zs2,zs3]
 clear hk
 refine zr 12 rfl (fun KK hKK=>?_)
 refine⟨?_⟩
 have cc:=cB.out u1 _ _ hM h2.tt
 go_simp
 refine cc.mono ?_
 rintro e u2 ⟨vu2,rfl,hvu2,hMu2,hk⟩
 obtain⟨ra6,rc6,ka6,kc6,sa6,sc6,rfl,ht6⟩:=hvu2.form
 have hT6:=ht6.value
 have hK:=hK.trans hk
 have h1:=h1.kn hk (fun _ q=>q)
 have h2:=h2.kn hk (fun _ q=>q)
 have hr:=hr.kn hk (fun _ q=>q)
 have hJr:=hJr.kn hk (fun _ q=>q)
 have x1:=x1.kn hk (by omega)
 have x2:=x2.kn hk (by omega)
 have x3:=x3.kn hk (by omega)
 have hT5:=hT5.kn hk (fun _ q=>q.1)
 have hM:=hMu2
 have hszu2:=hk.size
 clear cc hvu2 ht6
 refine hKK.out _ _ (⟨x1,x2⟩) (fun hS=>?_)
 clear hKK KK
 try simp only [Act.put,zg1,zg2,zg3,zs1,zs2,zs3]
 clear hk
 refine zr 13 rfl (fun KK hKK=>?_)
 refine⟨?_⟩
 have cc:=transp_any (Ng g) J.1 _ TF TB _ _ u2 hJr (hT5.up fun _ h=>h.1) (hT6.up fun _ h=>h.1)
 rw [← HF.out.2] at cc
 go_simp
 refine cc.mono ?_
 rintro e u3 ⟨vu3,rfl,hvu3,bu3⟩
 obtain⟨ra7,rc7,ka7,kc7,sa7,sc7,rfl,ht7⟩:=hvu3.form
 have hk:Kn (Ng g) u2 u3:=Kn.of_below bu3
 have hT7:TmIn (Ng g) u3 AT _:=ht7.value.up (fun q h=>by rcases h with h | h;exact h;have:=hM.lt;show q≠g;omega)
 have hK:=hK.trans hk
 have hM:=hM.blw bu3
 have h1:=h1.kn hk (fun _ q=>q)
 have h2:=h2.kn hk (fun _ q=>q)
 have hr:=hr.kn hk (fun _ q=>q)
 have x1:=x1.kn hk (by omega)
 have x2:=x2.kn hk (by omega)
 have x3:=x3.kn hk (by omega)
 have hszu3:=hk.size
 clear cc hvu3 ht7
 refine hKK.out _ _ (⟨x1,x2⟩) (fun hS=>?_)
 clear hKK KK
 try simp only [Act.put,zg1,zg2,zg3,zs1,zs2,zs3]
 clear hk
 refine zr 14 rfl (fun KK hKK=>?_)
 refine⟨?_⟩
 have cc:=cDn.out u3 _ _ hM hT7.tt hT7
 rw [← HF.out.1] at cc
 go_simp
 refine cc.mono ?_
 rintro e u4 ⟨vu4,rfl,hvu4,hk⟩
 obtain⟨DT,hDT⟩:∃ T,T=doneT AF AT:=⟨_,rfl⟩
 obtain⟨DE,hDE⟩:∃ T,T=doneE AF AT:=⟨_,rfl⟩
 have HD:Hid (DT=doneT AF AT∧DE=doneE AF AT):=⟨hDT,hDE⟩
 rw [← hDT] at hvu4
 rw [← hDE]
 clear hDT hDE
 obtain⟨ra8,rc8,ka8,kc8,sa8,sc8,rfl,ht8⟩:=hvu4.form
 have hT8:=ht8.value
 have hK:=hK.trans hk
 have h1:=h1.kn hk (fun _ q=>q)
 have h2:=h2.kn hk (fun _ q=>q)
 have hr:=hr.kn hk (fun _ q=>q)
 have x1:=x1.kn hk (by omega)
 have x2:=x2.kn hk (by omega)
 have x3:=x3.kn hk (by omega)
 have hszu4:=hk.size
 clear cc hvu4 ht8
 refine hKK.out _ _ (⟨x1,x2⟩) (fun hS=>?_)
 clear hKK KK
 try simp only [Act.put,zg1,zg2,zg3,zs1,zs2,zs3]
 clear hk
 refine zk 15 (.agg #[.int .i64 DT.kind,.int .i64 DT.n,.string DT.name,.slice ra8 DT.r.length rc8,.slice ka8 DT.kids.length kc8,.slice sa8 DT.sys.length sc8]) rfl (by rfl) (fun w hS=>by go_simp) hS ?_
 try simp only [Act.put,zg1,zg2,zg3,zs1,zs2,zs3]
 refine zk 16 (.int .i64 DE) rfl (by rfl) (fun w hS=>by go_simp) hS ?_
 try simp only [Act.put,zg1,zg2,zg3,zs1,zs2,zs3]
 refine zr 17 rfl (fun KK hKK=>?_)
 obtain⟨w95,hwz,zz2,kz,o0,o1,o2,o3,o4,o5,f0,f1,f2,f3,f4,f5⟩:=zst x3 (.int .i64 DT.kind) (.int .i64 DT.n) (.string DT.name) (.slice ra8 DT.r.length rc8) (.slice ka8 DT.kids.length kc8) (.slice sa8 DT.sys.length sc8)
 have Hwz:Hid (_=_):=hwz
 clear hwz
 have hTf:Hid (TmIn (Bt g X w95.heap.size) w95 DT (.agg #[.int .i64 DT.kind,.int .i64 DT.n,.string DT.name,.slice ra8 DT.r.length rc8,.slice ka8 DT.kids.length kc8,.slice sa8 DT.sys.length sc8])):=(hT8.kn kz (fun _ q=>by have:=q.2.1;omega)).up fun q h=>⟨h.1,by have:=h.2.1;omega,by have:=kz.size;have:=h.2.2;omega⟩
 have hKf:Kn (Ng g) w w95:=(Hk5.out.trans hK).new kz (by rw [← HX.out];omega)
 have x1:=x1.kn kz (by omega)
 have x2:=x2.kn kz (by omega)
 obtain⟨g0,g1,g2,g3,g4,g5,_⟩:=zz2.cells
 refine⟨?_⟩
 go_simp
 rw [← Hwz.out]
 refine hKK.out _ _ (⟨x1,x2⟩) (fun hS=>?_)
 clear hKK KK
 try simp only [Act.put,zg1,zg2,zg3,zs1,zs2,zs3]
 refine zk 18 (.int .i64 DE) rfl (by rfl) (fun w hS=>by go_simp) hS ?_
 try simp only [Act.put,zg1,zg2,zg3,zs1,zs2,zs3]
 refine wpAnyH_done (by kernel_rfl) ?_ _
 go_wp2_with fail
 exact bodyPost_ret (v:=.tuple #[.agg #[.int .i64 DT.kind,.int .i64 DT.n,.string DT.name,.slice ra8 DT.r.length rc8,.slice ka8 DT.kids.length kc8,.slice sa8 DT.sys.length sc8],.int .i64 DE]) (by simp only [results,Tryz.results50];simp [go_sem,g0,g1,g2,g3,g4,g5]) rfl ⟨_,by rw [Hf.out.1,← HD.out.2],by rw [Hf.out.2,← HD.out.1,← HX.out];exact hTf.out,hKf⟩
end Go.Proofs.YtmblbmdchinflaaGreat
