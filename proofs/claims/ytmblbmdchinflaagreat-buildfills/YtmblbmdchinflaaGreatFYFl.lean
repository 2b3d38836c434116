/- A filler of a composition, of any system. -/
import Derived.Test.YtmblbmdchinflaaGreatFG27
import Derived.Test.YtmblbmdchinflaaGreatEG5
import Derived.Test.YtmblbmdchinflaaGreatFYFlA
set_option linter.unusedVariables false
set_option linter.unusedSimpArgs false
set_option maxRecDepth 100000
set_option maxHeartbeats 40000000
namespace Go.Proofs.YtmblbmdchinflaaGreat
open Go.RowKit
theorem mfill_any (hLA:LAll) (t:Tm) (v1:Value) (a:Tm) (v2:Value) (sys:List (List C × List Tm)) (v3:Value) (w:World) (h1:TmIn Tt w t v1) (h2:TmIn Tt w a v2) (h3:SyT Tt w (TmIn Tt w) sys v3) (hb1:blk t≤150) (hb2:blk a≤150) (hb3:blk (tS sys)≤150) :
  Calls Tryz.prog 10 #[v1,v2,v3] w fun e w'=>∃ v',e=.returned (.tuple #[v',.int .i64 (fillE t a sys)])∧TmIn (fun q=>w.heap.size≤q) w' (fillT t a sys) v'∧Below w.heap.size w w':=by
 have HE:Hid (fillE t a sys=(if wrE [t,a,hcT sys]=0 then doneE (flF t a sys) (flT t a sys) else wrE [t,a,hcT sys])∧fillT t a sys=(if wrE [t,a,hcT sys]=0 then doneT (flF t a sys) (flT t a sys) else zeroT)):=⟨rfl,rfl⟩
 have HF:Hid (flF t a sys=fstE (flG (fstE (fstE 0 (bothE 0 1 t)) (bothE 0 1 a)) sys) (bothE 0 2 a)∧flT t a sys=.mk 15 0 ⟨#[]⟩ [] [bothT 0 1 t,bothT 0 1 a] (sys.map flB ++ [([negB 0],[bothT 0 2 a])])):=⟨rfl,rfl⟩
 have hbF:=fl_blk hb1 hb2 hb3
 have hbH:blk (hcT sys)≤160:=by rw [hc_eq];rw [ts_eq] at hb3;omega
 have HSl:Hid (sys.length≤150):=(by rw [ts_eq] at hb3;have:=sys_len sys;omega:sys.length≤150)
 have HOne:Hid (wrE [t,a,hcT sys]=0→∀ b∈sys,∃ u,b.2=[u]):=one_kid
 have HBs:Hid (∀ b∈sys,b.1.length≤150∧∀ u,b.2=[u]→blk u≤150):=fun b hb=>by
  rw [ts_eq] at hb3
  have:1+b.1.length+blkL b.2≤blkS sys:=by unfold blkS;exact sumN_mem (List.mem_map.2 ⟨b,hb,rfl⟩)
  refine⟨by omega,fun u hu=>?_⟩
  rw [hu] at this
  simp [blkL] at this
  omega
 obtain⟨ra1,rc1,ka1,kc1,sa1,sc1,rfl,ht1⟩:=h1.form
 obtain⟨ra2,rc2,ka2,kc2,sa2,sc2,rfl,ht2⟩:=h2.form
 obtain⟨sa3,sc3,rfl⟩:=h3.len
 have h3:=(h3.lo).mono (fun x v (hx:TmIn Tt w x v)=>hx.lo)
 have h1:=h1.lo
 have h2:=h2.lo
 obtain⟨LS,hLS⟩:∃ L,L=sys.length:=⟨_,rfl⟩
 rw [← hLS] at h3
 obtain⟨w1,hw1⟩:∃ W,W=((w.alloc (.cells #[.int .i64 t.kind,.int .i64 t.n,.string t.name,.slice ra1 t.r.length rc1,.slice ka1 t.kids.length kc1,.slice sa1 t.sys.length sc1] 26)).alloc (.cells #[.int .i64 a.kind,.int .i64 a.n,.string a.name,.slice ra2 a.r.length rc2,.slice ka2 a.kids.length kc2,.slice sa2 a.sys.length sc2] 26)).alloc (.cells #[.int .i64 0,.int .i64 0,.string ⟨#[]⟩,.slice none 0 0,.slice none 0 0,.slice none 0 0] 26):=⟨_,rfl⟩
 have b1:Below w.heap.size w w1:=by rw [hw1];exact bchain (bchain (belowA _ _) (belowA _ _)) (belowA _ _)
 obtain⟨X,hX⟩:∃ X,X=w.heap.size:=⟨_,rfl⟩
 have s1:w1.heap.size=X+3:=by rw [hw1,hX];simp
 have x1:Six w1 X (.int .i64 t.kind) (.int .i64 t.n) (.string t.name) (.slice ra1 t.r.length rc1) (.slice ka1 t.kids.length kc1) (.slice sa1 t.sys.length sc1):=⟨by
  rw [hX,hw1]
  have q:=heapNew w (.cells #[.int .i64 t.kind,.int .i64 t.n,.string t.name,.slice ra1 t.r.length rc1,.slice ka1 t.kids.length kc1,.slice sa1 t.sys.length sc1] 26)
  exact heapBox _ (heapBox _ q)⟩
 have x2:Six w1 (X+1) (.int .i64 a.kind) (.int .i64 a.n) (.string a.name) (.slice ra2 a.r.length rc2) (.slice ka2 a.kids.length kc2) (.slice sa2 a.sys.length sc2):=⟨by
  rw [hX,hw1]
  have q:=heapNew (w.alloc (.cells #[.int .i64 t.kind,.int .i64 t.n,.string t.name,.slice ra1 t.r.length rc1,.slice ka1 t.kids.length kc1,.slice sa1 t.sys.length sc1] 26)) (.cells #[.int .i64 a.kind,.int .i64 a.n,.string a.name,.slice ra2 a.r.length rc2,.slice ka2 a.kids.length kc2,.slice sa2 a.sys.length sc2] 26)
  try simp only [World.size_alloc] at q
  exact heapBox _ q⟩
 have x3:Six w1 (X+2) (.int .i64 0) (.int .i64 0) (.string ⟨#[]⟩) (.slice none 0 0) (.slice none 0 0) (.slice none 0 0):=⟨by
  rw [hX,hw1]
  have q:=heapNew ((w.alloc (.cells #[.int .i64 t.kind,.int .i64 t.n,.string t.name,.slice ra1 t.r.length rc1,.slice ka1 t.kids.length kc1,.slice sa1 t.sys.length sc1] 26)).alloc (.cells #[.int .i64 a.kind,.int .i64 a.n,.string a.name,.slice ra2 a.r.length rc2,.slice ka2 a.kids.length kc2,.slice sa2 a.sys.length sc2] 26)) (.cells #[.int .i64 0,.int .i64 0,.string ⟨#[]⟩,.slice none 0 0,.slice none 0 0,.slice none 0 0] 26)
  try simp only [World.size_alloc] at q
  exact q⟩
 have h1:=h1.blw b1
 have h2:=h2.blw b1
 have h3:=h3.blw b1
 rw [← hX] at h1 h2 h3
 have cS:Hid (∀ V,SyT Tt V (TmIn Tt V) sys (.slice sa3 LS sc3)→Calls Tryz.prog 30 #[.slice sa3 LS sc3] V fun e w'=>∃ v',e=.returned v'∧TmIn (fun q=>Tt q∨(V.heap.size≤q∧q<w'.heap.size)) w' (hcT sys) v'∧Below V.heap.size V w'):=fun V q=>systems_any Tt sys _ V q
 have cW:Hid (∀ V v,KdT Tt V (TmIn Tt V) [t,a,hcT sys] v→Calls Tryz.prog 29 #[v] V fun e w'=>e=.returned (.int .i64 (wrE [t,a,hcT sys]))∧Below V.heap.size V w'):=fun V v q=>mwrong_any _ v V q (by intro x hx;rcases List.mem_cons.1 hx with rfl | hx;omega;rcases List.mem_cons.1 hx with rfl | hx;omega;rcases List.mem_cons.1 hx with rfl | hx;omega;cases hx) (by simp)
 have cB:Hid (∀ g V v f,Mk V g f→TmIn Tt V t v→Calls Tryz.prog 32 #[.pointer (some ⟨g,0,none⟩),v,.int .i64 0,.int .i64 1] V fun e w'=>∃ v',e=.returned v'∧TmIn (Bt g V.heap.size w'.heap.size) w' (bothT 0 1 t) v'∧Mk w' g (fstE f (bothE 0 1 t))∧Kn (Ng g) V w'):=fun g V v f hM hv=>mlifted_any hLA g f t v 0 1 V hM hv (by omega)
 have cA:Hid (∀ g V v f,Mk V g f→TmIn Tt V a v→Calls Tryz.prog 32 #[.pointer (some ⟨g,0,none⟩),v,.int .i64 0,.int .i64 1] V fun e w'=>∃ v',e=.returned v'∧TmIn (Bt g V.heap.size w'.heap.size) w' (bothT 0 1 a) v'∧Mk w' g (fstE f (bothE 0 1 a))∧Kn (Ng g) V w'):=fun g V v f hM hv=>mlifted_any hLA g f a v 0 1 V hM hv (by omega)
 have cA2:Hid (∀ g V v f,Mk V g f→TmIn Tt V a v→Calls Tryz.prog 32 #[.pointer (some ⟨g,0,none⟩),v,.int .i64 0,.int .i64 2] V fun e w'=>∃ v',e=.returned v'∧TmIn (Bt g V.heap.size w'.heap.size) w' (bothT 0 2 a) v'∧Mk w' g (fstE f (bothE 0 2 a))∧Kn (Ng g) V w'):=fun g V v f hM hv=>mlifted_any hLA g f a v 0 2 V hM hv (by omega)
 have cDn:Hid (∀ g V v f,Mk V g f→TmIn Tt V (flT t a sys) v→TmIn (Ng g) V (flT t a sys) v→Calls Tryz.prog 41 #[.pointer (some ⟨g,0,none⟩),v] V fun e w'=>∃ v',e=.returned (.tuple #[v',.int .i64 (doneE f (flT t a sys))])∧TmIn (Bt g V.heap.size w'.heap.size) w' (doneT f (flT t a sys)) v'∧Kn (Ng g) V w'):=fun g V v f hM hv hv2=>mdone_any g f _ v V hM hv hv2 hbF
 have cWi:Hid (∀ g V v f u vr,blk u≤150→Mk V g f→TmIn Tt V u v→ClRow (Ng g) V [e2 0 1] vr→Calls Tryz.prog 35 #[.pointer (some ⟨g,0,none⟩),v,vr] V fun e w'=>∃ v',e=.returned v'∧TmIn (Bt g V.heap.size w'.heap.size) w' (lineT [e2 0 1] u) v'∧Mk w' g (lineE f [e2 0 1] u)∧Kn (Ng g) V w'):=fun g V v f u vr hu hM hv hr=>mwithin_any hLA g f u v [e2 0 1] vr V hM hv (by omega) hr (by simp)
 obtain⟨HT,hHT⟩:∃ e,e=hcT sys:=⟨_,rfl⟩
 rw [← hHT] at cS cW HE HOne
 obtain⟨EW,hEW⟩:∃ e,e=wrE [t,a,HT]:=⟨_,rfl⟩
 rw [← hEW] at cW HE HOne
 obtain⟨TB,hTB⟩:∃ e,e=bothT 0 1 t:=⟨_,rfl⟩
 obtain⟨eB,heB⟩:∃ e,e=bothE 0 1 t:=⟨_,rfl⟩
 obtain⟨TA,hTA⟩:∃ e,e=bothT 0 1 a:=⟨_,rfl⟩
 obtain⟨eA,heA⟩:∃ e,e=bothE 0 1 a:=⟨_,rfl⟩
 obtain⟨TC,hTC⟩:∃ e,e=bothT 0 2 a:=⟨_,rfl⟩
 obtain⟨eC,heC⟩:∃ e,e=bothE 0 2 a:=⟨_,rfl⟩
 obtain⟨AT,hAT⟩:∃ e,e=flT t a sys:=⟨_,rfl⟩
 obtain⟨AF,hAF⟩:∃ e,e=flF t a sys:=⟨_,rfl⟩
 rw [← hAF,← hAT,← hTB,← heB,← hTA,← heA,← hTC,← heC] at HF
 rw [← hAF,← hAT] at HE
 rw [← hTB,← heB] at cB
 rw [← hTA,← heA] at cA
 rw [← hTC,← heC] at cA2
 rw [← hAT] at cDn
 have HLS:Hid (LS=sys.length):=hLS
 have HW:Hid (_=_):=hw1
 have HX:Hid (X=w.heap.size):=hX
 have Hb1:Hid (Below w.heap.size w w1):=b1
 rw [← hX,← hLS]
 clear hw1 hX b1 ht1 ht2 hb1 hb2 hb3 hbF hbH hHT hEW hTB heB hTA heA hTC heC hAT hAF hLS
 go_enter Tryz.func10,Tryz.ntmps10
 go_upto_region 1 with fail
 rw [← HW.out]
 simp only [← HX.out]
 clear HW
 obtain⟨g,hg⟩:∃ g,g=X+3:=⟨_,rfl⟩
 have hgX:X+3≤g∧g<X+4:=by omega
 have x1i:=x1
 have x2i:=x2
 refine wp_region_held_drew (S:=fun V=>Below w1.heap.size w1 V) (by kernel_rfl) ((Below.refl _ _).drew) (fun hS=>?_)
 obtain⟨wd,hwd⟩:∃ V,V=w1.drew:=⟨_,rfl⟩
 have hbd:Below w1.heap.size w1 wd:=by rw [hwd];exact (Below.refl _ _).drew
 have hszd:w1.heap.size≤wd.heap.size:=hbd.size
 have hK:Below w1.heap.size w1 w1:=Below.refl _ _
 rw [← hwd] at hS ⊢
 clear hwd
 have hK:=hK.trans (hbd.mono hK.size)
 have h1:=h1.blw hbd
 have h2:=h2.blw hbd
 have h3:=h3.blw hbd
 have x1:=x1.blw hbd
 have x2:=x2.blw hbd
 have x3:=x3.blw hbd
 clear hbd
 refine zk 0 (.agg #[.int .i64 t.kind,.int .i64 t.n,.string t.name,.slice ra1 t.r.length rc1,.slice ka1 t.kids.length kc1,.slice sa1 t.sys.length sc1]) rfl (by rfl) (fun w hS=>by obtain⟨y0,y1,y2,y3,y4,y5,_⟩:=(x1i.blw hS).cells;go_simp) hS ?_
 try simp only [Act.put,zg1,zg2,zg3,zs1,zs2,zs3]
 refine zk 1 (.agg #[.int .i64 a.kind,.int .i64 a.n,.string a.name,.slice ra2 a.r.length rc2,.slice ka2 a.kids.length kc2,.slice sa2 a.sys.length sc2]) rfl (by rfl) (fun w hS=>by obtain⟨y0,y1,y2,y3,y4,y5,_⟩:=(x2i.blw hS).cells;go_simp) hS ?_
 try simp only [Act.put,zg1,zg2,zg3,zs1,zs2,zs3]
 refine zk 2 (.slice sa3 LS sc3) rfl (by rfl) (fun w hS=>by go_simp) hS ?_
 try simp only [Act.put,zg1,zg2,zg3,zs1,zs2,zs3]
 refine zr 3 rfl (fun KK hKK=>?_)
 refine⟨?_⟩
 have cc:=cS.out wd (h3.all (Nat.le_refl _) (fun _ _=>trivial) (fun _ _ _=>rfl))
 go_simp
 refine cc.mono ?_
 rintro e u1 ⟨vu1,rfl,hvu1,bu1⟩
 obtain⟨ra3,rc3,ka3,kc3,sa4,sc4,rfl,ht3⟩:=hvu1.form
 have hT3:TmIn Tt u1 HT _:=ht3.value.tt
 have hk:=bu1
 have hszu1:=hk.size
 have hK:=hK.trans (hk.mono hK.size)
 have h1:=h1.blw hk
 have h2:=h2.blw hk
 have h3:=h3.blw hk
 have x1:=x1.blw hk
 have x2:=x2.blw hk
 have x3:=x3.blw hk
 clear cc hvu1 ht3
 refine hKK.out _ _ (hK) (fun hS=>?_)
 clear hKK KK
 try simp only [Act.put,zg1,zg2,zg3,zs1,zs2,zs3]
 clear hk
 refine zr 4 rfl (fun KK hKK=>?_)
 obtain⟨bk3,hbk3⟩:∃ q,q=u1.heap.size:=⟨_,rfl⟩
 obtain⟨u2,hu2⟩:∃ W,W=u1.alloc (.cells #[.int .i64 t.kind,.int .i64 t.n,.string t.name,.slice ra1 t.r.length rc1,.slice ka1 t.kids.length kc1,.slice sa1 t.sys.length sc1,.int .i64 a.kind,.int .i64 a.n,.string a.name,.slice ra2 a.r.length rc2,.slice ka2 a.kids.length kc2,.slice sa2 a.sys.length sc2,.int .i64 HT.kind,.int .i64 HT.n,.string HT.name,.slice ra3 HT.r.length rc3,.slice ka3 HT.kids.length kc3,.slice sa4 HT.sys.length sc4] 26):=⟨_,rfl⟩
 have bu2:Below u1.heap.size u1 u2:=by rw [hu2];exact belowA _ _
 have zu2:u2.heap[bk3]? = some (.cells #[.int .i64 t.kind,.int .i64 t.n,.string t.name,.slice ra1 t.r.length rc1,.slice ka1 t.kids.length kc1,.slice sa1 t.sys.length sc1,.int .i64 a.kind,.int .i64 a.n,.string a.name,.slice ra2 a.r.length rc2,.slice ka2 a.kids.length kc2,.slice sa2 a.sys.length sc2,.int .i64 HT.kind,.int .i64 HT.n,.string HT.name,.slice ra3 HT.r.length rc3,.slice ka3 HT.kids.length kc3,.slice sa4 HT.sys.length sc4] 26 (0,0)):=by rw [hu2,hbk3];exact heapNew _ _
 have hk:=bu2
 have hszu2:=hk.size
 have hK:=hK.trans (hk.mono hK.size)
 have h1:=h1.blw hk
 have h2:=h2.blw hk
 have h3:=h3.blw hk
 have x1:=x1.blw hk
 have x2:=x2.blw hk
 have x3:=x3.blw hk
 have hT3:=hT3.blw hk
 have hKd:=kd_three zu2 (ok:=Tt) trivial h1.tt h2.tt hT3
 have Hu2:Hid (_=_):=hu2
 have Kbk3:Hid (_=_):=hbk3
 clear hu2 hbk3
 refine⟨?_⟩
 go_simp
 rw [← Hu2.out]
 try simp only [← Kbk3.out]
 refine hKK.out _ _ (hK) (fun hS=>?_)
 clear hKK KK
 try simp only [Act.put,zg1,zg2,zg3,zs1,zs2,zs3]
 clear hk Hu2
 refine zr 5 rfl (fun KK hKK=>?_)
 refine⟨?_⟩
 have cc:=cW.out u2 _ hKd
 go_simp
 refine cc.mono ?_
 rintro e u4 ⟨rfl,bu4⟩
 have hk:=bu4
 have hszu4:=hk.size
 have hK:=hK.trans (hk.mono hK.size)
 have h1:=h1.blw hk
 have h2:=h2.blw hk
 have h3:=h3.blw hk
 have x1:=x1.blw hk
 have x2:=x2.blw hk
 have x3:=x3.blw hk
 clear cc
 refine hKK.out _ _ (hK) (fun hS=>?_)
 clear hKK KK
 try simp only [Act.put,zg1,zg2,zg3,zs1,zs2,zs3]
 clear hk
 refine zk 6 (.int .i64 EW) rfl (by rfl) (fun w hS=>by go_simp) hS ?_
 try simp only [Act.put,zg1,zg2,zg3,zs1,zs2,zs3]
 refine wpAnyH_done (by kernel_rfl) ?_ _
 obtain⟨w2,hw2⟩:∃ V,V=u4:=⟨_,rfl⟩
 rw [← hw2] at h1 h2 h3 x1 x2 x3 hK ⊢
 have hs2:w1.heap.size≤w2.heap.size:=hK.size
 have Hk2:Hid (Below w.heap.size w w2):=Hb1.out.trans (hK.mono Hb1.out.size)
 clear hw2 hS hK hT3 hKd
 clear x1i x2i
 by_cases hz:EW=0
 rotate_left
 ·have hz1:(EW == 0)=false:=by simpa using hz
  have Hf:Hid (fillE t a sys=EW∧fillT t a sys=zeroT):=⟨by rw [HE.out.1,if_neg hz],by rw [HE.out.2,if_neg hz]⟩
  have zz:=x3
  obtain⟨w9,hwz,zz2,kz,o0,o1,o2,o3,o4,o5,f0,f1,f2,f3,f4,f5⟩:=zst zz (.int .i64 0) (.int .i64 0) (.string ⟨#[]⟩) (.slice none 0 0) (.slice none 0 0) (.slice none 0 0)
  have hKf:Below X w w9:=by rw [HX.out];exact Hk2.out.trans (kz.below (fun q hq=>by have:=HX.out;omega) Hk2.out.size)
  obtain⟨h0,h1',h2',h3',h4,h5,_⟩:=zz2.cells
  have Hwz:Hid (_=_):=hwz
  clear hwz kz zz zz2
  go_wp2_with fail
  rw [← Hwz.out]
  exact bodyPost_ret (v:=.tuple #[.agg #[.int .i64 0,.int .i64 0,.string ⟨#[]⟩,.slice none 0 0,.slice none 0 0,.slice none 0 0],.int .i64 EW]) (by simp only [results,Tryz.results10];simp [go_sem,h0,h1',h2',h3',h4,h5]) rfl ⟨_,by rw [Hf.out.1],by rw [Hf.out.2];exact zeroT_in _ _,hKf⟩
 subst hz
 have Hf:Hid (fillE t a sys=doneE AF AT∧fillT t a sys=doneT AF AT):=⟨by rw [HE.out.1];simp,by rw [HE.out.2];simp⟩
 have HOn:Hid (∀ b∈sys,∃ u,b.2=[u]):=HOne.out rfl
 clear HE HOne
 obtain⟨g0,hg0⟩:∃ g,g=w2.heap.size:=⟨_,rfl⟩
 obtain⟨w3,hw3⟩:∃ W,W=w2.alloc (.cells #[.int .i64 0] 59):=⟨_,rfl⟩
 have b3:Below w2.heap.size w2 w3:=by rw [hw3];exact belowA _ _
 have s3:g0<w3.heap.size∧w3.heap.size≤g0+1:=by rw [hw3,hg0];simp
 have hM:Mk w3 g0 0:=⟨⟨_,by rw [hw3,hg0];exact heapNew _ _⟩⟩
 have h1:=h1.blw b3
 have h2:=h2.blw b3
 have h3:=h3.blw b3
 have x1:=x1.blw b3
 have x2:=x2.blw b3
 have x3:=x3.blw b3
 have hgX0:X+3≤g0:=by omega
 have Hk3:Hid (Below w.heap.size w w3):=bchain Hk2.out b3
 have HSy:Hid (∀ V,Kn (fun q=>q<X) w3 V→SyT (fun q=>q<X) V (TmIn (fun q=>q<X) V) sys (.slice sa3 LS sc3)):=fun V k=>h3.kn k (fun q h=>h)
 have HA:Hid (∀ V,Kn (fun q=>q<X+3) w3 V→TmIn Tt V a (.agg #[.int .i64 a.kind,.int .i64 a.n,.string a.name,.slice ra2 a.r.length rc2,.slice ka2 a.kids.length kc2,.slice sa2 a.sys.length sc2])∧Six V (X+1) (.int .i64 a.kind) (.int .i64 a.n) (.string a.name) (.slice ra2 a.r.length rc2) (.slice ka2 a.kids.length kc2) (.slice sa2 a.sys.length sc2)∧Six V (X+2) (.int .i64 0) (.int .i64 0) (.string ⟨#[]⟩) (.slice none 0 0) (.slice none 0 0) (.slice none 0 0)):=fun V k=>⟨(h2.kn k (fun q h=>by show q<X+3;omega)).tt,⟨(k.block _ (by show X+1<X+3;omega) x2.lt).trans x2.blk⟩,⟨(k.block _ (by show X+2<X+3;omega) x3.lt).trans x3.blk⟩⟩
 have h1:TmIn (Ng g0) w3 t _:=h1.up (fun q h=>by show q≠g0;omega)
 have h2:TmIn (Ng g0) w3 a _:=h2.up (fun q h=>by show q≠g0;omega)
 have H3:Hid (_=_):=hw3
 have Hg:Hid (_=_):=hg0
 clear hw3 hg0 b3 hg hgX g Hk2 h3 s1
 obtain⟨g,hg⟩:∃ g,g=g0:=⟨_,rfl⟩
 subst hg
 go_upto_region 5 with fail
 rw [← H3.out]
 simp only [← Hg.out]
 clear H3 Hg
 go_cut [10] (fun s wx=>∃ o q,s=.pointer (some ⟨o,0,none⟩)∧w3.heap.size≤o∧Six wx o (.int .i64 15) (.int .i64 0) (.string ⟨#[]⟩) (.slice none 0 0) (.slice (some ⟨q,0,none⟩) 2 2) (.slice none 0 0)∧KdT (fun r=>r≠g∧r≠o) wx (TmIn (fun r=>r≠g∧r≠o) wx) [TB,TA] (.slice (some ⟨q,0,none⟩) 2 2)∧Mk wx g (fstE (fstE 0 eB) eA)∧Kn (Ng g) w3 wx)
 case first =>
  have x1i:=x1
  have x2i:=x2
  clear x1 x2 x3
  refine wp_region_held_drew (S:=fun V=>Kn (Ng g) w3 V) (by kernel_rfl) ((Kn.refl _ _).drew) (fun hS=>?_)
  obtain⟨wd,hwd⟩:∃ V,V=w3.drew:=⟨_,rfl⟩
  have hkd:Kn (Ng g) w3 wd:=by rw [hwd];exact (Kn.refl _ _).drew
  have hszd:w3.heap.size≤wd.heap.size:=hkd.size
  have hbd:Below w3.heap.size w3 wd:=by rw [hwd];exact (Below.refl _ _).drew
  have hK:Kn (Ng g) w3 w3:=Kn.refl _ _
  rw [← hwd] at hS ⊢
  clear hwd
  have hK:=hK.trans hkd
  have hM:=hM.blw hbd
  have h1:=h1.kn hkd (fun _ q=>q)
  have h2:=h2.kn hkd (fun _ q=>q)
  clear hkd hbd
  refine zk 0 (.pointer (some ⟨g,0,none⟩)) rfl (by rfl) (fun w hS=>by go_simp) hS ?_
  try simp only [Act.put,zg1,zg2,zg3,zs1,zs2,zs3]
  refine zk 1 (.agg #[.int .i64 t.kind,.int .i64 t.n,.string t.name,.slice ra1 t.r.length rc1,.slice ka1 t.kids.length kc1,.slice sa1 t.sys.length sc1]) rfl (by rfl) (fun w hS=>by obtain⟨y0,y1,y2,y3,y4,y5,_⟩:=(x1i.kn hS (by omega)).cells;go_simp) hS ?_
  try simp only [Act.put,zg1,zg2,zg3,zs1,zs2,zs3]
  refine zk 3 (.pointer (some ⟨g,0,none⟩)) rfl (by rfl) (fun w hS=>by go_simp) hS ?_
  try simp only [Act.put,zg1,zg2,zg3,zs1,zs2,zs3]
  refine zk 4 (.agg #[.int .i64 a.kind,.int .i64 a.n,.string a.name,.slice ra2 a.r.length rc2,.slice ka2 a.kids.length kc2,.slice sa2 a.sys.length sc2]) rfl (by rfl) (fun w hS=>by obtain⟨y0,y1,y2,y3,y4,y5,_⟩:=(x2i.kn hS (by omega)).cells;go_simp) hS ?_
  try simp only [Act.put,zg1,zg2,zg3,zs1,zs2,zs3]
  refine wpAnyH_ready (rs:=[2,8]) (by kernel_rfl) (by simp) ?_
  refine ready_cons rfl (fun KK hKK=>?_) (ready_cons rfl (fun KK hKK=>?_) AllReadyH.nil)
  ·skip
   refine⟨?_⟩
   have cc:=cB.out g wd _ _ hM h1.tt
   go_simp
   refine cc.mono ?_
   rintro e u1 ⟨vu1,rfl,hvu1,hMu1,hk⟩
   obtain⟨ra5,rc5,ka5,kc5,sa5,sc5,rfl,ht5⟩:=hvu1.form
   have hT5:=ht5.value
   have hK:=hK.trans hk
   have h1:=h1.kn hk (fun _ q=>q)
   have h2:=h2.kn hk (fun _ q=>q)
   have hM:=hMu1
   have hszu1:=hk.size
   clear cc hvu1 ht5
   refine hKK.out _ _ (hK) (fun hS=>?_)
   clear hKK KK
   try simp only [Act.put,zg1,zg2,zg3,zs1,zs2,zs3]
   clear hk
   refine wpAnyH_ready (rs:=[5,8]) (by kernel_rfl) (by simp) ?_
   refine ready_cons rfl (fun KK hKK=>?_) (ready_cons rfl (fun KK hKK=>?_) AllReadyH.nil)
   ·skip
    refine⟨?_⟩
    have cc:=cA.out g u1 _ _ hM h2.tt
    go_simp
    refine cc.mono ?_
    rintro e u2 ⟨vu2,rfl,hvu2,hMu2,hk⟩
    obtain⟨ra6,rc6,ka6,kc6,sa6,sc6,rfl,ht6⟩:=hvu2.form
    have hT6:=ht6.value
    have hK:=hK.trans hk
    have h1:=h1.kn hk (fun _ q=>q)
    have h2:=h2.kn hk (fun _ q=>q)
    have hT5:=hT5.kn hk (fun _ q=>q.1)
    have hM:=hMu2
    have hszu2:=hk.size
    clear cc hvu2 ht6
    refine hKK.out _ _ (hK) (fun hS=>?_)
    clear hKK KK
    try simp only [Act.put,zg1,zg2,zg3,zs1,zs2,zs3]
    clear hk
    refine wpAnyH_ready (rs:=[6,8]) (by kernel_rfl) (by simp) ?_
    refine ready_cons rfl (fun KK hKK=>?_) (ready_cons rfl (fun KK hKK=>?_) AllReadyH.nil)
    ·skip
     obtain⟨bk4,hbk4⟩:∃ q,q=u2.heap.size:=⟨_,rfl⟩
     obtain⟨u3,hu3⟩:∃ W,W=u2.alloc (.cells #[.int .i64 TB.kind,.int .i64 TB.n,.string TB.name,.slice ra5 TB.r.length rc5,.slice ka5 TB.kids.length kc5,.slice sa5 TB.sys.length sc5,.int .i64 TA.kind,.int .i64 TA.n,.string TA.name,.slice ra6 TA.r.length rc6,.slice ka6 TA.kids.length kc6,.slice sa6 TA.sys.length sc6] 26):=⟨_,rfl⟩
     have bu3:Below u2.heap.size u2 u3:=by rw [hu3];exact belowA _ _
     have su3:bk4<u3.heap.size∧u3.heap.size≤bk4+1:=by rw [hu3,hbk4];simp
     have lebk4:u2.heap.size≤bk4:=by omega
     have gbk4:w3.heap.size≤bk4:=by rw [hbk4];exact hK.size
     have zu3:u3.heap[bk4]? = some (.cells #[.int .i64 TB.kind,.int .i64 TB.n,.string TB.name,.slice ra5 TB.r.length rc5,.slice ka5 TB.kids.length kc5,.slice sa5 TB.sys.length sc5,.int .i64 TA.kind,.int .i64 TA.n,.string TA.name,.slice ra6 TA.r.length rc6,.slice ka6 TA.kids.length kc6,.slice sa6 TA.sys.length sc6] 26 (0,0)):=by rw [hu3,hbk4];exact heapNew _ _
     have hk:Kn (Ng g) u2 u3:=Kn.of_below bu3
     have Hu3:Hid (_=_):=hu3
     have Kbk4:Hid (_=_):=hbk4
     have hK:=hK.trans hk
     have hM:=hM.blw bu3
     have h1:=h1.kn hk (fun _ q=>q)
     have h2:=h2.kn hk (fun _ q=>q)
     have hT5:=hT5.kn hk (fun _ q=>q.1)
     have hT6:=hT6.kn hk (fun _ q=>q.1)
     clear hu3 hbk4
     refine⟨?_⟩
     go_simp
     rw [← Hu3.out]
     try simp only [← Kbk4.out]
     refine hKK.out _ _ (hK) (fun hS=>?_)
     clear hKK KK
     try simp only [Act.put,zg1,zg2,zg3,zs1,zs2,zs3]
     clear hk Hu3
     refine wpAnyH_ready (rs:=[7,8]) (by kernel_rfl) (by simp) ?_
     refine ready_cons rfl (fun KK hKK=>?_) (ready_cons rfl (fun KK hKK=>?_) AllReadyH.nil)
     ·skip
      refine⟨?_⟩
      have cc:=node_any 15 (some ⟨bk4,0,none⟩) 2 2 u3
      go_simp
      refine cc.mono ?_
      rintro e u5 ⟨rfl,bu5⟩
      have hk:Kn (Ng g) u3 u5:=Kn.of_below bu5
      have hszu5:=hk.size
      have hK:=hK.trans hk
      have hM:=hM.blw bu5
      have h1:=h1.kn hk (fun _ q=>q)
      have h2:=h2.kn hk (fun _ q=>q)
      have hT5:=hT5.kn hk (fun _ q=>q.1)
      have hT6:=hT6.kn hk (fun _ q=>q.1)
      have zu3:=(hk.block bk4 (by show _≠_;omega) (Array.getElem?_eq_some_iff.1 zu3).1).trans zu3
      clear cc
      refine hKK.out _ _ (hK) (fun hS=>?_)
      clear hKK KK
      try simp only [Act.put,zg1,zg2,zg3,zs1,zs2,zs3]
      clear hk
      refine zr 8 rfl (fun KK hKK=>?_)
      obtain⟨bk7,u6,hbk7,hu6,bu6,su6,lebk7,zu6⟩:=zal u5
      have gbk7:w3.heap.size≤bk7:=by rw [hbk7];exact hK.size
      have hk:Kn (Ng g) u5 u6:=Kn.of_below bu6
      have Hu6:Hid (_=_):=hu6
      have Kbk7:Hid (_=_):=hbk7
      have hK:=hK.trans hk
      have hM:=hM.blw bu6
      have h1:=h1.kn hk (fun _ q=>q)
      have h2:=h2.kn hk (fun _ q=>q)
      have hT5:=hT5.kn hk (fun _ q=>q.1)
      have hT6:=hT6.kn hk (fun _ q=>q.1)
      have zu3:=(hk.block bk4 (by show _≠_;omega) (Array.getElem?_eq_some_iff.1 zu3).1).trans zu3
      clear hu6 hbk7
      refine⟨?_⟩
      go_simp
      rw [← Hu6.out]
      try simp only [← Kbk7.out]
      refine hKK.out _ _ (hK) (fun hS=>?_)
      clear hKK KK
      try simp only [Act.put,zg1,zg2,zg3,zs1,zs2,zs3]
      clear hk Hu6
      refine zr 9 rfl (fun KK hKK=>?_)
      obtain⟨w98,hwz,zz2,kz,o0,o1,o2,o3,o4,o5,f0,f1,f2,f3,f4,f5⟩:=zst zu6 (.int .i64 15) (.int .i64 0) (.string ⟨#[]⟩) (.slice none 0 0) (.slice (some ⟨bk4,0,none⟩) 2 2) (.slice none 0 0)
      have Hwz:Hid (_=_):=hwz
      clear hwz
      have zu3:=(kz.block bk4 (by show _≠_;omega) (Array.getElem?_eq_some_iff.1 zu3).1).trans zu3
      have hT5:=(hT5.kn kz (fun _ q=>by have:=q.2.1;have:=q.2.2;omega)).up (ok':=fun r=>r≠g∧r≠bk7) (fun r q=>⟨q.1,by have:=q.2.1;have:=q.2.2;omega⟩)
      have hT6:=(hT6.kn kz (fun _ q=>by have:=q.2.1;have:=q.2.2;omega)).up (ok':=fun r=>r≠g∧r≠bk7) (fun r q=>⟨q.1,by have:=q.2.1;have:=q.2.2;omega⟩)
      have hKd:=kd_two zu3 (ok:=fun r=>r≠g∧r≠bk7) (by omega) hT5 hT6
      have hM:=hM.kn kz (by omega)
      have hK:=hK.new kz (by omega)
      clear kz
      refine⟨?_⟩
      go_simp
      rw [← Hwz.out]
      refine hKK.out _ _ (hK) (fun hS=>?_)
      clear hKK KK
      try simp only [Act.put,zg1,zg2,zg3,zs1,zs2,zs3]
      refine wpAnyH_done (by kernel_rfl) ?_ _
      go_wp2_with fail
      go_meet
      refine⟨bk7,bk4,rfl,?_,?_,?_,?_,?_⟩
      ·omega
      ·with_reducible exact zz2
      ·with_reducible exact hKd
      ·with_reducible exact hM
      ·with_reducible exact hK
     ·skip
      obtain⟨bk10,u9,hbk10,hu9,bu9,su9,lebk10,zu9⟩:=zal u3
      have gbk10:w3.heap.size≤bk10:=by rw [hbk10];exact hK.size
      have hk:Kn (Ng g) u3 u9:=Kn.of_below bu9
      have Hu9:Hid (_=_):=hu9
      have Kbk10:Hid (_=_):=hbk10
      have hK:=hK.trans hk
      have hM:=hM.blw bu9
      have h1:=h1.kn hk (fun _ q=>q)
      have h2:=h2.kn hk (fun _ q=>q)
      have hT5:=hT5.kn hk (fun _ q=>q.1)
      have hT6:=hT6.kn hk (fun _ q=>q.1)
      have zu3:=(hk.block bk4 (by show _≠_;omega) (Array.getElem?_eq_some_iff.1 zu3).1).trans zu3
      clear hu9 hbk10
      refine⟨?_⟩
      go_simp
      rw [← Hu9.out]
      try simp only [← Kbk10.out]
      refine hKK.out _ _ (hK) (fun hS=>?_)
      clear hKK KK
      try simp only [Act.put,zg1,zg2,zg3,zs1,zs2,zs3]
      clear hk Hu9
      refine zr 7 rfl (fun KK hKK=>?_)
      refine⟨?_⟩
      have cc:=node_any 15 (some ⟨bk4,0,none⟩) 2 2 u9
      go_simp
      refine cc.mono ?_
      rintro e u11 ⟨rfl,bu11⟩
      have hk:Kn (Ng g) u9 u11:=Kn.of_below bu11
      have hszu11:=hk.size
      have hK:=hK.trans hk
      have hM:=hM.blw bu11
      have h1:=h1.kn hk (fun _ q=>q)
      have h2:=h2.kn hk (fun _ q=>q)
      have hT5:=hT5.kn hk (fun _ q=>q.1)
      have hT6:=hT6.kn hk (fun _ q=>q.1)
      have zu3:=(hk.block bk4 (by show _≠_;omega) (Array.getElem?_eq_some_iff.1 zu3).1).trans zu3
      have zu9:=zu9.kn hk (by omega)
      clear cc
      refine hKK.out _ _ (hK) (fun hS=>?_)
      clear hKK KK
      try simp only [Act.put,zg1,zg2,zg3,zs1,zs2,zs3]
      clear hk
      refine zr 9 rfl (fun KK hKK=>?_)
      obtain⟨w912,hwz,zz2,kz,o0,o1,o2,o3,o4,o5,f0,f1,f2,f3,f4,f5⟩:=zst zu9 (.int .i64 15) (.int .i64 0) (.string ⟨#[]⟩) (.slice none 0 0) (.slice (some ⟨bk4,0,none⟩) 2 2) (.slice none 0 0)
      have Hwz:Hid (_=_):=hwz
      clear hwz
      have zu3:=(kz.block bk4 (by show _≠_;omega) (Array.getElem?_eq_some_iff.1 zu3).1).trans zu3
      have hT5:=(hT5.kn kz (fun _ q=>by have:=q.2.1;have:=q.2.2;omega)).up (ok':=fun r=>r≠g∧r≠bk10) (fun r q=>⟨q.1,by have:=q.2.1;have:=q.2.2;omega⟩)
      have hT6:=(hT6.kn kz (fun _ q=>by have:=q.2.1;have:=q.2.2;omega)).up (ok':=fun r=>r≠g∧r≠bk10) (fun r q=>⟨q.1,by have:=q.2.1;have:=q.2.2;omega⟩)
      have hKd:=kd_two zu3 (ok:=fun r=>r≠g∧r≠bk10) (by omega) hT5 hT6
      have hM:=hM.kn kz (by omega)
      have hK:=hK.new kz (by omega)
      clear kz
      refine⟨?_⟩
      go_simp
      rw [← Hwz.out]
      refine hKK.out _ _ (hK) (fun hS=>?_)
      clear hKK KK
      try simp only [Act.put,zg1,zg2,zg3,zs1,zs2,zs3]
      refine wpAnyH_done (by kernel_rfl) ?_ _
      go_wp2_with fail
      go_meet
      refine⟨bk10,bk4,rfl,?_,?_,?_,?_,?_⟩
      ·omega
      ·with_reducible exact zz2
      ·with_reducible exact hKd
      ·with_reducible exact hM
      ·with_reducible exact hK
    ·skip
     obtain⟨bk14,u13,hbk14,hu13,bu13,su13,lebk14,zu13⟩:=zal u2
     have gbk14:w3.heap.size≤bk14:=by rw [hbk14];exact hK.size
     have hk:Kn (Ng g) u2 u13:=Kn.of_below bu13
     have Hu13:Hid (_=_):=hu13
     have Kbk14:Hid (_=_):=hbk14
     have hK:=hK.trans hk
     have hM:=hM.blw bu13
     have h1:=h1.kn hk (fun _ q=>q)
     have h2:=h2.kn hk (fun _ q=>q)
     have hT5:=hT5.kn hk (fun _ q=>q.1)
     have hT6:=hT6.kn hk (fun _ q=>q.1)
     clear hu13 hbk14
     refine⟨?_⟩
     go_simp
     rw [← Hu13.out]
     try simp only [← Kbk14.out]
     refine hKK.out _ _ (hK) (fun hS=>?_)
     clear hKK KK
     try simp only [Act.put,zg1,zg2,zg3,zs1,zs2,zs3]
     clear hk Hu13
     refine zr 6 rfl (fun KK hKK=>?_)
     obtain⟨bk16,hbk16⟩:∃ q,q=u13.heap.size:=⟨_,rfl⟩
     obtain⟨u15,hu15⟩:∃ W,W=u13.alloc (.cells #[.int .i64 TB.kind,.int .i64 TB.n,.string TB.name,.slice ra5 TB.r.length rc5,.slice ka5 TB.kids.length kc5,.slice sa5 TB.sys.length sc5,.int .i64 TA.kind,.int .i64 TA.n,.string TA.name,.slice ra6 TA.r.length rc6,.slice ka6 TA.kids.length kc6,.slice sa6 TA.sys.length sc6] 26):=⟨_,rfl⟩
     have bu15:Below u13.heap.size u13 u15:=by rw [hu15];exact belowA _ _
     have su15:bk16<u15.heap.size∧u15.heap.size≤bk16+1:=by rw [hu15,hbk16];simp
     have lebk16:u13.heap.size≤bk16:=by omega
     have gbk16:w3.heap.size≤bk16:=by rw [hbk16];exact hK.size
     have zu15:u15.heap[bk16]? = some (.cells #[.int .i64 TB.kind,.int .i64 TB.n,.string TB.name,.slice ra5 TB.r.length rc5,.slice ka5 TB.kids.length kc5,.slice sa5 TB.sys.length sc5,.int .i64 TA.kind,.int .i64 TA.n,.string TA.name,.slice ra6 TA.r.length rc6,.slice ka6 TA.kids.length kc6,.slice sa6 TA.sys.length sc6] 26 (0,0)):=by rw [hu15,hbk16];exact heapNew _ _
     have hk:Kn (Ng g) u13 u15:=Kn.of_below bu15
     have Hu15:Hid (_=_):=hu15
     have Kbk16:Hid (_=_):=hbk16
     have hK:=hK.trans hk
     have hM:=hM.blw bu15
     have h1:=h1.kn hk (fun _ q=>q)
     have h2:=h2.kn hk (fun _ q=>q)
     have hT5:=hT5.kn hk (fun _ q=>q.1)
     have hT6:=hT6.kn hk (fun _ q=>q.1)
     have zu13:=zu13.kn hk (by omega)
     clear hu15 hbk16
     refine⟨?_⟩
     go_simp
     rw [← Hu15.out]
     try simp only [← Kbk16.out]
     refine hKK.out _ _ (hK) (fun hS=>?_)
     clear hKK KK
     try simp only [Act.put,zg1,zg2,zg3,zs1,zs2,zs3]
     clear hk Hu15
     refine zr 7 rfl (fun KK hKK=>?_)
     refine⟨?_⟩
     have cc:=node_any 15 (some ⟨bk16,0,none⟩) 2 2 u15
     go_simp
     refine cc.mono ?_
     rintro e u17 ⟨rfl,bu17⟩
     have hk:Kn (Ng g) u15 u17:=Kn.of_below bu17
     have hszu17:=hk.size
     have hK:=hK.trans hk
     have hM:=hM.blw bu17
     have h1:=h1.kn hk (fun _ q=>q)
     have h2:=h2.kn hk (fun _ q=>q)
     have hT5:=hT5.kn hk (fun _ q=>q.1)
     have hT6:=hT6.kn hk (fun _ q=>q.1)
     have zu13:=zu13.kn hk (by omega)
     have zu15:=(hk.block bk16 (by show _≠_;omega) (Array.getElem?_eq_some_iff.1 zu15).1).trans zu15
     clear cc
     refine hKK.out _ _ (hK) (fun hS=>?_)
     clear hKK KK
     try simp only [Act.put,zg1,zg2,zg3,zs1,zs2,zs3]
     clear hk
     refine zr 9 rfl (fun KK hKK=>?_)
     obtain⟨w918,hwz,zz2,kz,o0,o1,o2,o3,o4,o5,f0,f1,f2,f3,f4,f5⟩:=zst zu13 (.int .i64 15) (.int .i64 0) (.string ⟨#[]⟩) (.slice none 0 0) (.slice (some ⟨bk16,0,none⟩) 2 2) (.slice none 0 0)
     have Hwz:Hid (_=_):=hwz
     clear hwz
     have zu15:=(kz.block bk16 (by show _≠_;omega) (Array.getElem?_eq_some_iff.1 zu15).1).trans zu15
     have hT5:=(hT5.kn kz (fun _ q=>by have:=q.2.1;have:=q.2.2;omega)).up (ok':=fun r=>r≠g∧r≠bk14) (fun r q=>⟨q.1,by have:=q.2.1;have:=q.2.2;omega⟩)
     have hT6:=(hT6.kn kz (fun _ q=>by have:=q.2.1;have:=q.2.2;omega)).up (ok':=fun r=>r≠g∧r≠bk14) (fun r q=>⟨q.1,by have:=q.2.1;have:=q.2.2;omega⟩)
     have hKd:=kd_two zu15 (ok:=fun r=>r≠g∧r≠bk14) (by omega) hT5 hT6
     have hM:=hM.kn kz (by omega)
     have hK:=hK.new kz (by omega)
     clear kz
     refine⟨?_⟩
     go_simp
     rw [← Hwz.out]
     refine hKK.out _ _ (hK) (fun hS=>?_)
     clear hKK KK
     try simp only [Act.put,zg1,zg2,zg3,zs1,zs2,zs3]
     refine wpAnyH_done (by kernel_rfl) ?_ _
     go_wp2_with fail
     go_meet
     refine⟨bk14,bk16,rfl,?_,?_,?_,?_,?_⟩
     ·omega
     ·with_reducible exact zz2
     ·with_reducible exact hKd
     ·with_reducible exact hM
     ·with_reducible exact hK
   ·skip
    obtain⟨bk20,u19,hbk20,hu19,bu19,su19,lebk20,zu19⟩:=zal u1
    have gbk20:w3.heap.size≤bk20:=by rw [hbk20];exact hK.size
    have hk:Kn (Ng g) u1 u19:=Kn.of_below bu19
    have Hu19:Hid (_=_):=hu19
    have Kbk20:Hid (_=_):=hbk20
    have hK:=hK.trans hk
    have hM:=hM.blw bu19
    have h1:=h1.kn hk (fun _ q=>q)
    have h2:=h2.kn hk (fun _ q=>q)
    have hT5:=hT5.kn hk (fun _ q=>q.1)
    clear hu19 hbk20
    refine⟨?_⟩
    go_simp
    rw [← Hu19.out]
    try simp only [← Kbk20.out]
    refine hKK.out _ _ (hK) (fun hS=>?_)
    clear hKK KK
    try simp only [Act.put,zg1,zg2,zg3,zs1,zs2,zs3]
    clear hk Hu19
    refine zr 5 rfl (fun KK hKK=>?_)
    refine⟨?_⟩
    have cc:=cA.out g u19 _ _ hM h2.tt
    go_simp
    refine cc.mono ?_
    rintro e u21 ⟨vu21,rfl,hvu21,hMu21,hk⟩
    obtain⟨ra6,rc6,ka6,kc6,sa6,sc6,rfl,ht6⟩:=hvu21.form
    have hT6:=ht6.value
    have hK:=hK.trans hk
    have h1:=h1.kn hk (fun _ q=>q)
    have h2:=h2.kn hk (fun _ q=>q)
    have hT5:=hT5.kn hk (fun _ q=>q.1)
    have zu19:=zu19.kn hk (by omega)
    have hM:=hMu21
    have hszu21:=hk.size
    clear cc hvu21 ht6
    refine hKK.out _ _ (hK) (fun hS=>?_)
    clear hKK KK
    try simp only [Act.put,zg1,zg2,zg3,zs1,zs2,zs3]
    clear hk
    refine zr 6 rfl (fun KK hKK=>?_)
    obtain⟨bk23,hbk23⟩:∃ q,q=u21.heap.size:=⟨_,rfl⟩
    obtain⟨u22,hu22⟩:∃ W,W=u21.alloc (.cells #[.int .i64 TB.kind,.int .i64 TB.n,.string TB.name,.slice ra5 TB.r.length rc5,.slice ka5 TB.kids.length kc5,.slice sa5 TB.sys.length sc5,.int .i64 TA.kind,.int .i64 TA.n,.string TA.name,.slice ra6 TA.r.length rc6,.slice ka6 TA.kids.length kc6,.slice sa6 TA.sys.length sc6] 26):=⟨_,rfl⟩
    have bu22:Below u21.heap.size u21 u22:=by rw [hu22];exact belowA _ _
    have su22:bk23<u22.heap.size∧u22.heap.size≤bk23+1:=by rw [hu22,hbk23];simp
    have lebk23:u21.heap.size≤bk23:=by omega
    have gbk23:w3.heap.size≤bk23:=by rw [hbk23];exact hK.size
    have zu22:u22.heap[bk23]? = some (.cells #[.int .i64 TB.kind,.int .i64 TB.n,.string TB.name,.slice ra5 TB.r.length rc5,.slice ka5 TB.kids.length kc5,.slice sa5 TB.sys.length sc5,.int .i64 TA.kind,.int .i64 TA.n,.string TA.name,.slice ra6 TA.r.length rc6,.slice ka6 TA.kids.length kc6,.slice sa6 TA.sys.length sc6] 26 (0,0)):=by rw [hu22,hbk23];exact heapNew _ _
    have hk:Kn (Ng g) u21 u22:=Kn.of_below bu22
    have Hu22:Hid (_=_):=hu22
    have Kbk23:Hid (_=_):=hbk23
    have hK:=hK.trans hk
    have hM:=hM.blw bu22
    have h1:=h1.kn hk (fun _ q=>q)
    have h2:=h2.kn hk (fun _ q=>q)
    have hT5:=hT5.kn hk (fun _ q=>q.1)
    have zu19:=zu19.kn hk (by omega)
    have hT6:=hT6.kn hk (fun _ q=>q.1)
    clear hu22 hbk23
    refine⟨?_⟩
    go_simp
    rw [← Hu22.out]
    try simp only [← Kbk23.out]
    refine hKK.out _ _ (hK) (fun hS=>?_)
    clear hKK KK
    try simp only [Act.put,zg1,zg2,zg3,zs1,zs2,zs3]
    clear hk Hu22
    refine zr 7 rfl (fun KK hKK=>?_)
    refine⟨?_⟩
    have cc:=node_any 15 (some ⟨bk23,0,none⟩) 2 2 u22
    go_simp
    refine cc.mono ?_
    rintro e u24 ⟨rfl,bu24⟩
    have hk:Kn (Ng g) u22 u24:=Kn.of_below bu24
    have hszu24:=hk.size
    have hK:=hK.trans hk
    have hM:=hM.blw bu24
    have h1:=h1.kn hk (fun _ q=>q)
    have h2:=h2.kn hk (fun _ q=>q)
    have hT5:=hT5.kn hk (fun _ q=>q.1)
    have zu19:=zu19.kn hk (by omega)
    have hT6:=hT6.kn hk (fun _ q=>q.1)
    have zu22:=(hk.block bk23 (by show _≠_;omega) (Array.getElem?_eq_some_iff.1 zu22).1).trans zu22
    clear cc
    refine hKK.out _ _ (hK) (fun hS=>?_)
    clear hKK KK
    try simp only [Act.put,zg1,zg2,zg3,zs1,zs2,zs3]
    clear hk
    refine zr 9 rfl (fun KK hKK=>?_)
    obtain⟨w925,hwz,zz2,kz,o0,o1,o2,o3,o4,o5,f0,f1,f2,f3,f4,f5⟩:=zst zu19 (.int .i64 15) (.int .i64 0) (.string ⟨#[]⟩) (.slice none 0 0) (.slice (some ⟨bk23,0,none⟩) 2 2) (.slice none 0 0)
    have Hwz:Hid (_=_):=hwz
    clear hwz
    have zu22:=(kz.block bk23 (by show _≠_;omega) (Array.getElem?_eq_some_iff.1 zu22).1).trans zu22
    have hT5:=(hT5.kn kz (fun _ q=>by have:=q.2.1;have:=q.2.2;omega)).up (ok':=fun r=>r≠g∧r≠bk20) (fun r q=>⟨q.1,by have:=q.2.1;have:=q.2.2;omega⟩)
    have hT6:=(hT6.kn kz (fun _ q=>by have:=q.2.1;have:=q.2.2;omega)).up (ok':=fun r=>r≠g∧r≠bk20) (fun r q=>⟨q.1,by have:=q.2.1;have:=q.2.2;omega⟩)
    have hKd:=kd_two zu22 (ok:=fun r=>r≠g∧r≠bk20) (by omega) hT5 hT6
    have hM:=hM.kn kz (by omega)
    have hK:=hK.new kz (by omega)
    clear kz
    refine⟨?_⟩
    go_simp
    rw [← Hwz.out]
    refine hKK.out _ _ (hK) (fun hS=>?_)
    clear hKK KK
    try simp only [Act.put,zg1,zg2,zg3,zs1,zs2,zs3]
    refine wpAnyH_done (by kernel_rfl) ?_ _
    go_wp2_with fail
    go_meet
    refine⟨bk20,bk23,rfl,?_,?_,?_,?_,?_⟩
    ·omega
    ·with_reducible exact zz2
    ·with_reducible exact hKd
    ·with_reducible exact hM
    ·with_reducible exact hK
  ·skip
   obtain⟨bk27,u26,hbk27,hu26,bu26,su26,lebk27,zu26⟩:=zal wd
   have gbk27:w3.heap.size≤bk27:=by rw [hbk27];exact hK.size
   have hk:Kn (Ng g) wd u26:=Kn.of_below bu26
   have Hu26:Hid (_=_):=hu26
   have Kbk27:Hid (_=_):=hbk27
   have hK:=hK.trans hk
   have hM:=hM.blw bu26
   have h1:=h1.kn hk (fun _ q=>q)
   have h2:=h2.kn hk (fun _ q=>q)
   clear hu26 hbk27
   refine⟨?_⟩
   go_simp
   rw [← Hu26.out]
   try simp only [← Kbk27.out]
   refine hKK.out _ _ (hK) (fun hS=>?_)
   clear hKK KK
   try simp only [Act.put,zg1,zg2,zg3,zs1,zs2,zs3]
   clear hk Hu26
   refine zr 2 rfl (fun KK hKK=>?_)
   refine⟨?_⟩
   have cc:=cB.out g u26 _ _ hM h1.tt
   go_simp
   refine cc.mono ?_
   rintro e u28 ⟨vu28,rfl,hvu28,hMu28,hk⟩
   obtain⟨ra5,rc5,ka5,kc5,sa5,sc5,rfl,ht5⟩:=hvu28.form
   have hT5:=ht5.value
   have hK:=hK.trans hk
   have h1:=h1.kn hk (fun _ q=>q)
   have h2:=h2.kn hk (fun _ q=>q)
   have zu26:=zu26.kn hk (by omega)
   have hM:=hMu28
   have hszu28:=hk.size
   clear cc hvu28 ht5
   refine hKK.out _ _ (hK) (fun hS=>?_)
   clear hKK KK
   try simp only [Act.put,zg1,zg2,zg3,zs1,zs2,zs3]
   clear hk
   refine zr 5 rfl (fun KK hKK=>?_)
   refine⟨?_⟩
   have cc:=cA.out g u28 _ _ hM h2.tt
   go_simp
   refine cc.mono ?_
   rintro e u29 ⟨vu29,rfl,hvu29,hMu29,hk⟩
   obtain⟨ra6,rc6,ka6,kc6,sa6,sc6,rfl,ht6⟩:=hvu29.form
   have hT6:=ht6.value
   have hK:=hK.trans hk
   have h1:=h1.kn hk (fun _ q=>q)
   have h2:=h2.kn hk (fun _ q=>q)
   have zu26:=zu26.kn hk (by omega)
   have hT5:=hT5.kn hk (fun _ q=>q.1)
   have hM:=hMu29
   have hszu29:=hk.size
   clear cc hvu29 ht6
   refine hKK.out _ _ (hK) (fun hS=>?_)
   clear hKK KK
   try simp only [Act.put,zg1,zg2,zg3,zs1,zs2,zs3]
   clear hk
   refine zr 6 rfl (fun KK hKK=>?_)
   obtain⟨bk31,hbk31⟩:∃ q,q=u29.heap.size:=⟨_,rfl⟩
   obtain⟨u30,hu30⟩:∃ W,W=u29.alloc (.cells #[.int .i64 TB.kind,.int .i64 TB.n,.string TB.name,.slice ra5 TB.r.length rc5,.slice ka5 TB.kids.length kc5,.slice sa5 TB.sys.length sc5,.int .i64 TA.kind,.int .i64 TA.n,.string TA.name,.slice ra6 TA.r.length rc6,.slice ka6 TA.kids.length kc6,.slice sa6 TA.sys.length sc6] 26):=⟨_,rfl⟩
   have bu30:Below u29.heap.size u29 u30:=by rw [hu30];exact belowA _ _
   have su30:bk31<u30.heap.size∧u30.heap.size≤bk31+1:=by rw [hu30,hbk31];simp
   have lebk31:u29.heap.size≤bk31:=by omega
   have gbk31:w3.heap.size≤bk31:=by rw [hbk31];exact hK.size
   have zu30:u30.heap[bk31]? = some (.cells #[.int .i64 TB.kind,.int .i64 TB.n,.string TB.name,.slice ra5 TB.r.length rc5,.slice ka5 TB.kids.length kc5,.slice sa5 TB.sys.length sc5,.int .i64 TA.kind,.int .i64 TA.n,.string TA.name,.slice ra6 TA.r.length rc6,.slice ka6 TA.kids.length kc6,.slice sa6 TA.sys.length sc6] 26 (0,0)):=by rw [hu30,hbk31];exact heapNew _ _
   have hk:Kn (Ng g) u29 u30:=Kn.of_below bu30
   have Hu30:Hid (_=_):=hu30
   have Kbk31:Hid (_=_):=hbk31
   have hK:=hK.trans hk
   have hM:=hM.blw bu30
   have h1:=h1.kn hk (fun _ q=>q)
   have h2:=h2.kn hk (fun _ q=>q)
   have zu26:=zu26.kn hk (by omega)
   have hT5:=hT5.kn hk (fun _ q=>q.1)
   have hT6:=hT6.kn hk (fun _ q=>q.1)
   clear hu30 hbk31
   refine⟨?_⟩
   go_simp
   rw [← Hu30.out]
   try simp only [← Kbk31.out]
   refine hKK.out _ _ (hK) (fun hS=>?_)
   clear hKK KK
   try simp only [Act.put,zg1,zg2,zg3,zs1,zs2,zs3]
   clear hk Hu30
   refine zr 7 rfl (fun KK hKK=>?_)
   refine⟨?_⟩
   have cc:=node_any 15 (some ⟨bk31,0,none⟩) 2 2 u30
   go_simp
   refine cc.mono ?_
   rintro e u32 ⟨rfl,bu32⟩
   have hk:Kn (Ng g) u30 u32:=Kn.of_below bu32
   have hszu32:=hk.size
   have hK:=hK.trans hk
   have hM:=hM.blw bu32
   have h1:=h1.kn hk (fun _ q=>q)
   have h2:=h2.kn hk (fun _ q=>q)
   have zu26:=zu26.kn hk (by omega)
   have hT5:=hT5.kn hk (fun _ q=>q.1)
   have hT6:=hT6.kn hk (fun _ q=>q.1)
   have zu30:=(hk.block bk31 (by show _≠_;omega) (Array.getElem?_eq_some_iff.1 zu30).1).trans zu30
   clear cc
   refine hKK.out _ _ (hK) (fun hS=>?_)
   clear hKK KK
   try simp only [Act.put,zg1,zg2,zg3,zs1,zs2,zs3]
   clear hk
   refine zr 9 rfl (fun KK hKK=>?_)
   obtain⟨w933,hwz,zz2,kz,o0,o1,o2,o3,o4,o5,f0,f1,f2,f3,f4,f5⟩:=zst zu26 (.int .i64 15) (.int .i64 0) (.string ⟨#[]⟩) (.slice none 0 0) (.slice (some ⟨bk31,0,none⟩) 2 2) (.slice none 0 0)
   have Hwz:Hid (_=_):=hwz
   clear hwz
   have zu30:=(kz.block bk31 (by show _≠_;omega) (Array.getElem?_eq_some_iff.1 zu30).1).trans zu30
   have hT5:=(hT5.kn kz (fun _ q=>by have:=q.2.1;have:=q.2.2;omega)).up (ok':=fun r=>r≠g∧r≠bk27) (fun r q=>⟨q.1,by have:=q.2.1;have:=q.2.2;omega⟩)
   have hT6:=(hT6.kn kz (fun _ q=>by have:=q.2.1;have:=q.2.2;omega)).up (ok':=fun r=>r≠g∧r≠bk27) (fun r q=>⟨q.1,by have:=q.2.1;have:=q.2.2;omega⟩)
   have hKd:=kd_two zu30 (ok:=fun r=>r≠g∧r≠bk27) (by omega) hT5 hT6
   have hM:=hM.kn kz (by omega)
   have hK:=hK.new kz (by omega)
   clear kz
   refine⟨?_⟩
   go_simp
   rw [← Hwz.out]
   refine hKK.out _ _ (hK) (fun hS=>?_)
   clear hKK KK
   try simp only [Act.put,zg1,zg2,zg3,zs1,zs2,zs3]
   refine wpAnyH_done (by kernel_rfl) ?_ _
   go_wp2_with fail
   go_meet
   refine⟨bk27,bk31,rfl,?_,?_,?_,?_,?_⟩
   ·omega
   ·with_reducible exact zz2
   ·with_reducible exact hKd
   ·with_reducible exact hM
   ·with_reducible exact hK
 case rest =>
 obtain⟨o,q,rfl,ho,x5,hKd,hM',hk5⟩:=hcut
 obtain⟨w5,hw5⟩:∃ V,V=wc:=⟨_,rfl⟩
 subst hw5
 have hs5:=hk5.size
 have Hk5:Hid (Kn (Ng g) w w5):=(Kn.of_below Hk3.out).trans hk5
 have hol:=x5.lt
 have hgl:=hM'.lt
 have HKd:Hid (∀ V,Kn (fun q=>q<w5.heap.size∧q≠g∧q≠o) w5 V→KdT (fun r=>r≠g∧r≠o) V (TmIn (fun r=>r≠g∧r≠o) V) [TB,TA] (.slice (some ⟨q,0,none⟩) 2 2)):=fun V k=>((hKd.ltA (ok':=fun r=>r<w5.heap.size∧r≠g∧r≠o) (fun r h hs=>⟨hs,h⟩)).kn k (fun r h=>h)).all (Nat.le_refl _) (fun r h=>h.2) (fun _ _ _=>rfl)
 have HSy:Hid (∀ V,Kn (fun q=>q<w5.heap.size∧q≠g∧q≠o) w5 V→SyT (fun q=>q<X) V (TmIn (fun q=>q<X) V) sys (.slice sa3 LS sc3)):=fun V k=>HSy.out V ((hk5.sub (fun r (h:r<X)=>by show r≠g;omega)).trans (k.sub (fun r (h:r<X)=>⟨by omega,by omega,by omega⟩)))
 have HA:Hid (∀ V,Kn (fun q=>q<w5.heap.size∧q≠g∧q≠o) w5 V→TmIn Tt V a (.agg #[.int .i64 a.kind,.int .i64 a.n,.string a.name,.slice ra2 a.r.length rc2,.slice ka2 a.kids.length kc2,.slice sa2 a.sys.length sc2])∧Six V (X+1) (.int .i64 a.kind) (.int .i64 a.n) (.string a.name) (.slice ra2 a.r.length rc2) (.slice ka2 a.kids.length kc2) (.slice sa2 a.sys.length sc2)∧Six V (X+2) (.int .i64 0) (.int .i64 0) (.string ⟨#[]⟩) (.slice none 0 0) (.slice none 0 0) (.slice none 0 0)):=fun V k=>HA.out V ((hk5.sub (fun r (h:r<X+3)=>by show r≠g;omega)).trans (k.sub (fun r (h:r<X+3)=>⟨by omega,by omega,by omega⟩)))
 have hM:=hM'
 have hoX:X+4≤o∧g<o∧g≠o:=by omega
 obtain⟨f0,hf0⟩:∃ f,f=fstE (fstE 0 eB) eA:=⟨_,rfl⟩
 rw [← hf0] at hM HF
 clear hM' h1 h2 x1 x2 x3 hk5 Hk3 hKd hf0
 have hQ0:QOwn w5.heap.size (fun r=>r≠g∧r≠o) w5 (.slice none 0 0) ((sys.take 0).map flB):=QOwn.nil _ _ _
 go_upto_region 6 with fail
 go_wp2_with fail
 go_loopw [33] (fun i wr=>∃ k:Nat,k≤LS∧i=.int .i64 k∧∃ va,QOwn w5.heap.size (fun r=>r≠g∧r≠o) wr va ((sys.take k).map flB)∧Mk wr g (flG f0 (sys.take k))∧Six wr o (.int .i64 15) (.int .i64 0) (.string ⟨#[]⟩) (.slice none 0 0) (.slice (some ⟨q,0,none⟩) 2 2) va∧Kn (fun q=>q<w5.heap.size∧q≠g∧q≠o) w5 wr) (fun i _=>LS - (intOf i).toNat)
 case atStart=>exact⟨0,Nat.zero_le _,rfl,_,hQ0,hM,x5,Kn.refl _ _⟩
 case round =>
 clear hQ0 hM x5
 obtain⟨w6,hwr⟩:∃ V,V=wr:=⟨_,rfl⟩
 subst hwr
 obtain⟨k,hk,rfl,va,hQ,hM,x5,hK5⟩:=hrel
 by_cases hlt:k<LS
 rotate_left
 ·skip
  have hkI:¬ (k:Int) < (LS:Int):=by omega
  obtain rfl:k=LS:=by omega
  have eR:(sys.take k).map flB=sys.map flB:=by rw [List.take_of_length_le (by rw [← HLS.out];exact Nat.le_refl _)]
  have eG:flG f0 (sys.take k)=flG f0 sys:=by rw [List.take_of_length_le (by rw [← HLS.out];exact Nat.le_refl _)]
  rw [eR] at hQ
  rw [eG] at hM
  obtain⟨f,hf⟩:∃ f,f=flG f0 sys:=⟨_,rfl⟩
  obtain⟨rows,hrows⟩:∃ l,l=sys.map flB:=⟨_,rfl⟩
  have HRl:Hid (rows.length≤150):=by show rows.length≤150;rw [hrows,List.length_map];exact HSl.out
  rw [← hf] at hM HF
  rw [← hrows] at hQ HF
  have HVa:Hid (∀ x,va.ownBlock=some x→w5.heap.size≤x∧x<w6.heap.size∧x≠g∧x≠o):=fun x hx=>by
   obtain⟨us,h1,h2,h3,h4⟩:=id hQ
   have h5:=World.ownsRow.lt h2 x hx
   exact⟨h5.1,h5.2,h3 x hx⟩
  have HBw:Hid (∀ V,Kn (fun q=>q<X) w5 V→Below X w V):=fun V kk=>((Hk5.out.sub (fun q (h:q<X)=>by show q≠g;omega)).trans kk).below (fun q h=>h) (by rw [HX.out];exact Nat.le_refl _)
  have hs6:=hK5.size
  obtain⟨w7,hw7⟩:∃ W,W=w6:=⟨_,rfl⟩
  rw [← hw7] at hQ hM x5 hK5 hs6 HVa ⊢
  clear hw7 w6 eR eG hf hrows
  go_upto_region 11 with fail
  have hlo:g<w7.heap.size:=hM.lt
  have hol7:o<w7.heap.size:=x5.lt
  obtain⟨hTa0,hxa,_⟩:=HA.out w7 hK5
  have HVl:Hid (∀ x,va.ownBlock=some x→x<w7.heap.size):=fun x hx=>(HVa.out x hx).2.1
  have Hoo:Hid (KKq g va o):=⟨by omega,fun e=>(HVa.out o e.symm).2.2.2 rfl⟩
  have HXX:Hid (∀ x,x<X+3→KKq g va x):=fun x hx=>⟨by omega,fun e=>by have:=(HVa.out x e.symm).1;omega⟩
  have HNo:Hid (∀ x,(fun r=>r≠g∧r≠o) x→x≠g):=fun x hx=>hx.1
  have HXa:Hid (∀ V,Kn (KKq g va) w7 V→TmIn Tt V a (.agg #[.int .i64 a.kind,.int .i64 a.n,.string a.name,.slice ra2 a.r.length rc2,.slice ka2 a.kids.length kc2,.slice sa2 a.sys.length sc2])∧Six V (X+1) (.int .i64 a.kind) (.int .i64 a.n) (.string a.name) (.slice ra2 a.r.length rc2) (.slice ka2 a.kids.length kc2) (.slice sa2 a.sys.length sc2)):=fun V q=>by
   have z:=HA.out V (hK5.trans (q.sub fun x hx=>⟨hx.2.1,fun e=>by have:=(HVa.out x e.symm).1;omega⟩))
   exact⟨z.1,z.2.1⟩
  clear hTa0 hxa
  refine wp_region_any (by kernel_rfl) ?_
  obtain⟨wd,hwd⟩:∃ V,V={ w7 with drawn:=w7.drawn+1 }:=⟨_,rfl⟩
  rw [← hwd]
  have hbd:Below w7.heap.size w7 wd:=by rw [hwd];exact (Below.refl _ _).drew
  generalize hA0:({ tmps:=_,defers:=[] }:Act)=a0
  have s0:a0.tmps.size=74∧a0.defers=[]:=by rw [← hA0];exact⟨rfl,rfl⟩
  have s4:a0.tmps[4]? = some (.pointer (some ⟨X+1,0,none⟩)):=by rw [← hA0];rfl
  have s9:a0.tmps[9]? = some (.pointer (some ⟨g,0,none⟩)):=by rw [← hA0];rfl
  have s10:a0.tmps[10]? = some (.pointer (some ⟨o,0,none⟩)):=by rw [← hA0];rfl
  refine region_invL (γ:=Nat × Option Value) 10 (fun i v G w=>match i with
   | 0=>v=.pointer (some ⟨o,5,none⟩)
   | 1=>v=va
   | 2=>∃ a c,v=.slice a 1 c∧ClRow (OkL w7.heap.size) w [negB 0] v
   | 3=>v=.pointer (some ⟨g,0,none⟩)
   | 4=>v=.agg #[.int .i64 a.kind,.int .i64 a.n,.string a.name,.slice ra2 a.r.length rc2,.slice ka2 a.kids.length kc2,.slice sa2 a.sys.length sc2]
   | 5=>∃ ra rc ka kc sa sc,v=.agg #[.int .i64 TC.kind,.int .i64 TC.n,.string TC.name,.slice ra TC.r.length rc,.slice ka TC.kids.length kc,.slice sa TC.sys.length sc]∧TmIn (OkL w7.heap.size) w TC v∧1≤G.1
   | 6=>∃ a c ob2,v=.agg #[.slice a 1 c,.slice (some ⟨ob2,0,none⟩) 1 1]∧ClRow (OkL w7.heap.size) w [negB 0] (.slice a 1 c)∧KdT (OkL w7.heap.size) w (TmIn (OkL w7.heap.size) w) [TC] (.slice (some ⟨ob2,0,none⟩) 1 1)
   | 7=>∃ a c ob2 bk,v=.slice (some ⟨bk,0,none⟩) 1 1∧w7.heap.size≤bk∧w.heap[bk]? = some (.cells #[.slice a 1 c,.slice (some ⟨ob2,0,none⟩) 1 1] 50 (0,0))∧ClRow (OkL w7.heap.size) w [negB 0] (.slice a 1 c)∧KdT (OkL w7.heap.size) w (TmIn (OkL w7.heap.size) w) [TC] (.slice (some ⟨ob2,0,none⟩) 1 1)
   | 8=>G.2=some v
   | 9=>v=.pointer (some ⟨o,5,none⟩)
   | _=>True) (fun ac=>ac.defers=[]∧ac.tmps.size=74∧∀ k,k<59∨69≤k→ac.tmps[k]? = a0.tmps[k]?) (BaF 5 5 8 g w5.heap.size (fun r=>r≠g∧r≠o) f (fstE f eC) (fstE f eC) va rows ([negB 0],[TC]) w7) (ChF g va)
   ?_ ?_ ?_ ?_ ?_ ?_ 10 _ a0 (0,none) wd ?_ ?_ ?_ ?_ ?_ ?_
  ·kernel_rfl
  ·rintro ac ⟨h1,h2,h3⟩ i o d hi ho hd
   match i,hi with
   | 0,_=>cases ho;cases hd;rw [h2];decide
   | 1,_=>cases ho;cases hd;rw [h2];decide
   | 2,_=>cases ho;cases hd;rw [h2];decide
   | 3,_=>cases ho;cases hd;rw [h2];decide
   | 4,_=>cases ho;cases hd;rw [h2];decide
   | 5,_=>cases ho;cases hd;rw [h2];decide
   | 6,_=>cases ho;cases hd;rw [h2];decide
   | 7,_=>cases ho;cases hd;rw [h2];decide
   | 8,_=>cases ho;cases hd;rw [h2];decide
   | 9,_=>cases ho;cases hd;rw [h2];decide
   | n+10,hi=>exact absurd hi (by omega)
  ·rintro ac i o v hi ho ⟨h1,h2,h3⟩
   match i,hi with
   | 0,_=>cases ho;exact⟨h1,by show (ac.tmps.setIfInBounds _ _).size=74;rw [Array.size_setIfInBounds];exact h2,fun k q1=>(slot_put (by omega) v).trans (h3 k q1)⟩
   | 1,_=>cases ho;exact⟨h1,by show (ac.tmps.setIfInBounds _ _).size=74;rw [Array.size_setIfInBounds];exact h2,fun k q1=>(slot_put (by omega) v).trans (h3 k q1)⟩
   | 2,_=>cases ho;exact⟨h1,by show (ac.tmps.setIfInBounds _ _).size=74;rw [Array.size_setIfInBounds];exact h2,fun k q1=>(slot_put (by omega) v).trans (h3 k q1)⟩
   | 3,_=>cases ho;exact⟨h1,by show (ac.tmps.setIfInBounds _ _).size=74;rw [Array.size_setIfInBounds];exact h2,fun k q1=>(slot_put (by omega) v).trans (h3 k q1)⟩
   | 4,_=>cases ho;exact⟨h1,by show (ac.tmps.setIfInBounds _ _).size=74;rw [Array.size_setIfInBounds];exact h2,fun k q1=>(slot_put (by omega) v).trans (h3 k q1)⟩
   | 5,_=>cases ho;exact⟨h1,by show (ac.tmps.setIfInBounds _ _).size=74;rw [Array.size_setIfInBounds];exact h2,fun k q1=>(slot_put (by omega) v).trans (h3 k q1)⟩
   | 6,_=>cases ho;exact⟨h1,by show (ac.tmps.setIfInBounds _ _).size=74;rw [Array.size_setIfInBounds];exact h2,fun k q1=>(slot_put (by omega) v).trans (h3 k q1)⟩
   | 7,_=>cases ho;exact⟨h1,by show (ac.tmps.setIfInBounds _ _).size=74;rw [Array.size_setIfInBounds];exact h2,fun k q1=>(slot_put (by omega) v).trans (h3 k q1)⟩
   | 8,_=>cases ho;exact⟨h1,by show (ac.tmps.setIfInBounds _ _).size=74;rw [Array.size_setIfInBounds];exact h2,fun k q1=>(slot_put (by omega) v).trans (h3 k q1)⟩
   | 9,_=>cases ho;exact⟨h1,by show (ac.tmps.setIfInBounds _ _).size=74;rw [Array.size_setIfInBounds];exact h2,fun k q1=>(slot_put (by omega) v).trans (h3 k q1)⟩
   | n+10,hi=>exact absurd hi (by omega)
  ·intro i v G w G' w' c h
   match i with
   | 0=>exact h
   | 1=>exact h
   | 2=>obtain⟨a,d,e,h⟩:=h;exact⟨a,d,e,cl_cf h c hlo HVl.out⟩
   | 3=>exact h
   | 4=>exact h
   | 5=>obtain⟨ra,rc,ka,kc,sa,sc,e,h,n⟩:=h;exact⟨ra,rc,ka,kc,sa,sc,e,tm_cf h c hlo HVl.out,Nat.le_trans n c.2.1⟩
   | 6=>obtain⟨a,d,o2,e,h,n⟩:=h;exact⟨a,d,o2,e,cl_cf h c hlo HVl.out,kd_cf n c hlo HVl.out⟩
   | 7=>obtain⟨a,d,o2,bk,e,z1,z2,h,n⟩:=h;exact⟨a,d,o2,bk,e,z1,bk_cf z2 c hlo HVl.out z1,cl_cf h c hlo HVl.out,kd_cf n c hlo HVl.out⟩
   | 8=>exact c.2.2 v h
   | 9=>exact h
   | _+10=>trivial
  ·intro i hi o' ho' l ac G w hil hfl hB ⟨h1,h2,h3⟩ hF
   have sl:∀ k,k<59→ac.tmps[k]? = a0.tmps[k]?:=fun k hk=>h3 k (.inl hk)
   have gd:∀ k (hk:k<ac.tmps.size),ac.tmps.getD k undef=ac.tmps[k]:=fun k hk=>by unfold Array.getD;rw [dif_pos hk];rfl
   have sz:=hB.kn.size
   match i,hi with
   | 0,_ =>
    cases ho'
    clear hF
    obtain⟨_,p10⟩:=Array.getElem?_eq_some_iff.1 ((sl 10 (by omega)).trans s10)
    go_simp
    exact⟨_,rfl,G.1,G.2,baf_pure hB _,chf_call (Kn.refl _ _),rfl⟩
   | 1,_ =>
    cases ho'
    have f0:(fun v=>v=.pointer (some ⟨o,5,none⟩)) (ac.tmps.getD 59 undef):=hF ⟨0,.data⟩ (by simp) rfl
    rw [gd 59 (by omega)] at f0
    clear hF
    have xq:Six w o (.int .i64 15) (.int .i64 0) (.string ⟨#[]⟩) (.slice none 0 0) (.slice (some ⟨q,0,none⟩) 2 2) va:=⟨(hB.kn.block o Hoo.out x5.lt).trans x5.blk⟩
    obtain⟨_,_,_,_,_,g5,_⟩:=xq.cells
    go_simp
    exact⟨_,rfl,G.1,G.2,baf_pure hB _,chf_call (Kn.refl _ _),rfl⟩
   | 2,_ =>
    cases ho'
    obtain⟨_,p9⟩:=Array.getElem?_eq_some_iff.1 ((sl 9 (by omega)).trans s9)
    clear hF
    have cc:=misZero_any g _ w hB.mm
    go_simp
    refine cc.mono ?_
    rintro e w' ⟨v',rfl,hR,hM',hk⟩
    obtain⟨a1,c1,e1,_⟩:=id hR
    simp only [List.length_cons,List.length_nil,Nat.zero_add] at e1
    subst e1
    exact⟨_,rfl,G.1,G.2,baf_call hB HNo.out _ hk hM',chf_call hk,⟨_,_,rfl⟩,hR.keep (Nat.le_refl _) (fun q hq=>by have:=hq.2.1;show w7.heap.size≤q;omega) (fun _ _ _=>rfl)⟩
   | 3,_ =>
    cases ho'
    clear hF
    obtain⟨_,p9⟩:=Array.getElem?_eq_some_iff.1 ((sl 9 (by omega)).trans s9)
    go_simp
    exact⟨_,rfl,G.1,G.2,baf_pure hB _,chf_call (Kn.refl _ _),rfl⟩
   | 4,_ =>
    cases ho'
    clear hF
    obtain⟨_,p4⟩:=Array.getElem?_eq_some_iff.1 ((sl 4 (by omega)).trans s4)
    obtain⟨g0,g1,g2,g3,g4,g5,_⟩:=(HXa.out w hB.kn).2.cells
    go_simp
    exact⟨_,rfl,G.1,G.2,baf_pure hB _,chf_call (Kn.refl _ _),rfl⟩
   | 5,_ =>
    cases ho'
    have f3:(fun v=>v=.pointer (some ⟨g,0,none⟩)) (ac.tmps.getD 62 undef):=hF ⟨3,.data⟩ (by simp) rfl
    rw [gd 62 (by omega)] at f3
    have f4:(fun v=>v=.agg #[.int .i64 a.kind,.int .i64 a.n,.string a.name,.slice ra2 a.r.length rc2,.slice ka2 a.kids.length kc2,.slice sa2 a.sys.length sc2]) (ac.tmps.getD 63 undef):=hF ⟨4,.data⟩ (by simp) rfl
    rw [gd 63 (by omega)] at f4
    clear hF
    have hm:Mk w g f:=by have:=hB.mm;rw [hB.s0 hfl] at this;exact this
    have cc:=cA2.out g w _ _ hm (HXa.out w hB.kn).1
    go_simp
    refine cc.mono ?_
    rintro e w' ⟨v',rfl,hv,hM',hk⟩
    obtain⟨ra,rc,ka,kc,sa,sc,rfl,ht⟩:=hv.form
    exact⟨_,rfl,1,G.2,baf_step hB HNo.out 5 1 hil hk hM' (.inl rfl) (.inl (Nat.le_refl _)),chf_step hk (by rw [hB.s0 hfl];decide),⟨_,_,_,_,_,_,rfl⟩,ht.value.up (fun q hq=>by have:=hq.2.1;show w7.heap.size≤q;omega),Nat.le_refl _⟩
   | 6,_ =>
    cases ho'
    have f2:(fun v=>∃ a c,v=.slice a 1 c∧ClRow (OkL w7.heap.size) w [negB 0] v) (ac.tmps.getD 61 undef):=hF ⟨2,.data⟩ (by simp) rfl
    rw [gd 61 (by omega)] at f2
    have f5:(fun v=>∃ ra rc ka kc sa sc,v=.agg #[.int .i64 TC.kind,.int .i64 TC.n,.string TC.name,.slice ra TC.r.length rc,.slice ka TC.kids.length kc,.slice sa TC.sys.length sc]∧TmIn (OkL w7.heap.size) w TC v∧1≤G.1) (ac.tmps.getD 64 undef):=hF ⟨5,.data⟩ (by simp) rfl
    rw [gd 64 (by omega)] at f5
    obtain⟨a1,d1,e2',r2⟩:=f2
    rw [e2'] at r2
    obtain⟨ra,rc,ka,kc,sa,sc,e5,t5,_⟩:=f5
    rw [e5] at t5
    clear hF
    have cc:=branch_any (OkL w7.heap.size) [negB 0] _ TC _ w r2 t5
    go_simp
    refine cc.mono ?_
    rintro e w' ⟨o2,rfl,hr,hkd2,hb⟩
    exact⟨_,rfl,G.1,G.2,baf_call hB HNo.out _ (Kn.of_below hb) (hB.mm.blw hb),chf_call (Kn.of_below hb),_,_,_,rfl,hr,hkd2.all (Nat.le_refl _) (fun q hq=>by rcases hq with hq | hq;exact hq;show w7.heap.size≤q;omega) (fun _ _ _=>rfl)⟩
   | 7,_ =>
    cases ho'
    have f6:(fun v=>∃ a c ob2,v=.agg #[.slice a 1 c,.slice (some ⟨ob2,0,none⟩) 1 1]∧ClRow (OkL w7.heap.size) w [negB 0] (.slice a 1 c)∧KdT (OkL w7.heap.size) w (TmIn (OkL w7.heap.size) w) [TC] (.slice (some ⟨ob2,0,none⟩) 1 1)) (ac.tmps.getD 65 undef):=hF ⟨6,.data⟩ (by simp) rfl
    rw [gd 65 (by omega)] at f6
    obtain⟨a1,d1,o2,e6,r6,k6⟩:=f6
    clear hF
    go_simp
    generalize hW:w.alloc _=W
    have bW:Below w.heap.size w W:=by rw [← hW];exact belowA _ _
    have zW:W.heap[w.heap.size]? = some (.cells #[.slice a1 1 d1,.slice (some ⟨o2,0,none⟩) 1 1] 50 (0,0)):=by rw [← hW];exact heapNew _ _
    exact⟨_,rfl,G.1,G.2,baf_call hB HNo.out _ (Kn.of_below bW) (hB.mm.blw bW),chf_call (Kn.of_below bW),_,_,_,_,rfl,sz,zW,r6.blw bW,k6.blw bW⟩
   | 8,_ =>
    cases ho'
    have f1:(fun v=>v=va) (ac.tmps.getD 60 undef):=hF ⟨1,.data⟩ (by simp) rfl
    rw [gd 60 (by omega)] at f1
    have f7:(fun v=>∃ a c ob2 bk,v=.slice (some ⟨bk,0,none⟩) 1 1∧w7.heap.size≤bk∧w.heap[bk]? = some (.cells #[.slice a 1 c,.slice (some ⟨ob2,0,none⟩) 1 1] 50 (0,0))∧ClRow (OkL w7.heap.size) w [negB 0] (.slice a 1 c)∧KdT (OkL w7.heap.size) w (TmIn (OkL w7.heap.size) w) [TC] (.slice (some ⟨ob2,0,none⟩) 1 1)) (ac.tmps.getD 66 undef):=hF ⟨7,.data⟩ (by simp) rfl
    rw [gd 66 (by omega)] at f7
    obtain⟨a1,d1,o2,bk,e7,hbk,z7,r7,k7⟩:=f7
    clear hF
    have hg2:=hB.s2 hfl
    have hq:=hB.q0 hg2
    obtain⟨v',W',hrun,hQ',hgr,hov⟩:=append_Q (x:=([negB 0],[TC])) (u:=(.slice a1 1 d1,.slice (some ⟨o2,0,none⟩) 1 1)) 24 hq ⟨bk,0,none⟩ 1 (cell2 z7) ⟨r7.lt' (fun x h hs=>⟨hs,fun e=>by have:=HVl.out x e.symm;have:w7.heap.size≤x:=h;omega,by have:w7.heap.size≤x:=h;exact⟨by omega,by omega⟩⟩),k7.ltA (fun x h hs=>⟨hs,fun e=>by have:=HVl.out x e.symm;have:w7.heap.size≤x:=h;omega,by have:w7.heap.size≤x:=h;exact⟨by omega,by omega⟩⟩)⟩ (by have:=HRl.out;omega) (by omega) ⟨by omega,by omega⟩
    have hkG:Kn (KKq g va) w W':=(Kn.grown hgr).sub (fun x hx=>hx.2)
    have hMg:Mk W' g (er3 f (fstE f eC) (fstE f eC) G.1):=hB.mm.kn (Kn.grown hgr) (fun e=>(HVa.out g e.symm).2.2.1 rfl)
    refine oper_append _ _ _ rfl _ _ v' W' (by go_simp) (by go_simp) hrun ?_
    refine⟨v',(G.1,some v'),rfl,(by intro h;cases h),⟨hMg,hB.kn.trans hkG,fun e=>hB.s0 (getDf_true e),fun e=>hB.s1 (getDf_true e),fun e=>?_,fun e=>?_,fun v2 e=>?_⟩,⟨hkG,Nat.le_refl _,fun v2 e=>?_⟩,rfl⟩
    ·rw [getD_set hil,if_pos rfl] at e;cases e
    ·cases e
    ·injection e with e;rw [← e];exact hQ'
    ·rw [hg2] at e;cases e
   | 9,_ =>
    cases ho'
    clear hF
    obtain⟨_,p10⟩:=Array.getElem?_eq_some_iff.1 ((sl 10 (by omega)).trans s10)
    go_simp
    exact⟨_,rfl,G.1,G.2,baf_pure hB _,chf_call (Kn.refl _ _),rfl⟩
   | n+10,hi=>exact absurd hi (by omega)
  ·intro l ac G w hu hB ⟨h1,h2,h3⟩ hF
   have gd:∀ k (hk:k<ac.tmps.size),ac.tmps.getD k undef=ac.tmps[k]:=fun k hk=>by unfold Array.getD;rw [dif_pos hk];rfl
   have f5:(fun v=>∃ ra rc ka kc sa sc,v=.agg #[.int .i64 TC.kind,.int .i64 TC.n,.string TC.name,.slice ra TC.r.length rc,.slice ka TC.kids.length kc,.slice sa TC.sys.length sc]∧TmIn (OkL w7.heap.size) w TC v∧1≤G.1) (ac.tmps.getD 64 undef):=hF 5 (by omega)
   obtain⟨_,_,_,_,_,_,_,_,hn2⟩:=f5
   have f8:(fun v=>G.2=some v) (ac.tmps.getD 67 undef):=hF 8 (by omega)
   rw [gd 67 (by omega)] at f8
   have f9:(fun v=>v=.pointer (some ⟨o,5,none⟩)) (ac.tmps.getD 68 undef):=hF 9 (by omega)
   rw [gd 68 (by omega)] at f9
   clear hF
   have hQ':=hB.q1 _ f8
   have hMz:Mk w g (fstE f eC):=by
    have:=hB.mm
    unfold er3 at this
    rw [if_neg (by omega)] at this
    split at this <;> exact this
   have xq:Six w o (.int .i64 15) (.int .i64 0) (.string ⟨#[]⟩) (.slice none 0 0) (.slice (some ⟨q,0,none⟩) 2 2) va:=⟨(hB.kn.block o Hoo.out x5.lt).trans x5.blk⟩
   obtain⟨v9,hv9⟩:∃ x,x=ac.tmps[67]:=⟨_,rfl⟩
   rw [← hv9] at hQ'
   obtain⟨qa,qc,eq⟩:=hQ'.len
   simp only [List.length_append,List.length_cons,List.length_nil,Nat.zero_add] at eq
   subst eq
   have h67:=hv9.symm
   clear hv9
   refine tail_one (by kernel_rfl) rfl rfl hu ?_
   have z5:=xq.set5 (.slice qa (rows.length+1) qc)
   obtain⟨o0,o1,o2,o3,o4,o5,ff⟩:=xq.cells
   have g5:=ff 5
   obtain⟨W,hwz⟩:∃ W,W=w.setCell ⟨o,5,none⟩ (.slice qa (rows.length+1) qc):=⟨_,rfl⟩
   rw [← hwz] at z5
   have kz:Kn (fun x=>x≠o) w W:=by rw [hwz];exact kn_set _ _ _ _
   have hQ9:=hQ'.keep kz (fun x hx=>hx.2)
   have hM9:=hMz.kn kz (by omega)
   have hK9:Kn (fun q=>q<w5.heap.size∧q≠g∧q≠o) w5 W:=(hK5.trans (hB.kn.sub (fun x hx=>⟨hx.2.1,fun e=>by have:=(HVa.out x e.symm).1;omega⟩))).trans (kz.sub (fun x hx=>hx.2.2))
   have Hwz:Hid (_=_):=hwz
   clear hwz
   go_simp
   rw [← Hwz.out]
   clear kz hB xq hQ' hMz g5 o0 o1 o2 o3 o4 o5 Hwz hu f8 gd f9 h67
   subst hA0
   obtain⟨⟨l⟩,df⟩:=ac
   cases h1
   have hl:l.length=74:=h2
   clear h2
   obtain⟨x0,l,rfl⟩:=List.exists_cons_of_length_pos (l:=l) (by omega)
   simp only [List.length_cons] at hl
   obtain⟨x1,l,rfl⟩:=List.exists_cons_of_length_pos (l:=l) (by omega)
   simp only [List.length_cons] at hl
   obtain⟨x2,l,rfl⟩:=List.exists_cons_of_length_pos (l:=l) (by omega)
   simp only [List.length_cons] at hl
   obtain⟨x3,l,rfl⟩:=List.exists_cons_of_length_pos (l:=l) (by omega)
   simp only [List.length_cons] at hl
   obtain⟨x4,l,rfl⟩:=List.exists_cons_of_length_pos (l:=l) (by omega)
   simp only [List.length_cons] at hl
   obtain⟨x5,l,rfl⟩:=List.exists_cons_of_length_pos (l:=l) (by omega)
   simp only [List.length_cons] at hl
   obtain⟨x6,l,rfl⟩:=List.exists_cons_of_length_pos (l:=l) (by omega)
   simp only [List.length_cons] at hl
   obtain⟨x7,l,rfl⟩:=List.exists_cons_of_length_pos (l:=l) (by omega)
   simp only [List.length_cons] at hl
   obtain⟨x8,l,rfl⟩:=List.exists_cons_of_length_pos (l:=l) (by omega)
   simp only [List.length_cons] at hl
   obtain⟨x9,l,rfl⟩:=List.exists_cons_of_length_pos (l:=l) (by omega)
   simp only [List.length_cons] at hl
   obtain⟨x10,l,rfl⟩:=List.exists_cons_of_length_pos (l:=l) (by omega)
   simp only [List.length_cons] at hl
   obtain⟨x11,l,rfl⟩:=List.exists_cons_of_length_pos (l:=l) (by omega)
   simp only [List.length_cons] at hl
   obtain⟨x12,l,rfl⟩:=List.exists_cons_of_length_pos (l:=l) (by omega)
   simp only [List.length_cons] at hl
   obtain⟨x13,l,rfl⟩:=List.exists_cons_of_length_pos (l:=l) (by omega)
   simp only [List.length_cons] at hl
   obtain⟨x14,l,rfl⟩:=List.exists_cons_of_length_pos (l:=l) (by omega)
   simp only [List.length_cons] at hl
   obtain⟨x15,l,rfl⟩:=List.exists_cons_of_length_pos (l:=l) (by omega)
   simp only [List.length_cons] at hl
   obtain⟨x16,l,rfl⟩:=List.exists_cons_of_length_pos (l:=l) (by omega)
   simp only [List.length_cons] at hl
   obtain⟨x17,l,rfl⟩:=List.exists_cons_of_length_pos (l:=l) (by omega)
   simp only [List.length_cons] at hl
   obtain⟨x18,l,rfl⟩:=List.exists_cons_of_length_pos (l:=l) (by omega)
   simp only [List.length_cons] at hl
   obtain⟨x19,l,rfl⟩:=List.exists_cons_of_length_pos (l:=l) (by omega)
   simp only [List.length_cons] at hl
   obtain⟨x20,l,rfl⟩:=List.exists_cons_of_length_pos (l:=l) (by omega)
   simp only [List.length_cons] at hl
   obtain⟨x21,l,rfl⟩:=List.exists_cons_of_length_pos (l:=l) (by omega)
   simp only [List.length_cons] at hl
   obtain⟨x22,l,rfl⟩:=List.exists_cons_of_length_pos (l:=l) (by omega)
   simp only [List.length_cons] at hl
   obtain⟨x23,l,rfl⟩:=List.exists_cons_of_length_pos (l:=l) (by omega)
   simp only [List.length_cons] at hl
   obtain⟨x24,l,rfl⟩:=List.exists_cons_of_length_pos (l:=l) (by omega)
   simp only [List.length_cons] at hl
   obtain⟨x25,l,rfl⟩:=List.exists_cons_of_length_pos (l:=l) (by omega)
   simp only [List.length_cons] at hl
   obtain⟨x26,l,rfl⟩:=List.exists_cons_of_length_pos (l:=l) (by omega)
   simp only [List.length_cons] at hl
   obtain⟨x27,l,rfl⟩:=List.exists_cons_of_length_pos (l:=l) (by omega)
   simp only [List.length_cons] at hl
   obtain⟨x28,l,rfl⟩:=List.exists_cons_of_length_pos (l:=l) (by omega)
   simp only [List.length_cons] at hl
   obtain⟨x29,l,rfl⟩:=List.exists_cons_of_length_pos (l:=l) (by omega)
   simp only [List.length_cons] at hl
   obtain⟨x30,l,rfl⟩:=List.exists_cons_of_length_pos (l:=l) (by omega)
   simp only [List.length_cons] at hl
   obtain⟨x31,l,rfl⟩:=List.exists_cons_of_length_pos (l:=l) (by omega)
   simp only [List.length_cons] at hl
   obtain⟨x32,l,rfl⟩:=List.exists_cons_of_length_pos (l:=l) (by omega)
   simp only [List.length_cons] at hl
   obtain⟨x33,l,rfl⟩:=List.exists_cons_of_length_pos (l:=l) (by omega)
   simp only [List.length_cons] at hl
   obtain⟨x34,l,rfl⟩:=List.exists_cons_of_length_pos (l:=l) (by omega)
   simp only [List.length_cons] at hl
   obtain⟨x35,l,rfl⟩:=List.exists_cons_of_length_pos (l:=l) (by omega)
   simp only [List.length_cons] at hl
   obtain⟨x36,l,rfl⟩:=List.exists_cons_of_length_pos (l:=l) (by omega)
   simp only [List.length_cons] at hl
   obtain⟨x37,l,rfl⟩:=List.exists_cons_of_length_pos (l:=l) (by omega)
   simp only [List.length_cons] at hl
   obtain⟨x38,l,rfl⟩:=List.exists_cons_of_length_pos (l:=l) (by omega)
   simp only [List.length_cons] at hl
   obtain⟨x39,l,rfl⟩:=List.exists_cons_of_length_pos (l:=l) (by omega)
   simp only [List.length_cons] at hl
   obtain⟨x40,l,rfl⟩:=List.exists_cons_of_length_pos (l:=l) (by omega)
   simp only [List.length_cons] at hl
   obtain⟨x41,l,rfl⟩:=List.exists_cons_of_length_pos (l:=l) (by omega)
   simp only [List.length_cons] at hl
   obtain⟨x42,l,rfl⟩:=List.exists_cons_of_length_pos (l:=l) (by omega)
   simp only [List.length_cons] at hl
   obtain⟨x43,l,rfl⟩:=List.exists_cons_of_length_pos (l:=l) (by omega)
   simp only [List.length_cons] at hl
   obtain⟨x44,l,rfl⟩:=List.exists_cons_of_length_pos (l:=l) (by omega)
   simp only [List.length_cons] at hl
   obtain⟨x45,l,rfl⟩:=List.exists_cons_of_length_pos (l:=l) (by omega)
   simp only [List.length_cons] at hl
   obtain⟨x46,l,rfl⟩:=List.exists_cons_of_length_pos (l:=l) (by omega)
   simp only [List.length_cons] at hl
   obtain⟨x47,l,rfl⟩:=List.exists_cons_of_length_pos (l:=l) (by omega)
   simp only [List.length_cons] at hl
   obtain⟨x48,l,rfl⟩:=List.exists_cons_of_length_pos (l:=l) (by omega)
   simp only [List.length_cons] at hl
   obtain⟨x49,l,rfl⟩:=List.exists_cons_of_length_pos (l:=l) (by omega)
   simp only [List.length_cons] at hl
   obtain⟨x50,l,rfl⟩:=List.exists_cons_of_length_pos (l:=l) (by omega)
   simp only [List.length_cons] at hl
   obtain⟨x51,l,rfl⟩:=List.exists_cons_of_length_pos (l:=l) (by omega)
   simp only [List.length_cons] at hl
   obtain⟨x52,l,rfl⟩:=List.exists_cons_of_length_pos (l:=l) (by omega)
   simp only [List.length_cons] at hl
   obtain⟨x53,l,rfl⟩:=List.exists_cons_of_length_pos (l:=l) (by omega)
   simp only [List.length_cons] at hl
   obtain⟨x54,l,rfl⟩:=List.exists_cons_of_length_pos (l:=l) (by omega)
   simp only [List.length_cons] at hl
   obtain⟨x55,l,rfl⟩:=List.exists_cons_of_length_pos (l:=l) (by omega)
   simp only [List.length_cons] at hl
   obtain⟨x56,l,rfl⟩:=List.exists_cons_of_length_pos (l:=l) (by omega)
   simp only [List.length_cons] at hl
   obtain⟨x57,l,rfl⟩:=List.exists_cons_of_length_pos (l:=l) (by omega)
   simp only [List.length_cons] at hl
   obtain⟨x58,l,rfl⟩:=List.exists_cons_of_length_pos (l:=l) (by omega)
   simp only [List.length_cons] at hl
   obtain⟨x59,l,rfl⟩:=List.exists_cons_of_length_pos (l:=l) (by omega)
   simp only [List.length_cons] at hl
   obtain⟨x60,l,rfl⟩:=List.exists_cons_of_length_pos (l:=l) (by omega)
   simp only [List.length_cons] at hl
   obtain⟨x61,l,rfl⟩:=List.exists_cons_of_length_pos (l:=l) (by omega)
   simp only [List.length_cons] at hl
   obtain⟨x62,l,rfl⟩:=List.exists_cons_of_length_pos (l:=l) (by omega)
   simp only [List.length_cons] at hl
   obtain⟨x63,l,rfl⟩:=List.exists_cons_of_length_pos (l:=l) (by omega)
   simp only [List.length_cons] at hl
   obtain⟨x64,l,rfl⟩:=List.exists_cons_of_length_pos (l:=l) (by omega)
   simp only [List.length_cons] at hl
   obtain⟨x65,l,rfl⟩:=List.exists_cons_of_length_pos (l:=l) (by omega)
   simp only [List.length_cons] at hl
   obtain⟨x66,l,rfl⟩:=List.exists_cons_of_length_pos (l:=l) (by omega)
   simp only [List.length_cons] at hl
   obtain⟨x67,l,rfl⟩:=List.exists_cons_of_length_pos (l:=l) (by omega)
   simp only [List.length_cons] at hl
   obtain⟨x68,l,rfl⟩:=List.exists_cons_of_length_pos (l:=l) (by omega)
   simp only [List.length_cons] at hl
   obtain⟨x69,l,rfl⟩:=List.exists_cons_of_length_pos (l:=l) (by omega)
   simp only [List.length_cons] at hl
   obtain⟨x70,l,rfl⟩:=List.exists_cons_of_length_pos (l:=l) (by omega)
   simp only [List.length_cons] at hl
   obtain⟨x71,l,rfl⟩:=List.exists_cons_of_length_pos (l:=l) (by omega)
   simp only [List.length_cons] at hl
   obtain⟨x72,l,rfl⟩:=List.exists_cons_of_length_pos (l:=l) (by omega)
   simp only [List.length_cons] at hl
   obtain⟨x73,l,rfl⟩:=List.exists_cons_of_length_pos (l:=l) (by omega)
   simp only [List.length_cons] at hl
   obtain rfl:l=[]:=List.eq_nil_of_length_eq_zero (by omega)
   have q0:some x0=some _:=h3 0 (by omega)
   cases q0
   have q1:some x1=some _:=h3 1 (by omega)
   cases q1
   have q2:some x2=some _:=h3 2 (by omega)
   cases q2
   have q3:some x3=some _:=h3 3 (by omega)
   cases q3
   have q4:some x4=some _:=h3 4 (by omega)
   cases q4
   have q5:some x5=some _:=h3 5 (by omega)
   cases q5
   have q6:some x6=some _:=h3 6 (by omega)
   cases q6
   have q7:some x7=some _:=h3 7 (by omega)
   cases q7
   have q8:some x8=some _:=h3 8 (by omega)
   cases q8
   have q9:some x9=some _:=h3 9 (by omega)
   cases q9
   have q10:some x10=some _:=h3 10 (by omega)
   cases q10
   have q11:some x11=some _:=h3 11 (by omega)
   cases q11
   have q12:some x12=some _:=h3 12 (by omega)
   cases q12
   have q13:some x13=some _:=h3 13 (by omega)
   cases q13
   have q14:some x14=some _:=h3 14 (by omega)
   cases q14
   have q15:some x15=some _:=h3 15 (by omega)
   cases q15
   have q16:some x16=some _:=h3 16 (by omega)
   cases q16
   have q17:some x17=some _:=h3 17 (by omega)
   cases q17
   have q18:some x18=some _:=h3 18 (by omega)
   cases q18
   have q19:some x19=some _:=h3 19 (by omega)
   cases q19
   have q20:some x20=some _:=h3 20 (by omega)
   cases q20
   have q21:some x21=some _:=h3 21 (by omega)
   cases q21
   have q22:some x22=some _:=h3 22 (by omega)
   cases q22
   have q23:some x23=some _:=h3 23 (by omega)
   cases q23
   have q24:some x24=some _:=h3 24 (by omega)
   cases q24
   have q25:some x25=some _:=h3 25 (by omega)
   cases q25
   have q26:some x26=some _:=h3 26 (by omega)
   cases q26
   have q27:some x27=some _:=h3 27 (by omega)
   cases q27
   have q28:some x28=some _:=h3 28 (by omega)
   cases q28
   have q29:some x29=some _:=h3 29 (by omega)
   cases q29
   have q30:some x30=some _:=h3 30 (by omega)
   cases q30
   have q31:some x31=some _:=h3 31 (by omega)
   cases q31
   have q32:some x32=some _:=h3 32 (by omega)
   cases q32
   have q33:some x33=some _:=h3 33 (by omega)
   cases q33
   have q34:some x34=some _:=h3 34 (by omega)
   cases q34
   have q35:some x35=some _:=h3 35 (by omega)
   cases q35
   have q36:some x36=some _:=h3 36 (by omega)
   cases q36
   have q37:some x37=some _:=h3 37 (by omega)
   cases q37
   have q38:some x38=some _:=h3 38 (by omega)
   cases q38
   have q39:some x39=some _:=h3 39 (by omega)
   cases q39
   have q40:some x40=some _:=h3 40 (by omega)
   cases q40
   have q41:some x41=some _:=h3 41 (by omega)
   cases q41
   have q42:some x42=some _:=h3 42 (by omega)
   cases q42
   have q43:some x43=some _:=h3 43 (by omega)
   cases q43
   have q44:some x44=some _:=h3 44 (by omega)
   cases q44
   have q45:some x45=some _:=h3 45 (by omega)
   cases q45
   have q46:some x46=some _:=h3 46 (by omega)
   cases q46
   have q47:some x47=some _:=h3 47 (by omega)
   cases q47
   have q48:some x48=some _:=h3 48 (by omega)
   cases q48
   have q49:some x49=some _:=h3 49 (by omega)
   cases q49
   have q50:some x50=some _:=h3 50 (by omega)
   cases q50
   have q51:some x51=some _:=h3 51 (by omega)
   cases q51
   have q52:some x52=some _:=h3 52 (by omega)
   cases q52
   have q53:some x53=some _:=h3 53 (by omega)
   cases q53
   have q54:some x54=some _:=h3 54 (by omega)
   cases q54
   have q55:some x55=some _:=h3 55 (by omega)
   cases q55
   have q56:some x56=some _:=h3 56 (by omega)
   cases q56
   have q57:some x57=some _:=h3 57 (by omega)
   cases q57
   have q58:some x58=some _:=h3 58 (by omega)
   cases q58
   have q69:some x69=some _:=h3 69 (by omega)
   cases q69
   have q70:some x70=some _:=h3 70 (by omega)
   cases q70
   have q71:some x71=some _:=h3 71 (by omega)
   cases q71
   have q72:some x72=some _:=h3 72 (by omega)
   cases q72
   have q73:some x73=some _:=h3 73 (by omega)
   cases q73
   clear h3 s0 s4 s9 s10
   simp only [List.getElem_toArray,List.getElem_cons_zero,List.getElem_cons_succ]
   clear hn2 hl hwd hbd hM hQ x5 hlo hol7
   have hTa:TmIn (fun r=>r≠g∧r≠o) W AT (.agg #[.int .i64 15,.int .i64 0,.string ⟨#[]⟩,.slice none 0 0,.slice (some ⟨q,0,none⟩) 2 2,.slice qa (rows.length+1) qc]):=by
    rw [HF.out.2]
    exact .mk _ _ _ _ _ _ _ _ _ ⟨by decide,by decide⟩ ⟨by decide,by decide⟩ (cl_nil _ _) (HKd.out W hK9) hQ9.row
   have cc:=cDn.out g W _ _ hM9 hTa.tt (hTa.up fun q h=>h.1)
   rw [← HF.out.1] at cc
   have zzW:=(HA.out W hK9).2.2
   have hloW:X+4≤W.heap.size:=by have:=z5.lt;omega
   have HKW:Hid (Kn (fun q=>q<w5.heap.size∧q≠g∧q≠o) w5 W):=hK9
   obtain⟨y0,y1,y2,y3,y4,y5,_⟩:=z5.cells
   clear hTa hQ9 hM9 hK9 z5
   go_wp2_with fail
   refine cc.mono ?_
   rintro e wb ⟨vb,rfl,hvb,hkb⟩
   clear cc y0 y1 y2 y3 y4 y5
   obtain⟨DT,hDT⟩:∃ T,T=doneT AF AT:=⟨_,rfl⟩
   obtain⟨DE,hDE⟩:∃ T,T=doneE AF AT:=⟨_,rfl⟩
   have HD:Hid (DT=doneT AF AT∧DE=doneE AF AT):=⟨hDT,hDE⟩
   rw [← hDT] at hvb
   rw [← hDE]
   clear hDT hDE
   obtain⟨ra8,rc8,ka8,kc8,sa8,sc8,rfl,ht8⟩:=hvb.form
   have hT8:=ht8.value
   have zz:=zzW.kn hkb (by omega)
   have hszb:=hkb.size
   clear hvb ht8 zzW
   obtain⟨wc9,hwz,zz2,kz,o0,o1,o2,o3,o4,o5,f0,f1,f2,f3,f4,f5⟩:=zst zz (.int .i64 DT.kind) (.int .i64 DT.n) (.string DT.name) (.slice ra8 DT.r.length rc8) (.slice ka8 DT.kids.length kc8) (.slice sa8 DT.sys.length sc8)
   have hTf:Hid (TmIn (fun q=>X≤q) wc9 DT (.agg #[.int .i64 DT.kind,.int .i64 DT.n,.string DT.name,.slice ra8 DT.r.length rc8,.slice ka8 DT.kids.length kc8,.slice sa8 DT.sys.length sc8])):=(hT8.kn kz (fun _ q=>by have:=q.2.1;omega)).up fun q h=>by have:=h.2.1;show X≤q;omega
   have hKf:=HBw.out wc9 (((HKW.out.sub (fun q (h:q<X)=>⟨by omega,by omega,by omega⟩)).trans (hkb.sub (fun q (h:q<X)=>by show q≠g;omega))).trans (kz.sub (fun q (h:q<X)=>by show q≠X+2;omega)))
   obtain⟨g0,g1,g2,g3,g4,g5,_⟩:=zz2.cells
   have Hwz:Hid (_=_):=hwz
   clear hwz kz zz zz2 hT8 hkb
   go_wp2_with fail
   rw [← Hwz.out]
   exact bodyPost_ret (v:=.tuple #[.agg #[.int .i64 DT.kind,.int .i64 DT.n,.string DT.name,.slice ra8 DT.r.length rc8,.slice ka8 DT.kids.length kc8,.slice sa8 DT.sys.length sc8],.int .i64 DE]) (by simp only [results,Tryz.results10];simp [go_sem,g0,g1,g2,g3,g4,g5]) rfl ⟨_,by rw [Hf.out.1,← HD.out.2],by rw [Hf.out.2,← HD.out.1];exact hTf.out,hKf⟩
  ·show cntU (Array.replicate _ false) 10=10
   kernel_rfl
  ·kernel_rfl
  ·intro i h1 h2
   obtain rfl:i=10:=by have:i<11:=h2;omega
   rfl
  ·exact⟨hM.blw hbd,Kn.of_below hbd,fun _=>rfl,fun _=>Nat.zero_le _,fun _=>rfl,fun _=>hQ.keep (No2:=fun _=>True) (Kn.of_below hbd) (fun _ _=>trivial),fun v' e=>(by cases e)⟩
  ·exact⟨s0.2,s0.1,fun k _=>rfl⟩
  ·intro i hi h
   have:(Array.replicate 11 false).getD i true=false:=by unfold Array.getD;rw [dif_pos (by simp;omega)];simp
   exact absurd (this.symm.trans h) (by simp)
 have hkI:(k:Int) < (LS:Int):=by omega
 obtain⟨b,hb⟩:=someL (l:=sys) (k:=k) (by rw [← HLS.out];exact hlt)
 obtain⟨u,hu⟩:=HOn.out b (List.mem_of_getElem? hb)
 obtain⟨hbl,hub⟩:=HBs.out b (List.mem_of_getElem? hb)
 have hub:=hub u hu
 obtain⟨g8,off8,fa,fc,kb,kc,hsa,hg8,c2,hrF,hkd⟩:=(HSy.out w6 hK5).at hb
 subst hsa
 rw [hu] at hkd
 simp only [List.length_cons,List.length_nil,Nat.zero_add] at hkd
 obtain⟨gk,offk,ru,rcu,ku,kcu,su,scu,hkb,hgk,q6,qt⟩:=hkd.at (j:=0) rfl
 subst hkb
 have e1:b.2.length=1:=by rw [hu];rfl
 have eB':flB b=((liftFF b.1 0 1).1,[lineT [e2 0 1] u]):=by unfold flB;rw [hu];rfl
 have eG:=flG_step (f:=f0) hb hu
 have eR:(sys.take (k+1)).map flB=(sys.take k).map flB ++ [flB b]:=by
  have e:sys.take (k+1)=sys.take k ++ [b]:=by rw [List.take_add_one,hb];rfl
  rw [e,List.map_append];rfl
 obtain⟨f,hf⟩:∃ f,f=flG f0 (sys.take k):=⟨_,rfl⟩
 obtain⟨rows,hrows⟩:∃ l,l=(sys.take k).map flB:=⟨_,rfl⟩
 have HRl:Hid (rows.length=k):=by show rows.length=k;rw [hrows,List.length_map,List.length_take,← HLS.out];omega
 obtain⟨FL,hFL⟩:∃ x,x=(liftFF b.1 0 1).1:=⟨_,rfl⟩
 obtain⟨eF,heF⟩:∃ x,x=(liftFF b.1 0 1).2:=⟨_,rfl⟩
 obtain⟨T,hT⟩:∃ x,x=lineT [e2 0 1] u:=⟨_,rfl⟩
 rw [← hf] at hM eG
 rw [← hrows] at hQ eR
 rw [← hFL,← hT] at eB'
 rw [← heF] at eG
 obtain⟨f2,hf2⟩:∃ x,x=lineE (fstE f eF) [e2 0 1] u:=⟨_,rfl⟩
 rw [← hf2] at eG
 have hFl:FL.length≤64:=by rw [hFL];exact liftFF_len _ _ _
 have cUp:Hid (∀ V v,Mk V g f→ClRow Tt V b.1 v→Calls Tryz.prog 34 #[.pointer (some ⟨g,0,none⟩),v] V fun e w'=>∃ v',e=.returned v'∧ClRow (Bt g V.heap.size w'.heap.size) w' FL v'∧Mk w' g (fstE f eF)∧Kn (Ng g) V w'):=fun V v h1 h2=>by rw [hFL,heF];exact mup_any g f b.1 v V h1 h2 (by omega)
 have cWu:Hid (∀ V v vr,Mk V g (fstE f eF)→TmIn Tt V u v→ClRow (Ng g) V [e2 0 1] vr→Calls Tryz.prog 35 #[.pointer (some ⟨g,0,none⟩),v,vr] V fun e w'=>∃ v',e=.returned v'∧TmIn (Bt g V.heap.size w'.heap.size) w' T v'∧Mk w' g f2∧Kn (Ng g) V w'):=fun V v vr h1 h2 h3=>by rw [hT,hf2];exact cWi.out g V v (fstE f eF) u vr hub h1 h2 h3
 have htm:meetF [posB 1] [posB 0]=([e2 0 1],0):=by decide +kernel
 have HeB:Hid (flB b=(FL,[T])):=eB'
 have HeG:Hid (flG f0 (sys.take (k+1))=f2):=eG
 have HeR:Hid ((sys.take (k+1)).map flB=rows ++ [flB b]):=eR
 have HVa:Hid (∀ x,va.ownBlock=some x→w5.heap.size≤x∧x<w6.heap.size∧x≠g∧x≠o):=fun x hx=>by
  obtain⟨us,h1,h2,h3,h4⟩:=id hQ
  have h5:=World.ownsRow.lt h2 x hx
  exact⟨h5.1,h5.2,h3 x hx⟩
 have hs6:=hK5.size
 obtain⟨_,c20,c21⟩:=id c2
 rw [e1] at c21
 obtain⟨ob,hob⟩:∃ x,x=w6.heap.size:=⟨_,rfl⟩
 obtain⟨w7,hw7⟩:∃ W,W=w6.alloc (.cells #[.slice fa b.1.length fc,.slice (some ⟨gk,offk,none⟩) 1 kc] 50):=⟨_,rfl⟩
 have b7:Below w6.heap.size w6 w7:=by rw [hw7];exact belowA _ _
 have zb:w7.heap[ob]? = some (.cells #[.slice fa b.1.length fc,.slice (some ⟨gk,offk,none⟩) 1 kc] 50 (0,0)):=by rw [hw7,hob];exact heapNew _ _
 have s7:ob<w7.heap.size∧w7.heap.size≤ob+1:=by rw [hw7,hob];simp
 have hM7:=hM.blw b7
 have hQ7:=hQ.keep (No2:=fun _=>True) (Kn.of_below b7) (fun _ _=>trivial)
 have x7:=x5.blw b7
 have hK7:Kn (fun q=>q<w5.heap.size∧q≠g∧q≠o) w5 w7:=hK5.trans (Kn.of_below b7)
 have hro:ClRow (fun q=>q<X) w7 b.1 (.slice fa b.1.length fc):=hrF.blw b7
 have tmu:TmIn (fun q=>q<X) w7 u (.agg #[.int .i64 u.kind,.int .i64 u.n,.string u.name,.slice ru u.r.length rcu,.slice ku u.kids.length kcu,.slice su u.sys.length scu]):=qt.value.blw b7
 have q67:=q6.keep b7.size (b7.block _ q6.lt)
 simp only [Nat.zero_mul,Nat.add_zero] at q67
 have H7:Hid (_=_):=hw7
 have Hob:Hid (ob=w6.heap.size):=hob
 clear hw7 hob hf hrows hFL heF hT hf2 eB' eG eR hrF qt q6 hkd c2 hu e1
 go_upto_region 9 with fail
 simp only [← Hob.out]
 rw [← H7.out]
 clear c20 c21 H7
 have hlo:g<w7.heap.size:=hM7.lt
 have hz67:w6.heap.size≤w7.heap.size:=b7.size
 have hol7:o<w7.heap.size:=x7.lt
 have HVl:Hid (∀ x,va.ownBlock=some x→x<w7.heap.size):=fun x hx=>by have:=(HVa.out x hx).2.1;have:=b7.size;omega
 have Hoo:Hid (KKq g va o):=⟨by omega,fun e=>(HVa.out o e.symm).2.2.2 rfl⟩
 have Hobb:Hid (KKq g va ob):=⟨by have:=hM.lt;have:=Hob.out;omega,fun e=>by have:=(HVa.out ob e.symm).2.1;have:=Hob.out;omega⟩
 have HXX:Hid (∀ x,x<X→KKq g va x):=fun x hx=>⟨by omega,fun e=>by have:=(HVa.out x e.symm).1;omega⟩
 have HNo:Hid (∀ x,(fun r=>r≠g∧r≠o) x→x≠g):=fun x hx=>hx.1
 refine wp_region_any (by kernel_rfl) ?_
 obtain⟨wd,hwd⟩:∃ V,V={ w7 with drawn:=w7.drawn+1 }:=⟨_,rfl⟩
 rw [← hwd]
 have hbd:Below w7.heap.size w7 wd:=by rw [hwd];exact (Below.refl _ _).drew
 generalize hA0:({ tmps:=_,defers:=[] }:Act)=a0
 have s0:a0.tmps.size=74∧a0.defers=[]:=by rw [← hA0];exact⟨rfl,rfl⟩
 have s9:a0.tmps[9]? = some (.pointer (some ⟨g,0,none⟩)):=by rw [← hA0];rfl
 have s10:a0.tmps[10]? = some (.pointer (some ⟨o,0,none⟩)):=by rw [← hA0];rfl
 have s12:a0.tmps[12]? = some (.pointer (some ⟨ob,0,none⟩)):=by rw [← hA0];rfl
 refine region_invL (γ:=Nat × Option Value) 21 (fun i v G w=>match i with
  | 0=>v=.pointer (some ⟨o,5,none⟩)
  | 1=>v=va
  | 2=>v=.pointer (some ⟨ob,0,none⟩)
  | 3=>v=.slice fa b.1.length fc
  | 4=>∃ a c,v=.slice a FL.length c∧ClRow (OkL w7.heap.size) w FL v∧1≤G.1
  | 5=>v=.pointer (some ⟨ob,1,none⟩)
  | 6=>v=.slice (some ⟨gk,offk,none⟩) 1 kc
  | 7=>v=.pointer (some ⟨gk,offk,none⟩)
  | 8=>v=.agg #[.int .i64 u.kind,.int .i64 u.n,.string u.name,.slice ru u.r.length rcu,.slice ku u.kids.length kcu,.slice su u.sys.length scu]
  | 9=>v=.pointer (some ⟨g,0,none⟩)
  | 10=>∃ a c,v=.slice a 1 c∧ClRow (OkL w7.heap.size) w [posB 1] v∧1≤G.1
  | 11=>∃ a c,v=.slice a 1 c∧ClRow (OkL w7.heap.size) w [posB 0] v∧1≤G.1
  | 12=>∃ a c,v=.tuple #[.slice a 1 c,.int .i64 0]∧ClRow (OkL w7.heap.size) w [e2 0 1] (.slice a 1 c)∧1≤G.1
  | 13=>∃ a c,v=.slice a 1 c∧ClRow (OkL w7.heap.size) w [e2 0 1] v∧1≤G.1
  | 14=>v=.int .i64 0
  | 15=>∃ a c,v=.slice a 1 c∧ClRow (OkL w7.heap.size) w [e2 0 1] v∧1≤G.1
  | 16=>∃ ra rc ka kc sa sc,v=.agg #[.int .i64 T.kind,.int .i64 T.n,.string T.name,.slice ra T.r.length rc,.slice ka T.kids.length kc,.slice sa T.sys.length sc]∧TmIn (OkL w7.heap.size) w T v∧2≤G.1
  | 17=>∃ a c ob2,v=.agg #[.slice a FL.length c,.slice (some ⟨ob2,0,none⟩) 1 1]∧ClRow (OkL w7.heap.size) w FL (.slice a FL.length c)∧KdT (OkL w7.heap.size) w (TmIn (OkL w7.heap.size) w) [T] (.slice (some ⟨ob2,0,none⟩) 1 1)
  | 18=>∃ a c ob2 bk,v=.slice (some ⟨bk,0,none⟩) 1 1∧w7.heap.size≤bk∧w.heap[bk]? = some (.cells #[.slice a FL.length c,.slice (some ⟨ob2,0,none⟩) 1 1] 50 (0,0))∧ClRow (OkL w7.heap.size) w FL (.slice a FL.length c)∧KdT (OkL w7.heap.size) w (TmIn (OkL w7.heap.size) w) [T] (.slice (some ⟨ob2,0,none⟩) 1 1)
  | 19=>G.2=some v
  | 20=>v=.pointer (some ⟨o,5,none⟩)
  | _=>True) (fun a=>a.defers=[]∧a.tmps.size=74∧∀ k,k<37∨58≤k→a.tmps[k]? = a0.tmps[k]?) (BaF 4 16 19 g w5.heap.size (fun r=>r≠g∧r≠o) f (fstE f eF) f2 va rows (FL,[T]) w7) (ChF g va)
  ?_ ?_ ?_ ?_ ?_ ?_ 21 _ a0 (0,none) wd ?_ ?_ ?_ ?_ ?_ ?_
 ·kernel_rfl
 ·rintro a ⟨h1,h2,h3⟩ i o d hi ho hd
  match i,hi with
  | 0,_=>cases ho;cases hd;rw [h2];decide
  | 1,_=>cases ho;cases hd;rw [h2];decide
  | 2,_=>cases ho;cases hd;rw [h2];decide
  | 3,_=>cases ho;cases hd;rw [h2];decide
  | 4,_=>cases ho;cases hd;rw [h2];decide
  | 5,_=>cases ho;cases hd;rw [h2];decide
  | 6,_=>cases ho;cases hd;rw [h2];decide
  | 7,_=>cases ho;cases hd;rw [h2];decide
  | 8,_=>cases ho;cases hd;rw [h2];decide
  | 9,_=>cases ho;cases hd;rw [h2];decide
  | 10,_=>cases ho;cases hd;rw [h2];decide
  | 11,_=>cases ho;cases hd;rw [h2];decide
  | 12,_=>cases ho;cases hd;rw [h2];decide
  | 13,_=>cases ho;cases hd;rw [h2];decide
  | 14,_=>cases ho;cases hd;rw [h2];decide
  | 15,_=>cases ho;cases hd;rw [h2];decide
  | 16,_=>cases ho;cases hd;rw [h2];decide
  | 17,_=>cases ho;cases hd;rw [h2];decide
  | 18,_=>cases ho;cases hd;rw [h2];decide
  | 19,_=>cases ho;cases hd;rw [h2];decide
  | 20,_=>cases ho;cases hd;rw [h2];decide
  | n+21,hi=>exact absurd hi (by omega)
 ·rintro a i o v hi ho ⟨h1,h2,h3⟩
  match i,hi with
  | 0,_=>cases ho;exact⟨h1,by show (a.tmps.setIfInBounds _ _).size=74;rw [Array.size_setIfInBounds];exact h2,fun k q1=>(slot_put (by omega) v).trans (h3 k q1)⟩
  | 1,_=>cases ho;exact⟨h1,by show (a.tmps.setIfInBounds _ _).size=74;rw [Array.size_setIfInBounds];exact h2,fun k q1=>(slot_put (by omega) v).trans (h3 k q1)⟩
  | 2,_=>cases ho;exact⟨h1,by show (a.tmps.setIfInBounds _ _).size=74;rw [Array.size_setIfInBounds];exact h2,fun k q1=>(slot_put (by omega) v).trans (h3 k q1)⟩
  | 3,_=>cases ho;exact⟨h1,by show (a.tmps.setIfInBounds _ _).size=74;rw [Array.size_setIfInBounds];exact h2,fun k q1=>(slot_put (by omega) v).trans (h3 k q1)⟩
  | 4,_=>cases ho;exact⟨h1,by show (a.tmps.setIfInBounds _ _).size=74;rw [Array.size_setIfInBounds];exact h2,fun k q1=>(slot_put (by omega) v).trans (h3 k q1)⟩
  | 5,_=>cases ho;exact⟨h1,by show (a.tmps.setIfInBounds _ _).size=74;rw [Array.size_setIfInBounds];exact h2,fun k q1=>(slot_put (by omega) v).trans (h3 k q1)⟩
  | 6,_=>cases ho;exact⟨h1,by show (a.tmps.setIfInBounds _ _).size=74;rw [Array.size_setIfInBounds];exact h2,fun k q1=>(slot_put (by omega) v).trans (h3 k q1)⟩
  | 7,_=>cases ho;exact⟨h1,by show (a.tmps.setIfInBounds _ _).size=74;rw [Array.size_setIfInBounds];exact h2,fun k q1=>(slot_put (by omega) v).trans (h3 k q1)⟩
  | 8,_=>cases ho;exact⟨h1,by show (a.tmps.setIfInBounds _ _).size=74;rw [Array.size_setIfInBounds];exact h2,fun k q1=>(slot_put (by omega) v).trans (h3 k q1)⟩
  | 9,_=>cases ho;exact⟨h1,by show (a.tmps.setIfInBounds _ _).size=74;rw [Array.size_setIfInBounds];exact h2,fun k q1=>(slot_put (by omega) v).trans (h3 k q1)⟩
  | 10,_=>cases ho;exact⟨h1,by show (a.tmps.setIfInBounds _ _).size=74;rw [Array.size_setIfInBounds];exact h2,fun k q1=>(slot_put (by omega) v).trans (h3 k q1)⟩
  | 11,_=>cases ho;exact⟨h1,by show (a.tmps.setIfInBounds _ _).size=74;rw [Array.size_setIfInBounds];exact h2,fun k q1=>(slot_put (by omega) v).trans (h3 k q1)⟩
  | 12,_=>cases ho;exact⟨h1,by show (a.tmps.setIfInBounds _ _).size=74;rw [Array.size_setIfInBounds];exact h2,fun k q1=>(slot_put (by omega) v).trans (h3 k q1)⟩
  | 13,_=>cases ho;exact⟨h1,by show (a.tmps.setIfInBounds _ _).size=74;rw [Array.size_setIfInBounds];exact h2,fun k q1=>(slot_put (by omega) v).trans (h3 k q1)⟩
  | 14,_=>cases ho;exact⟨h1,by show (a.tmps.setIfInBounds _ _).size=74;rw [Array.size_setIfInBounds];exact h2,fun k q1=>(slot_put (by omega) v).trans (h3 k q1)⟩
  | 15,_=>cases ho;exact⟨h1,by show (a.tmps.setIfInBounds _ _).size=74;rw [Array.size_setIfInBounds];exact h2,fun k q1=>(slot_put (by omega) v).trans (h3 k q1)⟩
  | 16,_=>cases ho;exact⟨h1,by show (a.tmps.setIfInBounds _ _).size=74;rw [Array.size_setIfInBounds];exact h2,fun k q1=>(slot_put (by omega) v).trans (h3 k q1)⟩
  | 17,_=>cases ho;exact⟨h1,by show (a.tmps.setIfInBounds _ _).size=74;rw [Array.size_setIfInBounds];exact h2,fun k q1=>(slot_put (by omega) v).trans (h3 k q1)⟩
  | 18,_=>cases ho;exact⟨h1,by show (a.tmps.setIfInBounds _ _).size=74;rw [Array.size_setIfInBounds];exact h2,fun k q1=>(slot_put (by omega) v).trans (h3 k q1)⟩
  | 19,_=>cases ho;exact⟨h1,by show (a.tmps.setIfInBounds _ _).size=74;rw [Array.size_setIfInBounds];exact h2,fun k q1=>(slot_put (by omega) v).trans (h3 k q1)⟩
  | 20,_=>cases ho;exact⟨h1,by show (a.tmps.setIfInBounds _ _).size=74;rw [Array.size_setIfInBounds];exact h2,fun k q1=>(slot_put (by omega) v).trans (h3 k q1)⟩
  | n+21,hi=>exact absurd hi (by omega)
 ·intro i v G w G' w' c h
  match i with
  | 0=>exact h
  | 1=>exact h
  | 2=>exact h
  | 3=>exact h
  | 4=>obtain⟨a,d,e,h,n⟩:=h;exact⟨a,d,e,cl_cf h c hlo HVl.out,Nat.le_trans n c.2.1⟩
  | 5=>exact h
  | 6=>exact h
  | 7=>exact h
  | 8=>exact h
  | 9=>exact h
  | 10=>obtain⟨a,d,e,h,n⟩:=h;exact⟨a,d,e,cl_cf h c hlo HVl.out,Nat.le_trans n c.2.1⟩
  | 11=>obtain⟨a,d,e,h,n⟩:=h;exact⟨a,d,e,cl_cf h c hlo HVl.out,Nat.le_trans n c.2.1⟩
  | 12=>obtain⟨a,d,e,h,n⟩:=h;exact⟨a,d,e,cl_cf h c hlo HVl.out,Nat.le_trans n c.2.1⟩
  | 13=>obtain⟨a,d,e,h,n⟩:=h;exact⟨a,d,e,cl_cf h c hlo HVl.out,Nat.le_trans n c.2.1⟩
  | 14=>exact h
  | 15=>obtain⟨a,d,e,h,n⟩:=h;exact⟨a,d,e,cl_cf h c hlo HVl.out,Nat.le_trans n c.2.1⟩
  | 16=>obtain⟨ra,rc,ka,kc,sa,sc,e,h,n⟩:=h;exact⟨ra,rc,ka,kc,sa,sc,e,tm_cf h c hlo HVl.out,Nat.le_trans n c.2.1⟩
  | 17=>obtain⟨a,d,o2,e,h,n⟩:=h;exact⟨a,d,o2,e,cl_cf h c hlo HVl.out,kd_cf n c hlo HVl.out⟩
  | 18=>obtain⟨a,d,o2,bk,e,z1,z2,h,n⟩:=h;exact⟨a,d,o2,bk,e,z1,bk_cf z2 c hlo HVl.out z1,cl_cf h c hlo HVl.out,kd_cf n c hlo HVl.out⟩
  | 19=>exact c.2.2 v h
  | 20=>exact h
  | _+21=>trivial
 ·intro i hi o' ho' l a G w hil hfl hB ⟨h1,h2,h3⟩ hF
  have sl:∀ k,k<37→a.tmps[k]? = a0.tmps[k]?:=fun k hk=>h3 k (.inl hk)
  have gd:∀ k (hk:k<a.tmps.size),a.tmps.getD k undef=a.tmps[k]:=fun k hk=>by unfold Array.getD;rw [dif_pos hk];rfl
  have sz:=hB.kn.size
  match i,hi with
  | 0,_ =>
   cases ho'
   clear hF
   obtain⟨_,p10⟩:=Array.getElem?_eq_some_iff.1 ((sl 10 (by omega)).trans s10)
   go_simp
   exact⟨_,rfl,G.1,G.2,baf_pure hB _,chf_call (Kn.refl _ _),rfl⟩
  | 1,_ =>
   cases ho'
   have f0:(fun v=>v=.pointer (some ⟨o,5,none⟩)) (a.tmps.getD 37 undef):=hF ⟨0,.data⟩ (by simp) rfl
   rw [gd 37 (by omega)] at f0
   clear hF
   have xq:Six w o (.int .i64 15) (.int .i64 0) (.string ⟨#[]⟩) (.slice none 0 0) (.slice (some ⟨q,0,none⟩) 2 2) va:=⟨(hB.kn.block o Hoo.out x7.lt).trans x7.blk⟩
   obtain⟨_,_,_,_,_,g5,_⟩:=xq.cells
   go_simp
   exact⟨_,rfl,G.1,G.2,baf_pure hB _,chf_call (Kn.refl _ _),rfl⟩
  | 2,_ =>
   cases ho'
   clear hF
   obtain⟨_,p12⟩:=Array.getElem?_eq_some_iff.1 ((sl 12 (by omega)).trans s12)
   go_simp
   exact⟨_,rfl,G.1,G.2,baf_pure hB _,chf_call (Kn.refl _ _),rfl⟩
  | 3,_ =>
   cases ho'
   have f2:(fun v=>v=.pointer (some ⟨ob,0,none⟩)) (a.tmps.getD 39 undef):=hF ⟨2,.data⟩ (by simp) rfl
   rw [gd 39 (by omega)] at f2
   clear hF
   have xq:=(hB.kn.block ob Hobb.out (by omega)).trans zb
   have g0:w.cell? ⟨ob,0,none⟩=some (.slice fa b.1.length fc):=by unfold World.cell?; simp [xq]
   have g1:w.cell? ⟨ob,1,none⟩=some (.slice (some ⟨gk,offk,none⟩) 1 kc):=by unfold World.cell?; simp [xq]
   go_simp
   exact⟨_,rfl,G.1,G.2,baf_pure hB _,chf_call (Kn.refl _ _),rfl⟩
  | 4,_ =>
   cases ho'
   have f3:(fun v=>v=.slice fa b.1.length fc) (a.tmps.getD 40 undef):=hF ⟨3,.data⟩ (by simp) rfl
   rw [gd 40 (by omega)] at f3
   obtain⟨_,p9⟩:=Array.getElem?_eq_some_iff.1 ((sl 9 (by omega)).trans s9)
   clear hF
   have hm:Mk w g f:=by have:=hB.mm;rw [hB.s0 hfl] at this;exact this
   have cc:=cUp.out w _ hm (hro.keep hB.kn.size (fun _ _=>trivial) (fun x hx hs=>hB.kn.block x (HXX.out x hx) hs))
   go_simp
   refine cc.mono ?_
   rintro e w' ⟨v',rfl,hR,hM',hk⟩
   obtain⟨a1,c1,e1,_⟩:=id hR
   subst e1
   exact⟨_,rfl,1,G.2,baf_step hB HNo.out 4 1 hil hk hM' (.inl rfl) (.inl (Nat.le_refl _)),chf_step hk (by rw [hB.s0 hfl];decide),⟨_,_,rfl⟩,hR.keep (Nat.le_refl _) (fun q hq=>by have:=hq.2.1;show w7.heap.size≤q;omega) (fun _ _ _=>rfl),Nat.le_refl _⟩
  | 5,_ =>
   cases ho'
   clear hF
   obtain⟨_,p12⟩:=Array.getElem?_eq_some_iff.1 ((sl 12 (by omega)).trans s12)
   go_simp
   exact⟨_,rfl,G.1,G.2,baf_pure hB _,chf_call (Kn.refl _ _),rfl⟩
  | 6,_ =>
   cases ho'
   have f5:(fun v=>v=.pointer (some ⟨ob,1,none⟩)) (a.tmps.getD 42 undef):=hF ⟨5,.data⟩ (by simp) rfl
   rw [gd 42 (by omega)] at f5
   clear hF
   have xq:=(hB.kn.block ob Hobb.out (by omega)).trans zb
   have g0:w.cell? ⟨ob,0,none⟩=some (.slice fa b.1.length fc):=by unfold World.cell?; simp [xq]
   have g1:w.cell? ⟨ob,1,none⟩=some (.slice (some ⟨gk,offk,none⟩) 1 kc):=by unfold World.cell?; simp [xq]
   go_simp
   exact⟨_,rfl,G.1,G.2,baf_pure hB _,chf_call (Kn.refl _ _),rfl⟩
  | 7,_ =>
   cases ho'
   have f6:(fun v=>v=.slice (some ⟨gk,offk,none⟩) 1 kc) (a.tmps.getD 43 undef):=hF ⟨6,.data⟩ (by simp) rfl
   rw [gd 43 (by omega)] at f6
   clear hF
   go_simp
   exact⟨_,rfl,G.1,G.2,baf_pure hB _,chf_call (Kn.refl _ _),rfl⟩
  | 8,_ =>
   cases ho'
   have f7:(fun v=>v=.pointer (some ⟨gk,offk,none⟩)) (a.tmps.getD 44 undef):=hF ⟨7,.data⟩ (by simp) rfl
   rw [gd 44 (by omega)] at f7
   clear hF
   have xq:=q67.keep hB.kn.size (hB.kn.block gk (HXX.out gk hgk) q67.lt)
   obtain⟨_,g0,g1,g2,g3,g4,g5⟩:=xq
   go_simp
   exact⟨_,rfl,G.1,G.2,baf_pure hB _,chf_call (Kn.refl _ _),rfl⟩
  | 9,_ =>
   cases ho'
   clear hF
   obtain⟨_,p9⟩:=Array.getElem?_eq_some_iff.1 ((sl 9 (by omega)).trans s9)
   go_simp
   exact⟨_,rfl,G.1,G.2,baf_pure hB _,chf_call (Kn.refl _ _),rfl⟩
  | 10,_ =>
   cases ho'
   have f4:(fun v=>∃ a c,v=.slice a FL.length c∧ClRow (OkL w7.heap.size) w FL v∧1≤G.1) (a.tmps.getD 41 undef):=hF ⟨4,.chain⟩ (by simp) rfl
   rw [gd 41 (by omega)] at f4
   obtain⟨_,p9⟩:=Array.getElem?_eq_some_iff.1 ((sl 9 (by omega)).trans s9)
   obtain⟨_,_,_,_,hn⟩:=f4
   clear hF
   have cc:=mi_any g _ w hB.mm
   go_simp
   refine cc.mono ?_
   rintro e w' ⟨v',rfl,hR,hM',hk⟩
   obtain⟨a1,c1,e1,_⟩:=id hR
   simp only [List.length_cons,List.length_nil,Nat.zero_add] at e1
   subst e1
   exact⟨_,rfl,G.1,G.2,baf_call hB HNo.out _ hk hM',chf_call hk,⟨_,_,rfl⟩,hR.keep (Nat.le_refl _) (fun q hq=>by have:=hq.2.1;show w7.heap.size≤q;omega) (fun _ _ _=>rfl),hn⟩
  | 11,_ =>
   cases ho'
   have f10:(fun v=>∃ a c,v=.slice a 1 c∧ClRow (OkL w7.heap.size) w [posB 1] v∧1≤G.1) (a.tmps.getD 47 undef):=hF ⟨10,.chain⟩ (by simp) rfl
   rw [gd 47 (by omega)] at f10
   obtain⟨_,p9⟩:=Array.getElem?_eq_some_iff.1 ((sl 9 (by omega)).trans s9)
   obtain⟨_,_,_,_,hn⟩:=f10
   clear hF
   have cc:=mj_any g _ w hB.mm
   go_simp
   refine cc.mono ?_
   rintro e w' ⟨v',rfl,hR,hM',hk⟩
   obtain⟨a1,c1,e1,_⟩:=id hR
   simp only [List.length_cons,List.length_nil,Nat.zero_add] at e1
   subst e1
   exact⟨_,rfl,G.1,G.2,baf_call hB HNo.out _ hk hM',chf_call hk,⟨_,_,rfl⟩,hR.keep (Nat.le_refl _) (fun q hq=>by have:=hq.2.1;show w7.heap.size≤q;omega) (fun _ _ _=>rfl),hn⟩
  | 12,_ =>
   cases ho'
   have f10:(fun v=>∃ a c,v=.slice a 1 c∧ClRow (OkL w7.heap.size) w [posB 1] v∧1≤G.1) (a.tmps.getD 47 undef):=hF ⟨10,.data⟩ (by simp) rfl
   rw [gd 47 (by omega)] at f10
   have f11:(fun v=>∃ a c,v=.slice a 1 c∧ClRow (OkL w7.heap.size) w [posB 0] v∧1≤G.1) (a.tmps.getD 48 undef):=hF ⟨11,.data⟩ (by simp) rfl
   rw [gd 48 (by omega)] at f11
   obtain⟨a1,d1,e10,r10,hn⟩:=f10
   obtain⟨a2,d2,e11,r11,_⟩:=f11
   rw [e10] at r10
   rw [e11] at r11
   clear hF
   have cc:=Meet_any [posB 1] [posB 0] _ _ w r10.frow r11.frow (by decide) (by decide)
   rw [htm] at cc
   dsimp only at cc
   go_simp
   refine cc.mono ?_
   rintro e w' ⟨v',rfl,hO,hb⟩
   obtain⟨a3,c3,e3⟩:=OwnsC.len hO
   simp only [List.length_cons,List.length_nil,Nat.zero_add] at e3
   subst e3
   exact⟨_,rfl,G.1,G.2,baf_call hB HNo.out _ (Kn.of_below hb) (hB.mm.blw hb),chf_call (Kn.of_below hb),_,_,rfl,(OwnsC.okn hO).keep (Nat.le_refl _) (fun q hq=>by have:=hq.1;show w7.heap.size≤q;omega) (fun _ _ _=>rfl),hn⟩
  | 13,_ =>
   cases ho'
   have f12:(fun v=>∃ a c,v=.tuple #[.slice a 1 c,.int .i64 0]∧ClRow (OkL w7.heap.size) w [e2 0 1] (.slice a 1 c)∧1≤G.1) (a.tmps.getD 49 undef):=hF ⟨12,.data⟩ (by simp) rfl
   rw [gd 49 (by omega)] at f12
   obtain⟨a1,d1,e12,r12,hn⟩:=f12
   clear hF
   go_simp
   exact⟨_,rfl,G.1,G.2,baf_pure hB _,chf_call (Kn.refl _ _),⟨_,_,rfl⟩,r12,hn⟩
  | 14,_ =>
   cases ho'
   have f12:(fun v=>∃ a c,v=.tuple #[.slice a 1 c,.int .i64 0]∧ClRow (OkL w7.heap.size) w [e2 0 1] (.slice a 1 c)∧1≤G.1) (a.tmps.getD 49 undef):=hF ⟨12,.data⟩ (by simp) rfl
   rw [gd 49 (by omega)] at f12
   obtain⟨a1,d1,e12,r12,hn⟩:=f12
   clear hF
   go_simp
   exact⟨_,rfl,G.1,G.2,baf_pure hB _,chf_call (Kn.refl _ _),rfl⟩
  | 15,_ =>
   cases ho'
   have f9:(fun v=>v=.pointer (some ⟨g,0,none⟩)) (a.tmps.getD 46 undef):=hF ⟨9,.data⟩ (by simp) rfl
   rw [gd 46 (by omega)] at f9
   have f13:(fun v=>∃ a c,v=.slice a 1 c∧ClRow (OkL w7.heap.size) w [e2 0 1] v∧1≤G.1) (a.tmps.getD 50 undef):=hF ⟨13,.data⟩ (by simp) rfl
   rw [gd 50 (by omega)] at f13
   have f14:(fun v=>v=.int .i64 0) (a.tmps.getD 51 undef):=hF ⟨14,.data⟩ (by simp) rfl
   rw [gd 51 (by omega)] at f14
   obtain⟨a1,d1,e13,r13,hn⟩:=f13
   rw [e13] at r13
   clear hF
   have cc:=mrow_any g _ 0 a1 1 d1 w hB.mm
   rw [fstE_none] at cc
   go_simp
   refine cc.mono ?_
   rintro e w' ⟨rfl,hM',hk⟩
   exact⟨_,rfl,G.1,G.2,baf_call hB HNo.out _ hk hM',chf_call hk,⟨_,_,rfl⟩,cl_cf r13 (chf_call (G:=G) (va:=va) hk) hlo HVl.out,hn⟩
  | 16,_ =>
   cases ho'
   have f8:(fun v=>v=.agg #[.int .i64 u.kind,.int .i64 u.n,.string u.name,.slice ru u.r.length rcu,.slice ku u.kids.length kcu,.slice su u.sys.length scu]) (a.tmps.getD 45 undef):=hF ⟨8,.data⟩ (by simp) rfl
   rw [gd 45 (by omega)] at f8
   have f15:(fun v=>∃ a c,v=.slice a 1 c∧ClRow (OkL w7.heap.size) w [e2 0 1] v∧1≤G.1) (a.tmps.getD 52 undef):=hF ⟨15,.data⟩ (by simp) rfl
   rw [gd 52 (by omega)] at f15
   obtain⟨_,p9⟩:=Array.getElem?_eq_some_iff.1 ((sl 9 (by omega)).trans s9)
   obtain⟨a1,d1,e15,r15,hn⟩:=f15
   rw [e15] at r15
   clear hF
   have g1:G.1=1:=by have:=hB.s1 hfl;omega
   have hm:Mk w g (fstE f eF):=by have:=hB.mm;rw [g1] at this;exact this
   have cc:=cWu.out w _ _ hm ((tmu.kn hB.kn (fun x hx=>HXX.out x hx)).tt) (r15.keep (Nat.le_refl _) (fun q hq=>by have:w7.heap.size≤q:=hq;show q≠g;omega) (fun _ _ _=>rfl))
   go_simp
   refine cc.mono ?_
   rintro e w' ⟨v',rfl,hv,hM',hk⟩
   obtain⟨ra,rc,ka,kc,sa,sc,rfl,ht⟩:=hv.form
   exact⟨_,rfl,2,G.2,baf_step hB HNo.out 16 2 hil hk hM' (.inr ⟨rfl,fun e=>by have:=hB.s0 e;omega⟩) (.inr rfl),chf_step hk (by omega),⟨_,_,_,_,_,_,rfl⟩,ht.value.up (fun q hq=>by have:=hq.2.1;show w7.heap.size≤q;omega),Nat.le_refl _⟩
  | 17,_ =>
   cases ho'
   have f4:(fun v=>∃ a c,v=.slice a FL.length c∧ClRow (OkL w7.heap.size) w FL v∧1≤G.1) (a.tmps.getD 41 undef):=hF ⟨4,.data⟩ (by simp) rfl
   rw [gd 41 (by omega)] at f4
   have f16:(fun v=>∃ ra rc ka kc sa sc,v=.agg #[.int .i64 T.kind,.int .i64 T.n,.string T.name,.slice ra T.r.length rc,.slice ka T.kids.length kc,.slice sa T.sys.length sc]∧TmIn (OkL w7.heap.size) w T v∧2≤G.1) (a.tmps.getD 53 undef):=hF ⟨16,.data⟩ (by simp) rfl
   rw [gd 53 (by omega)] at f16
   obtain⟨a1,d1,e4,r4,_⟩:=f4
   rw [e4] at r4
   obtain⟨ra,rc,ka,kc,sa,sc,e16,t16,_⟩:=f16
   rw [e16] at t16
   clear hF
   have cc:=branch_any (OkL w7.heap.size) FL _ T _ w r4 t16
   go_simp
   refine cc.mono ?_
   rintro e w' ⟨o2,rfl,hr,hkd2,hb⟩
   exact⟨_,rfl,G.1,G.2,baf_call hB HNo.out _ (Kn.of_below hb) (hB.mm.blw hb),chf_call (Kn.of_below hb),_,_,_,rfl,hr,hkd2.all (Nat.le_refl _) (fun q hq=>by rcases hq with hq | hq;exact hq;show w7.heap.size≤q;omega) (fun _ _ _=>rfl)⟩
  | 18,_ =>
   cases ho'
   have f17:(fun v=>∃ a c ob2,v=.agg #[.slice a FL.length c,.slice (some ⟨ob2,0,none⟩) 1 1]∧ClRow (OkL w7.heap.size) w FL (.slice a FL.length c)∧KdT (OkL w7.heap.size) w (TmIn (OkL w7.heap.size) w) [T] (.slice (some ⟨ob2,0,none⟩) 1 1)) (a.tmps.getD 54 undef):=hF ⟨17,.data⟩ (by simp) rfl
   rw [gd 54 (by omega)] at f17
   obtain⟨a1,d1,o2,e17,r17,k17⟩:=f17
   clear hF
   go_simp
   generalize hW:w.alloc _=W
   have bW:Below w.heap.size w W:=by rw [← hW];exact belowA _ _
   have zW:W.heap[w.heap.size]? = some (.cells #[.slice a1 FL.length d1,.slice (some ⟨o2,0,none⟩) 1 1] 50 (0,0)):=by rw [← hW];exact heapNew _ _
   exact⟨_,rfl,G.1,G.2,baf_call hB HNo.out _ (Kn.of_below bW) (hB.mm.blw bW),chf_call (Kn.of_below bW),_,_,_,_,rfl,sz,zW,r17.blw bW,k17.blw bW⟩
  | 19,_ =>
   cases ho'
   have f1:(fun v=>v=va) (a.tmps.getD 38 undef):=hF ⟨1,.data⟩ (by simp) rfl
   rw [gd 38 (by omega)] at f1
   have f18:(fun v=>∃ a c ob2 bk,v=.slice (some ⟨bk,0,none⟩) 1 1∧w7.heap.size≤bk∧w.heap[bk]? = some (.cells #[.slice a FL.length c,.slice (some ⟨ob2,0,none⟩) 1 1] 50 (0,0))∧ClRow (OkL w7.heap.size) w FL (.slice a FL.length c)∧KdT (OkL w7.heap.size) w (TmIn (OkL w7.heap.size) w) [T] (.slice (some ⟨ob2,0,none⟩) 1 1)) (a.tmps.getD 55 undef):=hF ⟨18,.data⟩ (by simp) rfl
   rw [gd 55 (by omega)] at f18
   obtain⟨a1,d1,o2,bk,e18,hbk,z18,r18,k18⟩:=f18
   clear hF
   have hg2:=hB.s2 hfl
   have hq:=hB.q0 hg2
   obtain⟨v',W',hrun,hQ',hgr,hov⟩:=append_Q (x:=(FL,[T])) (u:=(.slice a1 FL.length d1,.slice (some ⟨o2,0,none⟩) 1 1)) 24 hq ⟨bk,0,none⟩ 1 (cell2 z18) ⟨r18.lt' (fun x h hs=>⟨hs,fun e=>by have:=HVl.out x e.symm;have:w7.heap.size≤x:=h;omega,by have:w7.heap.size≤x:=h;exact⟨by omega,by have:=x7.lt;omega⟩⟩),k18.ltA (fun x h hs=>⟨hs,fun e=>by have:=HVl.out x e.symm;have:w7.heap.size≤x:=h;omega,by have:w7.heap.size≤x:=h;exact⟨by omega,by have:=x7.lt;omega⟩⟩)⟩ (by have:=HRl.out;have:=HLS.out;have:=HSl.out;omega) (by omega) ⟨by omega,by have:=x7.lt;omega⟩
   have hkG:Kn (KKq g va) w W':=(Kn.grown hgr).sub (fun x hx=>hx.2)
   have hMg:Mk W' g (er3 f (fstE f eF) f2 G.1):=hB.mm.kn (Kn.grown hgr) (fun e=>(HVa.out g e.symm).2.2.1 rfl)
   refine oper_append _ _ _ rfl _ _ v' W' (by go_simp) (by go_simp) hrun ?_
   refine⟨v',(G.1,some v'),rfl,(by intro h;cases h),⟨hMg,hB.kn.trans hkG,fun e=>hB.s0 (getDf_true e),fun e=>hB.s1 (getDf_true e),fun e=>?_,fun e=>?_,fun v2 e=>?_⟩,⟨hkG,Nat.le_refl _,fun v2 e=>?_⟩,rfl⟩
   ·rw [getD_set hil,if_pos rfl] at e;cases e
   ·cases e
   ·injection e with e;rw [← e];exact hQ'
   ·rw [hg2] at e;cases e
  | 20,_ =>
   cases ho'
   clear hF
   obtain⟨_,p10⟩:=Array.getElem?_eq_some_iff.1 ((sl 10 (by omega)).trans s10)
   go_simp
   exact⟨_,rfl,G.1,G.2,baf_pure hB _,chf_call (Kn.refl _ _),rfl⟩
  | n+21,hi=>exact absurd hi (by omega)
 ·intro l a G w hu hB ⟨h1,h2,h3⟩ hF
  have gd:∀ k (hk:k<a.tmps.size),a.tmps.getD k undef=a.tmps[k]:=fun k hk=>by unfold Array.getD;rw [dif_pos hk];rfl
  have f16:(fun v=>∃ ra rc ka kc sa sc,v=.agg #[.int .i64 T.kind,.int .i64 T.n,.string T.name,.slice ra T.r.length rc,.slice ka T.kids.length kc,.slice sa T.sys.length sc]∧TmIn (OkL w7.heap.size) w T v∧2≤G.1) (a.tmps.getD 53 undef):=hF 16 (by omega)
  obtain⟨_,_,_,_,_,_,_,_,hn2⟩:=f16
  have f19:(fun v=>G.2=some v) (a.tmps.getD 56 undef):=hF 19 (by omega)
  rw [gd 56 (by omega)] at f19
  have f20:(fun v=>v=.pointer (some ⟨o,5,none⟩)) (a.tmps.getD 57 undef):=hF 20 (by omega)
  rw [gd 57 (by omega)] at f20
  clear hF
  have hQ':=hB.q1 _ f19
  have hMz:Mk w g f2:=by
   have:=hB.mm
   unfold er3 at this
   rw [if_neg (by omega),if_neg (by omega)] at this
   exact this
  have xq:Six w o (.int .i64 15) (.int .i64 0) (.string ⟨#[]⟩) (.slice none 0 0) (.slice (some ⟨q,0,none⟩) 2 2) va:=⟨(hB.kn.block o Hoo.out x7.lt).trans x7.blk⟩
  obtain⟨v9,hv9⟩:∃ x,x=a.tmps[56]:=⟨_,rfl⟩
  rw [← hv9] at hQ'
  obtain⟨qa,qc,eq⟩:=hQ'.len
  simp only [List.length_append,List.length_cons,List.length_nil,Nat.zero_add] at eq
  subst eq
  have h56:=hv9.symm
  clear hv9
  refine tail_one (by kernel_rfl) rfl rfl hu ?_
  have z5:=xq.set5 (.slice qa (rows.length+1) qc)
  obtain⟨o0,o1,o2,o3,o4,o5,ff⟩:=xq.cells
  have g5:=ff 5
  obtain⟨W,hwz⟩:∃ W,W=w.setCell ⟨o,5,none⟩ (.slice qa (rows.length+1) qc):=⟨_,rfl⟩
  rw [← hwz] at z5
  have kz:Kn (fun x=>x≠o) w W:=by rw [hwz];exact kn_set _ _ _ _
  have hQ9:=hQ'.keep kz (fun x hx=>hx.2)
  have hM9:=hMz.kn kz (by omega)
  have hK9:Kn (fun q=>q<w5.heap.size∧q≠g∧q≠o) w5 W:=(hK7.trans (hB.kn.sub (fun x hx=>⟨hx.2.1,fun e=>by have:=(HVa.out x e.symm).1;omega⟩))).trans (kz.sub (fun x hx=>hx.2.2))
  have Hwz:Hid (_=_):=hwz
  clear hwz
  go_simp
  rw [← Hwz.out]
  clear kz hB xq hQ' hMz g5 o0 o1 o2 o3 o4 o5 Hwz hu f19 gd f20 h56
  subst hA0
  obtain⟨⟨l⟩,df⟩:=a
  cases h1
  have hl:l.length=74:=h2
  clear h2
  obtain⟨x0,l,rfl⟩:=List.exists_cons_of_length_pos (l:=l) (by omega)
  simp only [List.length_cons] at hl
  obtain⟨x1,l,rfl⟩:=List.exists_cons_of_length_pos (l:=l) (by omega)
  simp only [List.length_cons] at hl
  obtain⟨x2,l,rfl⟩:=List.exists_cons_of_length_pos (l:=l) (by omega)
  simp only [List.length_cons] at hl
  obtain⟨x3,l,rfl⟩:=List.exists_cons_of_length_pos (l:=l) (by omega)
  simp only [List.length_cons] at hl
  obtain⟨x4,l,rfl⟩:=List.exists_cons_of_length_pos (l:=l) (by omega)
  simp only [List.length_cons] at hl
  obtain⟨x5,l,rfl⟩:=List.exists_cons_of_length_pos (l:=l) (by omega)
  simp only [List.length_cons] at hl
  obtain⟨x6,l,rfl⟩:=List.exists_cons_of_length_pos (l:=l) (by omega)
  simp only [List.length_cons] at hl
  obtain⟨x7,l,rfl⟩:=List.exists_cons_of_length_pos (l:=l) (by omega)
  simp only [List.length_cons] at hl
  obtain⟨x8,l,rfl⟩:=List.exists_cons_of_length_pos (l:=l) (by omega)
  simp only [List.length_cons] at hl
  obtain⟨x9,l,rfl⟩:=List.exists_cons_of_length_pos (l:=l) (by omega)
  simp only [List.length_cons] at hl
  obtain⟨x10,l,rfl⟩:=List.exists_cons_of_length_pos (l:=l) (by omega)
  simp only [List.length_cons] at hl
  obtain⟨x11,l,rfl⟩:=List.exists_cons_of_length_pos (l:=l) (by omega)
  simp only [List.length_cons] at hl
  obtain⟨x12,l,rfl⟩:=List.exists_cons_of_length_pos (l:=l) (by omega)
  simp only [List.length_cons] at hl
  obtain⟨x13,l,rfl⟩:=List.exists_cons_of_length_pos (l:=l) (by omega)
  simp only [List.length_cons] at hl
  obtain⟨x14,l,rfl⟩:=List.exists_cons_of_length_pos (l:=l) (by omega)
  simp only [List.length_cons] at hl
  obtain⟨x15,l,rfl⟩:=List.exists_cons_of_length_pos (l:=l) (by omega)
  simp only [List.length_cons] at hl
  obtain⟨x16,l,rfl⟩:=List.exists_cons_of_length_pos (l:=l) (by omega)
  simp only [List.length_cons] at hl
  obtain⟨x17,l,rfl⟩:=List.exists_cons_of_length_pos (l:=l) (by omega)
  simp only [List.length_cons] at hl
  obtain⟨x18,l,rfl⟩:=List.exists_cons_of_length_pos (l:=l) (by omega)
  simp only [List.length_cons] at hl
  obtain⟨x19,l,rfl⟩:=List.exists_cons_of_length_pos (l:=l) (by omega)
  simp only [List.length_cons] at hl
  obtain⟨x20,l,rfl⟩:=List.exists_cons_of_length_pos (l:=l) (by omega)
  simp only [List.length_cons] at hl
  obtain⟨x21,l,rfl⟩:=List.exists_cons_of_length_pos (l:=l) (by omega)
  simp only [List.length_cons] at hl
  obtain⟨x22,l,rfl⟩:=List.exists_cons_of_length_pos (l:=l) (by omega)
  simp only [List.length_cons] at hl
  obtain⟨x23,l,rfl⟩:=List.exists_cons_of_length_pos (l:=l) (by omega)
  simp only [List.length_cons] at hl
  obtain⟨x24,l,rfl⟩:=List.exists_cons_of_length_pos (l:=l) (by omega)
  simp only [List.length_cons] at hl
  obtain⟨x25,l,rfl⟩:=List.exists_cons_of_length_pos (l:=l) (by omega)
  simp only [List.length_cons] at hl
  obtain⟨x26,l,rfl⟩:=List.exists_cons_of_length_pos (l:=l) (by omega)
  simp only [List.length_cons] at hl
  obtain⟨x27,l,rfl⟩:=List.exists_cons_of_length_pos (l:=l) (by omega)
  simp only [List.length_cons] at hl
  obtain⟨x28,l,rfl⟩:=List.exists_cons_of_length_pos (l:=l) (by omega)
  simp only [List.length_cons] at hl
  obtain⟨x29,l,rfl⟩:=List.exists_cons_of_length_pos (l:=l) (by omega)
  simp only [List.length_cons] at hl
  obtain⟨x30,l,rfl⟩:=List.exists_cons_of_length_pos (l:=l) (by omega)
  simp only [List.length_cons] at hl
  obtain⟨x31,l,rfl⟩:=List.exists_cons_of_length_pos (l:=l) (by omega)
  simp only [List.length_cons] at hl
  obtain⟨x32,l,rfl⟩:=List.exists_cons_of_length_pos (l:=l) (by omega)
  simp only [List.length_cons] at hl
  obtain⟨x33,l,rfl⟩:=List.exists_cons_of_length_pos (l:=l) (by omega)
  simp only [List.length_cons] at hl
  obtain⟨x34,l,rfl⟩:=List.exists_cons_of_length_pos (l:=l) (by omega)
  simp only [List.length_cons] at hl
  obtain⟨x35,l,rfl⟩:=List.exists_cons_of_length_pos (l:=l) (by omega)
  simp only [List.length_cons] at hl
  obtain⟨x36,l,rfl⟩:=List.exists_cons_of_length_pos (l:=l) (by omega)
  simp only [List.length_cons] at hl
  obtain⟨x37,l,rfl⟩:=List.exists_cons_of_length_pos (l:=l) (by omega)
  simp only [List.length_cons] at hl
  obtain⟨x38,l,rfl⟩:=List.exists_cons_of_length_pos (l:=l) (by omega)
  simp only [List.length_cons] at hl
  obtain⟨x39,l,rfl⟩:=List.exists_cons_of_length_pos (l:=l) (by omega)
  simp only [List.length_cons] at hl
  obtain⟨x40,l,rfl⟩:=List.exists_cons_of_length_pos (l:=l) (by omega)
  simp only [List.length_cons] at hl
  obtain⟨x41,l,rfl⟩:=List.exists_cons_of_length_pos (l:=l) (by omega)
  simp only [List.length_cons] at hl
  obtain⟨x42,l,rfl⟩:=List.exists_cons_of_length_pos (l:=l) (by omega)
  simp only [List.length_cons] at hl
  obtain⟨x43,l,rfl⟩:=List.exists_cons_of_length_pos (l:=l) (by omega)
  simp only [List.length_cons] at hl
  obtain⟨x44,l,rfl⟩:=List.exists_cons_of_length_pos (l:=l) (by omega)
  simp only [List.length_cons] at hl
  obtain⟨x45,l,rfl⟩:=List.exists_cons_of_length_pos (l:=l) (by omega)
  simp only [List.length_cons] at hl
  obtain⟨x46,l,rfl⟩:=List.exists_cons_of_length_pos (l:=l) (by omega)
  simp only [List.length_cons] at hl
  obtain⟨x47,l,rfl⟩:=List.exists_cons_of_length_pos (l:=l) (by omega)
  simp only [List.length_cons] at hl
  obtain⟨x48,l,rfl⟩:=List.exists_cons_of_length_pos (l:=l) (by omega)
  simp only [List.length_cons] at hl
  obtain⟨x49,l,rfl⟩:=List.exists_cons_of_length_pos (l:=l) (by omega)
  simp only [List.length_cons] at hl
  obtain⟨x50,l,rfl⟩:=List.exists_cons_of_length_pos (l:=l) (by omega)
  simp only [List.length_cons] at hl
  obtain⟨x51,l,rfl⟩:=List.exists_cons_of_length_pos (l:=l) (by omega)
  simp only [List.length_cons] at hl
  obtain⟨x52,l,rfl⟩:=List.exists_cons_of_length_pos (l:=l) (by omega)
  simp only [List.length_cons] at hl
  obtain⟨x53,l,rfl⟩:=List.exists_cons_of_length_pos (l:=l) (by omega)
  simp only [List.length_cons] at hl
  obtain⟨x54,l,rfl⟩:=List.exists_cons_of_length_pos (l:=l) (by omega)
  simp only [List.length_cons] at hl
  obtain⟨x55,l,rfl⟩:=List.exists_cons_of_length_pos (l:=l) (by omega)
  simp only [List.length_cons] at hl
  obtain⟨x56,l,rfl⟩:=List.exists_cons_of_length_pos (l:=l) (by omega)
  simp only [List.length_cons] at hl
  obtain⟨x57,l,rfl⟩:=List.exists_cons_of_length_pos (l:=l) (by omega)
  simp only [List.length_cons] at hl
  obtain⟨x58,l,rfl⟩:=List.exists_cons_of_length_pos (l:=l) (by omega)
  simp only [List.length_cons] at hl
  obtain⟨x59,l,rfl⟩:=List.exists_cons_of_length_pos (l:=l) (by omega)
  simp only [List.length_cons] at hl
  obtain⟨x60,l,rfl⟩:=List.exists_cons_of_length_pos (l:=l) (by omega)
  simp only [List.length_cons] at hl
  obtain⟨x61,l,rfl⟩:=List.exists_cons_of_length_pos (l:=l) (by omega)
  simp only [List.length_cons] at hl
  obtain⟨x62,l,rfl⟩:=List.exists_cons_of_length_pos (l:=l) (by omega)
  simp only [List.length_cons] at hl
  obtain⟨x63,l,rfl⟩:=List.exists_cons_of_length_pos (l:=l) (by omega)
  simp only [List.length_cons] at hl
  obtain⟨x64,l,rfl⟩:=List.exists_cons_of_length_pos (l:=l) (by omega)
  simp only [List.length_cons] at hl
  obtain⟨x65,l,rfl⟩:=List.exists_cons_of_length_pos (l:=l) (by omega)
  simp only [List.length_cons] at hl
  obtain⟨x66,l,rfl⟩:=List.exists_cons_of_length_pos (l:=l) (by omega)
  simp only [List.length_cons] at hl
  obtain⟨x67,l,rfl⟩:=List.exists_cons_of_length_pos (l:=l) (by omega)
  simp only [List.length_cons] at hl
  obtain⟨x68,l,rfl⟩:=List.exists_cons_of_length_pos (l:=l) (by omega)
  simp only [List.length_cons] at hl
  obtain⟨x69,l,rfl⟩:=List.exists_cons_of_length_pos (l:=l) (by omega)
  simp only [List.length_cons] at hl
  obtain⟨x70,l,rfl⟩:=List.exists_cons_of_length_pos (l:=l) (by omega)
  simp only [List.length_cons] at hl
  obtain⟨x71,l,rfl⟩:=List.exists_cons_of_length_pos (l:=l) (by omega)
  simp only [List.length_cons] at hl
  obtain⟨x72,l,rfl⟩:=List.exists_cons_of_length_pos (l:=l) (by omega)
  simp only [List.length_cons] at hl
  obtain⟨x73,l,rfl⟩:=List.exists_cons_of_length_pos (l:=l) (by omega)
  simp only [List.length_cons] at hl
  obtain rfl:l=[]:=List.eq_nil_of_length_eq_zero (by omega)
  have q0:some x0=some _:=h3 0 (by omega)
  cases q0
  have q1:some x1=some _:=h3 1 (by omega)
  cases q1
  have q2:some x2=some _:=h3 2 (by omega)
  cases q2
  have q3:some x3=some _:=h3 3 (by omega)
  cases q3
  have q4:some x4=some _:=h3 4 (by omega)
  cases q4
  have q5:some x5=some _:=h3 5 (by omega)
  cases q5
  have q6:some x6=some _:=h3 6 (by omega)
  cases q6
  have q7:some x7=some _:=h3 7 (by omega)
  cases q7
  have q8:some x8=some _:=h3 8 (by omega)
  cases q8
  have q9:some x9=some _:=h3 9 (by omega)
  cases q9
  have q10:some x10=some _:=h3 10 (by omega)
  cases q10
  have q11:some x11=some _:=h3 11 (by omega)
  cases q11
  have q12:some x12=some _:=h3 12 (by omega)
  cases q12
  have q13:some x13=some _:=h3 13 (by omega)
  cases q13
  have q14:some x14=some _:=h3 14 (by omega)
  cases q14
  have q15:some x15=some _:=h3 15 (by omega)
  cases q15
  have q16:some x16=some _:=h3 16 (by omega)
  cases q16
  have q17:some x17=some _:=h3 17 (by omega)
  cases q17
  have q18:some x18=some _:=h3 18 (by omega)
  cases q18
  have q19:some x19=some _:=h3 19 (by omega)
  cases q19
  have q20:some x20=some _:=h3 20 (by omega)
  cases q20
  have q21:some x21=some _:=h3 21 (by omega)
  cases q21
  have q22:some x22=some _:=h3 22 (by omega)
  cases q22
  have q23:some x23=some _:=h3 23 (by omega)
  cases q23
  have q24:some x24=some _:=h3 24 (by omega)
  cases q24
  have q25:some x25=some _:=h3 25 (by omega)
  cases q25
  have q26:some x26=some _:=h3 26 (by omega)
  cases q26
  have q27:some x27=some _:=h3 27 (by omega)
  cases q27
  have q28:some x28=some _:=h3 28 (by omega)
  cases q28
  have q29:some x29=some _:=h3 29 (by omega)
  cases q29
  have q30:some x30=some _:=h3 30 (by omega)
  cases q30
  have q31:some x31=some _:=h3 31 (by omega)
  cases q31
  have q32:some x32=some _:=h3 32 (by omega)
  cases q32
  have q33:some x33=some _:=h3 33 (by omega)
  cases q33
  have q34:some x34=some _:=h3 34 (by omega)
  cases q34
  have q35:some x35=some _:=h3 35 (by omega)
  cases q35
  have q36:some x36=some _:=h3 36 (by omega)
  cases q36
  have q58:some x58=some _:=h3 58 (by omega)
  cases q58
  have q59:some x59=some _:=h3 59 (by omega)
  cases q59
  have q60:some x60=some _:=h3 60 (by omega)
  cases q60
  have q61:some x61=some _:=h3 61 (by omega)
  cases q61
  have q62:some x62=some _:=h3 62 (by omega)
  cases q62
  have q63:some x63=some _:=h3 63 (by omega)
  cases q63
  have q64:some x64=some _:=h3 64 (by omega)
  cases q64
  have q65:some x65=some _:=h3 65 (by omega)
  cases q65
  have q66:some x66=some _:=h3 66 (by omega)
  cases q66
  have q67:some x67=some _:=h3 67 (by omega)
  cases q67
  have q68:some x68=some _:=h3 68 (by omega)
  cases q68
  have q69:some x69=some _:=h3 69 (by omega)
  cases q69
  have q70:some x70=some _:=h3 70 (by omega)
  cases q70
  have q71:some x71=some _:=h3 71 (by omega)
  cases q71
  have q72:some x72=some _:=h3 72 (by omega)
  cases q72
  have q73:some x73=some _:=h3 73 (by omega)
  cases q73
  clear h3 s0 s9 s10 s12
  simp only [List.getElem_toArray,List.getElem_cons_zero,List.getElem_cons_succ]
  clear hn2 hl hwd hbd htm hM hM7 hQ hQ7 x5 x7 hK5 hK7 hro tmu q67 zb b7 hb hub s7 hFl hlo hz67 hol7
  have hKf:=hK9
  have hQf:QOwn w5.heap.size (fun r=>r≠g∧r≠o) W (.slice qa (rows.length+1) qc) ((sys.take (k+1)).map flB):=by rw [HeR.out,HeB.out];exact hQ9
  have hMf:Mk W g (flG f0 (sys.take (k+1))):=by rw [HeG.out];exact hM9
  have hR:Hid (_∧_∧_∧_):=⟨hQf,hMf,z5,hKf⟩
  clear hQf hMf hQ9 hM9 hK9 hKf z5
  have hLS150:LS≤150:=by rw [HLS.out];exact HSl.out
  go_wp2_with fail
  go_roundw
  case rel=>exact⟨k+1,by omega,by go_num,_,hR.out.1,hR.out.2.1,hR.out.2.2.1,hR.out.2.2.2⟩
  case measure=>simp [intOf];omega
 ·show cntU (Array.replicate _ false) 21=21
  kernel_rfl
 ·kernel_rfl
 ·intro i h1 h2
  obtain rfl:i=21:=by have:i<22:=h2;omega
  rfl
 ·exact⟨hM7.blw hbd,Kn.of_below hbd,fun _=>rfl,fun _=>Nat.zero_le _,fun _=>rfl,fun _=>hQ7.keep (No2:=fun _=>True) (Kn.of_below hbd) (fun _ _=>trivial),fun v' e=>(by cases e)⟩
 ·exact⟨s0.2,s0.1,fun k _=>rfl⟩
 ·intro i hi h
  have:(Array.replicate 22 false).getD i true=false:=by unfold Array.getD;rw [dif_pos (by simp;omega)];simp
  exact absurd (this.symm.trans h) (by simp)
end Go.Proofs.YtmblbmdchinflaaGreat
