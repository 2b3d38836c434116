/- A filler of a composition without branches. -/
import Derived.Test.YtmblbmdchinflaaGreatEG27
import Derived.Test.YtmblbmdchinflaaGreatEG5
import Derived.Test.YtmblbmdchinflaaGreatEYBdS
import Derived.Test.YtmblbmdchinflaaGreatEG36
set_option linter.unusedVariables false
set_option linter.unusedSimpArgs false
set_option maxRecDepth 100000
set_option maxHeartbeats 40000000
namespace Go.Proofs.YtmblbmdchinflaaGreat
open Go.RowKit
def flB (b:List C × List Tm):List C × List Tm:=((liftFF b.1 0 1).1,b.2.map (lineT [e2 0 1]))
def flS (a:Tm) (sys:List (List C × List Tm)):List (List C × List Tm):=sys.map flB ++ [([negB 0],[bothT 0 2 a])]
def flG (f:Int) (l:List (List C × List Tm)):Int:=l.foldl (fun f b=>lineE (fstE f (liftFF b.1 0 1).2) [e2 0 1] (b.2.headD noT)) f
def flT (t a:Tm) (sys:List (List C × List Tm)):Tm:=.mk 15 0 ⟨#[]⟩ [] [bothT 0 1 t,bothT 0 1 a] (flS a sys)
def flF (t a:Tm) (sys:List (List C × List Tm)):Int:=fstE (flG (fstE (fstE 0 (bothE 0 1 t)) (bothE 0 1 a)) sys) (bothE 0 2 a)
def fillE (t a:Tm) (sys:List (List C × List Tm)):Int:=if wrE [t,a,hcT sys]=0 then doneE (flF t a sys) (flT t a sys) else wrE [t,a,hcT sys]
def fillT (t a:Tm) (sys:List (List C × List Tm)):Tm:=if wrE [t,a,hcT sys]=0 then doneT (flF t a sys) (flT t a sys) else zeroT
theorem hc0_blk:blk (hcT [])≤20000:=by decide +kernel
theorem fl0_blk {t a:Tm} (h1:blk t≤150) (h2:blk a≤150):blk (flT t a [])≤20000:=by
 have h3:=both_blk (vs:=0) (ds:=1) (t:=t)
 have h4:=both_blk (vs:=0) (ds:=1) (t:=a)
 have h5:=both_blk (vs:=0) (ds:=2) (t:=a)
 rw [blk_eq]
 unfold flT flS
 simp [blkL,blkS]
 have h6:ByteArray.size ⟨#[]⟩=0:=rfl
 omega
theorem cell2 {w:World} {bk:Nat} {x y:Value} {ty:TypeId} (h:w.heap[bk]? = some (.cells #[x,y] ty (0,0))):∀ (j:Nat) (z:Value),(flat2 [(x,y)])[j]? = some z→w.cell? ((⟨bk,0,none⟩:Addr).add j)=some z:=fun j z hj=>by
 match j,hj with
 | 0,hj=>simp [flat2] at hj;subst hj;simp [World.cell?,Addr.add,h]
 | 1,hj=>simp [flat2] at hj;subst hj;simp [World.cell?,Addr.add,h]
 | (j+2),hj=>simp [flat2] at hj
theorem Kn.grown {w w':World} {r:Option Nat} (hg:w.grownBy w' r):Kn (fun q=>some q≠r) w w':=⟨hg.os,hg.tape,hg.output,hg.size,fun k hk hs=>hg.block k hs hk⟩
theorem mfill0_any (hLA:LAll) (t:Tm) (v1:Value) (a:Tm) (v2:Value) (w:World) (h1:TmIn Tt w t v1) (h2:TmIn Tt w a v2) (hb1:blk t≤150) (hb2:blk a≤150) :
  Calls Tryz.prog 10 #[v1,v2,.slice none 0 0] w fun e w'=>∃ v',e=.returned (.tuple #[v',.int .i64 (fillE t a [])])∧TmIn (fun q=>w.heap.size≤q) w' (fillT t a []) v'∧Below w.heap.size w w':=by
 have HE:Hid (fillE t a []=(if wrE [t,a,hcT []]=0 then doneE (flF t a []) (flT t a []) else wrE [t,a,hcT []])∧fillT t a []=(if wrE [t,a,hcT []]=0 then doneT (flF t a []) (flT t a []) else zeroT)):=⟨rfl,rfl⟩
 have HF:Hid (flF t a []=fstE (fstE (fstE 0 (bothE 0 1 t)) (bothE 0 1 a)) (bothE 0 2 a)∧flT t a []=.mk 15 0 ⟨#[]⟩ [] [bothT 0 1 t,bothT 0 1 a] [([negB 0],[bothT 0 2 a])]):=⟨rfl,rfl⟩
 have hbF:=fl0_blk hb1 hb2
 obtain⟨ra1,rc1,ka1,kc1,sa1,sc1,rfl,ht1⟩:=h1.form
 obtain⟨ra2,rc2,ka2,kc2,sa2,sc2,rfl,ht2⟩:=h2.form
 obtain⟨w1,hw1⟩:∃ W,W=((w.alloc (.cells #[.int .i64 t.kind,.int .i64 t.n,.string t.name,.slice ra1 t.r.length rc1,.slice ka1 t.kids.length kc1,.slice sa1 t.sys.length sc1] 26)).alloc (.cells #[.int .i64 a.kind,.int .i64 a.n,.string a.name,.slice ra2 a.r.length rc2,.slice ka2 a.kids.length kc2,.slice sa2 a.sys.length sc2] 26)).alloc (.cells #[.int .i64 0,.int .i64 0,.string ⟨#[]⟩,.slice none 0 0,.slice none 0 0,.slice none 0 0] 26):=⟨_,rfl⟩
 have b1:Below w.heap.size w w1:=by rw [hw1];exact bchain (bchain (belowA _ _) (belowA _ _)) (belowA _ _)
 obtain⟨X,hX⟩:∃ X,X=w.heap.size:=⟨_,rfl⟩
 have s1:w1.heap.size=X+3:=by rw [hw1,hX];simp
 have x1:Six w1 (X) (.int .i64 t.kind) (.int .i64 t.n) (.string t.name) (.slice ra1 t.r.length rc1) (.slice ka1 t.kids.length kc1) (.slice sa1 t.sys.length sc1):=⟨by
  rw [hX,hw1]
  have q:=heapNew w (.cells #[.int .i64 t.kind,.int .i64 t.n,.string t.name,.slice ra1 t.r.length rc1,.slice ka1 t.kids.length kc1,.slice sa1 t.sys.length sc1] 26)
  try simp only [World.size_alloc] at q
  exact heapBox _ (heapBox _ (q))⟩
 have x2:Six w1 (X+1) (.int .i64 a.kind) (.int .i64 a.n) (.string a.name) (.slice ra2 a.r.length rc2) (.slice ka2 a.kids.length kc2) (.slice sa2 a.sys.length sc2):=⟨by
  rw [hX,hw1]
  have q:=heapNew (w.alloc (.cells #[.int .i64 t.kind,.int .i64 t.n,.string t.name,.slice ra1 t.r.length rc1,.slice ka1 t.kids.length kc1,.slice sa1 t.sys.length sc1] 26)) (.cells #[.int .i64 a.kind,.int .i64 a.n,.string a.name,.slice ra2 a.r.length rc2,.slice ka2 a.kids.length kc2,.slice sa2 a.sys.length sc2] 26)
  try simp only [World.size_alloc] at q
  exact heapBox _ (q)⟩
 have x3:Six w1 (X+2) (.int .i64 0) (.int .i64 0) (.string ⟨#[]⟩) (.slice none 0 0) (.slice none 0 0) (.slice none 0 0):=⟨by
  rw [hX,hw1]
  have q:=heapNew ((w.alloc (.cells #[.int .i64 t.kind,.int .i64 t.n,.string t.name,.slice ra1 t.r.length rc1,.slice ka1 t.kids.length kc1,.slice sa1 t.sys.length sc1] 26)).alloc (.cells #[.int .i64 a.kind,.int .i64 a.n,.string a.name,.slice ra2 a.r.length rc2,.slice ka2 a.kids.length kc2,.slice sa2 a.sys.length sc2] 26)) (.cells #[.int .i64 0,.int .i64 0,.string ⟨#[]⟩,.slice none 0 0,.slice none 0 0,.slice none 0 0] 26)
  try simp only [World.size_alloc] at q
  exact q⟩
 have h1:=(h1.lt' (ok':=fun q=>q<X) (fun q _ hs=>by rw [hX];exact hs)).blw b1
 have h2:=(h2.lt' (ok':=fun q=>q<X) (fun q _ hs=>by rw [hX];exact hs)).blw b1
 have cS:Hid (∀ V,Calls Tryz.prog 30 #[.slice none 0 0] V fun e w'=>∃ v',e=.returned v'∧TmIn (fun q=>Tt q∨(V.heap.size≤q∧q<w'.heap.size)) w' (hcT []) v'∧Below V.heap.size V w'):=fun V=>systems_any Tt [] _ V (sy_nil _ _ _)
 have cW:Hid (∀ V v,KdT Tt V (TmIn Tt V) [t,a,hcT []] v→Calls Tryz.prog 29 #[v] V fun e w'=>e=.returned (.int .i64 (wrE [t,a,hcT []]))∧Below V.heap.size V w'):=fun V v q=>mwrong_any _ v V q (by intro x hx;have:=hc0_blk;simp at hx;rcases hx with rfl | rfl | rfl <;> omega) (by simp)
 have cB:Hid (∀ g V v f,Mk V g f→TmIn Tt V t v→Calls Tryz.prog 32 #[.pointer (some ⟨g,0,none⟩),v,.int .i64 0,.int .i64 1] V fun e w'=>∃ v',e=.returned v'∧TmIn (Bt g V.heap.size w'.heap.size) w' (bothT 0 1 t) v'∧Mk w' g (fstE f (bothE 0 1 t))∧Kn (Ng g) V w'):=fun g V v f q1 q2=>mlifted_any hLA g f t v 0 1 V q1 q2 (by omega)
 have cA:Hid (∀ g V v f,Mk V g f→TmIn Tt V a v→Calls Tryz.prog 32 #[.pointer (some ⟨g,0,none⟩),v,.int .i64 0,.int .i64 1] V fun e w'=>∃ v',e=.returned v'∧TmIn (Bt g V.heap.size w'.heap.size) w' (bothT 0 1 a) v'∧Mk w' g (fstE f (bothE 0 1 a))∧Kn (Ng g) V w'):=fun g V v f q1 q2=>mlifted_any hLA g f a v 0 1 V q1 q2 (by omega)
 have cA2:Hid (∀ g V v f,Mk V g f→TmIn Tt V a v→Calls Tryz.prog 32 #[.pointer (some ⟨g,0,none⟩),v,.int .i64 0,.int .i64 2] V fun e w'=>∃ v',e=.returned v'∧TmIn (Bt g V.heap.size w'.heap.size) w' (bothT 0 2 a) v'∧Mk w' g (fstE f (bothE 0 2 a))∧Kn (Ng g) V w'):=fun g V v f q1 q2=>mlifted_any hLA g f a v 0 2 V q1 q2 (by omega)
 have cDn:Hid (∀ g V v f,Mk V g f→TmIn Tt V (flT t a []) v→TmIn (Ng g) V (flT t a []) v→Calls Tryz.prog 41 #[.pointer (some ⟨g,0,none⟩),v] V fun e w'=>∃ v',e=.returned (.tuple #[v',.int .i64 (doneE f (flT t a []))])∧TmIn (Bt g V.heap.size w'.heap.size) w' (doneT f (flT t a [])) v'∧Kn (Ng g) V w'):=fun g V v f q1 q2 q3=>mdone_any g f _ v V q1 q2 q3 hbF
 obtain⟨HT,hHT⟩:∃ e,e=hcT []:=⟨_,rfl⟩
 rw [← hHT] at cS cW HE
 obtain⟨EW,hEW⟩:∃ e,e=wrE [t,a,HT]:=⟨_,rfl⟩
 rw [← hEW] at cW HE
 obtain⟨TB,hTB⟩:∃ e,e=bothT 0 1 t:=⟨_,rfl⟩
 obtain⟨eB,heB⟩:∃ e,e=bothE 0 1 t:=⟨_,rfl⟩
 obtain⟨TA,hTA⟩:∃ e,e=bothT 0 1 a:=⟨_,rfl⟩
 obtain⟨eA,heA⟩:∃ e,e=bothE 0 1 a:=⟨_,rfl⟩
 obtain⟨TC,hTC⟩:∃ e,e=bothT 0 2 a:=⟨_,rfl⟩
 obtain⟨eC,heC⟩:∃ e,e=bothE 0 2 a:=⟨_,rfl⟩
 obtain⟨AT,hAT⟩:∃ e,e=flT t a []:=⟨_,rfl⟩
 obtain⟨AF,hAF⟩:∃ e,e=flF t a []:=⟨_,rfl⟩
 rw [← hAF,← hAT,← hTB,← heB,← hTA,← heA,← hTC,← heC] at HF
 rw [← hAF,← hAT] at HE
 rw [← hTB,← heB] at cB
 rw [← hTA,← heA] at cA
 rw [← hTC,← heC] at cA2
 rw [← hAT] at cDn
 have HW:Hid (_=_):=hw1
 have HX:Hid (X=w.heap.size):=hX
 have Hb1:Hid (Below w.heap.size w w1):=b1
 rw [← hX]
 clear hw1 hX b1 ht1 ht2 hb1 hb2 hbF hHT hEW hTB heB hTA heA hTC heC hAT hAF
 go_enter Tryz.func10,Tryz.ntmps10
 go_upto_region 1 with fail
 rw [← HW.out]
 simp only [← HX.out]
 clear HW
 obtain⟨g,hg⟩:∃ g,g=X+3:=⟨_,rfl⟩
 have hgX:X+3≤g∧g<X+4:=by omega
 have x1i:=x1
 have x2i:=x2
 refine wp_region_held_drew (S:=fun V=>Below w1.heap.size w1 V) (by kernel_rfl) ((Below.refl _ _).drew) (fun hS=>?_)
 obtain⟨wd,hwd⟩:∃ V,V=w1.drew:=⟨_,rfl⟩
 have hbd:Below w1.heap.size w1 wd:=by rw [hwd];exact (Below.refl _ _).drew
 have hszd:w1.heap.size≤wd.heap.size:=hbd.size
 have hK:Below w1.heap.size w1 w1:=Below.refl _ _
 rw [← hwd] at hS ⊢
 clear hwd
 have hK:=hK.trans (hbd.mono hK.size)
 have h1:=h1.blw hbd
 have h2:=h2.blw hbd
 have x1:=x1.blw hbd
 have x2:=x2.blw hbd
 have x3:=x3.blw hbd
 clear hbd
 refine zk 0 (.agg #[.int .i64 t.kind,.int .i64 t.n,.string t.name,.slice ra1 t.r.length rc1,.slice ka1 t.kids.length kc1,.slice sa1 t.sys.length sc1]) rfl (by rfl) (fun w hS=>by obtain⟨y0,y1,y2,y3,y4,y5,_⟩:=(x1i.blw hS).cells;go_simp) hS ?_
 try simp only [Act.put,zg1,zg2,zg3,zs1,zs2,zs3]
 refine zk 1 (.agg #[.int .i64 a.kind,.int .i64 a.n,.string a.name,.slice ra2 a.r.length rc2,.slice ka2 a.kids.length kc2,.slice sa2 a.sys.length sc2]) rfl (by rfl) (fun w hS=>by obtain⟨y0,y1,y2,y3,y4,y5,_⟩:=(x2i.blw hS).cells;go_simp) hS ?_
 try simp only [Act.put,zg1,zg2,zg3,zs1,zs2,zs3]
 refine zk 2 (.slice none 0 0) rfl (by rfl) (fun w hS=>by go_simp) hS ?_
 try simp only [Act.put,zg1,zg2,zg3,zs1,zs2,zs3]
 refine zr 3 rfl (fun KK hKK=>?_)
 refine⟨?_⟩
 have cc:=cS.out wd
 go_simp
 refine cc.mono ?_
 rintro e u1 ⟨vu1,rfl,hvu1,bu1⟩
 obtain⟨ra3,rc3,ka3,kc3,sa3,sc3,rfl,ht3⟩:=hvu1.form
 have hT3:TmIn Tt u1 HT _:=ht3.value.tt
 have hk:=bu1
 have hszu1:=hk.size
 have hK:=hK.trans (hk.mono hK.size)
 have h1:=h1.blw hk
 have h2:=h2.blw hk
 have x1:=x1.blw hk
 have x2:=x2.blw hk
 have x3:=x3.blw hk
 clear cc hvu1 ht3
 refine hKK.out _ _ (hK) (fun hS=>?_)
 clear hKK KK
 try simp only [Act.put,zg1,zg2,zg3,zs1,zs2,zs3]
 clear hk
 refine zr 4 rfl (fun KK hKK=>?_)
 obtain⟨bk3,hbk3⟩:∃ q,q=u1.heap.size:=⟨_,rfl⟩
 obtain⟨u2,hu2⟩:∃ W,W=u1.alloc (.cells #[.int .i64 t.kind,.int .i64 t.n,.string t.name,.slice ra1 t.r.length rc1,.slice ka1 t.kids.length kc1,.slice sa1 t.sys.length sc1,.int .i64 a.kind,.int .i64 a.n,.string a.name,.slice ra2 a.r.length rc2,.slice ka2 a.kids.length kc2,.slice sa2 a.sys.length sc2,.int .i64 HT.kind,.int .i64 HT.n,.string HT.name,.slice ra3 HT.r.length rc3,.slice ka3 HT.kids.length kc3,.slice sa3 HT.sys.length sc3] 26):=⟨_,rfl⟩
 have bu2:Below u1.heap.size u1 u2:=by rw [hu2];exact belowA _ _
 have zu2:u2.heap[bk3]? = some (.cells #[.int .i64 t.kind,.int .i64 t.n,.string t.name,.slice ra1 t.r.length rc1,.slice ka1 t.kids.length kc1,.slice sa1 t.sys.length sc1,.int .i64 a.kind,.int .i64 a.n,.string a.name,.slice ra2 a.r.length rc2,.slice ka2 a.kids.length kc2,.slice sa2 a.sys.length sc2,.int .i64 HT.kind,.int .i64 HT.n,.string HT.name,.slice ra3 HT.r.length rc3,.slice ka3 HT.kids.length kc3,.slice sa3 HT.sys.length sc3] 26 (0,0)):=by rw [hu2,hbk3];exact heapNew _ _
 have hk:=bu2
 have hszu2:=hk.size
 have hK:=hK.trans (hk.mono hK.size)
 have h1:=h1.blw hk
 have h2:=h2.blw hk
 have x1:=x1.blw hk
 have x2:=x2.blw hk
 have x3:=x3.blw hk
 have hT3:=hT3.blw hk
 have hKd:=kd_three zu2 (ok:=Tt) trivial h1.tt h2.tt hT3
 have Hu2:Hid (_=_):=hu2
 have Kbk3:Hid (_=_):=hbk3
 clear hu2 hbk3
 refine⟨?_⟩
 go_simp
 rw [← Hu2.out]
 try simp only [← Kbk3.out]
 refine hKK.out _ _ (hK) (fun hS=>?_)
 clear hKK KK
 try simp only [Act.put,zg1,zg2,zg3,zs1,zs2,zs3]
 clear hk Hu2
 refine zr 5 rfl (fun KK hKK=>?_)
 refine⟨?_⟩
 have cc:=cW.out u2 _ hKd
 go_simp
 refine cc.mono ?_
 rintro e u4 ⟨rfl,bu4⟩
 have hk:=bu4
 have hszu4:=hk.size
 have hK:=hK.trans (hk.mono hK.size)
 have h1:=h1.blw hk
 have h2:=h2.blw hk
 have x1:=x1.blw hk
 have x2:=x2.blw hk
 have x3:=x3.blw hk
 clear cc
 refine hKK.out _ _ (hK) (fun hS=>?_)
 clear hKK KK
 try simp only [Act.put,zg1,zg2,zg3,zs1,zs2,zs3]
 clear hk
 refine zk 6 (.int .i64 EW) rfl (by rfl) (fun w hS=>by go_simp) hS ?_
 try simp only [Act.put,zg1,zg2,zg3,zs1,zs2,zs3]
 refine wpAnyH_done (by kernel_rfl) ?_ _
 obtain⟨w2,hw2⟩:∃ V,V=u4:=⟨_,rfl⟩
 rw [← hw2] at h1 h2 x1 x2 x3 hK ⊢
 have hs2:w1.heap.size≤w2.heap.size:=hK.size
 have Hk2:Hid (Below w.heap.size w w2):=Hb1.out.trans (hK.mono Hb1.out.size)
 clear hw2 hS hK hT3 hKd
 clear x1i x2i
 by_cases hz:EW=0
 rotate_left
 ·have hz1:(EW == 0)=false:=by simpa using hz
  have Hf:Hid (fillE t a []=EW∧fillT t a []=zeroT):=⟨by rw [HE.out.1,if_neg hz],by rw [HE.out.2,if_neg hz]⟩
  have zz:=x3
  obtain⟨w9,hwz,zz2,kz,o0,o1,o2,o3,o4,o5,f0,f1,f2,f3,f4,f5⟩:=zst zz (.int .i64 0) (.int .i64 0) (.string ⟨#[]⟩) (.slice none 0 0) (.slice none 0 0) (.slice none 0 0)
  have hKf:Below X w w9:=by rw [HX.out];exact Hk2.out.trans (kz.below (fun q hq=>by have:=HX.out;omega) Hk2.out.size)
  obtain⟨h0,h1',h2',h3,h4,h5,_⟩:=zz2.cells
  have Hwz:Hid (_=_):=hwz
  clear hwz kz zz zz2
  go_wp2_with fail
  rw [← Hwz.out]
  exact bodyPost_ret (v:=.tuple #[.agg #[.int .i64 0,.int .i64 0,.string ⟨#[]⟩,.slice none 0 0,.slice none 0 0,.slice none 0 0],.int .i64 EW]) (by simp only [results,Tryz.results10];simp [go_sem,h0,h1',h2',h3,h4,h5]) rfl ⟨_,by rw [Hf.out.1],by rw [Hf.out.2];exact zeroT_in _ _,hKf⟩
 subst hz
 have Hf:Hid (fillE t a []=doneE AF AT∧fillT t a []=doneT AF AT):=⟨by rw [HE.out.1];simp,by rw [HE.out.2];simp⟩
 clear HE
 obtain⟨g0,hg0⟩:∃ g,g=w2.heap.size:=⟨_,rfl⟩
 obtain⟨w3,hw3⟩:∃ W,W=w2.alloc (.cells #[.int .i64 0] 59):=⟨_,rfl⟩
 have b3:Below w2.heap.size w2 w3:=by rw [hw3];exact belowA _ _
 have s3:w3.heap.size=g0+1:=by rw [hw3,hg0];simp
 have s3:g0<w3.heap.size∧w3.heap.size≤g0+1:=by omega
 have hM:Mk w3 g0 0:=⟨⟨_,by rw [hw3,hg0];exact heapNew _ _⟩⟩
 have h1:=h1.blw b3
 have h2:=h2.blw b3
 have x1:=x1.blw b3
 have x2:=x2.blw b3
 have x3:=x3.blw b3
 have hgX0:X+3≤g0:=by omega
 have Hk3:Hid (Below w.heap.size w w3):=bchain Hk2.out b3
 have h1:TmIn (Ng g0) w3 t _:=h1.up (fun q h=>by show q≠g0;omega)
 have h2:TmIn (Ng g0) w3 a _:=h2.up (fun q h=>by show q≠g0;omega)
 have H3:Hid (_=_):=hw3
 have Hg:Hid (_=_):=hg0
 clear hw3 hg0 b3 hg hgX g Hk2
 obtain⟨g,hg⟩:∃ g,g=g0:=⟨_,rfl⟩
 subst hg
 go_upto_region 5 with fail
 rw [← H3.out]
 simp only [← Hg.out]
 clear H3 Hg
 go_cut [10] (fun s wx=>∃ o q,s=.pointer (some ⟨o,0,none⟩)∧w3.heap.size≤o∧Six wx o (.int .i64 15) (.int .i64 0) (.string ⟨#[]⟩) (.slice none 0 0) (.slice (some ⟨q,0,none⟩) 2 2) (.slice none 0 0)∧KdT (fun r=>r≠g∧r≠o) wx (TmIn (fun r=>r≠g∧r≠o) wx) [TB,TA] (.slice (some ⟨q,0,none⟩) 2 2)∧TmIn (Ng g) wx a (.agg #[.int .i64 a.kind,.int .i64 a.n,.string a.name,.slice ra2 a.r.length rc2,.slice ka2 a.kids.length kc2,.slice sa2 a.sys.length sc2])∧Six wx (X+1) (.int .i64 a.kind) (.int .i64 a.n) (.string a.name) (.slice ra2 a.r.length rc2) (.slice ka2 a.kids.length kc2) (.slice sa2 a.sys.length sc2)∧Six wx (X+2) (.int .i64 0) (.int .i64 0) (.string ⟨#[]⟩) (.slice none 0 0) (.slice none 0 0) (.slice none 0 0)∧Mk wx g (fstE (fstE 0 eB) eA)∧Kn (Ng g) w3 wx)
 case first =>
  have x1i:=x1
  have x2i:=x2
  have h2:TmIn (Bt g 0 w3.heap.size) w3 a _:=h2.lt' (fun q h hs=>⟨h,Nat.zero_le _,hs⟩)
  refine wp_region_held_drew (S:=fun V=>Kn (Ng g) w3 V) (by kernel_rfl) ((Kn.refl _ _).drew) (fun hS=>?_)
  obtain⟨wd,hwd⟩:∃ V,V=w3.drew:=⟨_,rfl⟩
  have hkd:Kn (Ng g) w3 wd:=by rw [hwd];exact (Kn.refl _ _).drew
  have hszd:w3.heap.size≤wd.heap.size:=hkd.size
  have hbd:Below w3.heap.size w3 wd:=by rw [hwd];exact (Below.refl _ _).drew
  have hK:Kn (Ng g) w3 w3:=Kn.refl _ _
  rw [← hwd] at hS ⊢
  clear hwd
  have hK:=hK.trans hkd
  have hM:=hM.blw hbd
  have h1:=h1.kn hkd (fun _ q=>q)
  have h2:=h2.kn hkd (fun _ q=>q.1)
  have x1:=x1.kn hkd (by omega)
  have x2:=x2.kn hkd (by omega)
  have x3:=x3.kn hkd (by omega)
  clear hkd hbd
  refine zk 0 (.pointer (some ⟨g,0,none⟩)) rfl (by rfl) (fun w hS=>by go_simp) hS ?_
  try simp only [Act.put,zg1,zg2,zg3,zs1,zs2,zs3]
  refine zk 1 (.agg #[.int .i64 t.kind,.int .i64 t.n,.string t.name,.slice ra1 t.r.length rc1,.slice ka1 t.kids.length kc1,.slice sa1 t.sys.length sc1]) rfl (by rfl) (fun w hS=>by obtain⟨y0,y1,y2,y3,y4,y5,_⟩:=(x1i.kn hS (by omega)).cells;go_simp) hS ?_
  try simp only [Act.put,zg1,zg2,zg3,zs1,zs2,zs3]
  refine zk 3 (.pointer (some ⟨g,0,none⟩)) rfl (by rfl) (fun w hS=>by go_simp) hS ?_
  try simp only [Act.put,zg1,zg2,zg3,zs1,zs2,zs3]
  refine zk 4 (.agg #[.int .i64 a.kind,.int .i64 a.n,.string a.name,.slice ra2 a.r.length rc2,.slice ka2 a.kids.length kc2,.slice sa2 a.sys.length sc2]) rfl (by rfl) (fun w hS=>by obtain⟨y0,y1,y2,y3,y4,y5,_⟩:=(x2i.kn hS (by omega)).cells;go_simp) hS ?_
  try simp only [Act.put,zg1,zg2,zg3,zs1,zs2,zs3]
  refine wpAnyH_ready (rs:=[2,8]) (by kernel_rfl) (by simp) ?_
  refine ready_cons rfl (fun KK hKK=>?_) (ready_cons rfl (fun KK hKK=>?_) AllReadyH.nil)
  ·skip
   refine⟨?_⟩
   have cc:=cB.out g wd _ _ hM h1.tt
   go_simp
   refine cc.mono ?_
   rintro e u1 ⟨vu1,rfl,hvu1,hMu1,hk⟩
   obtain⟨ra5,rc5,ka5,kc5,sa5,sc5,rfl,ht5⟩:=hvu1.form
   have hT5:=ht5.value
   have hK:=hK.trans hk
   have h1:=h1.kn hk (fun _ q=>q)
   have h2:=h2.kn hk (fun _ q=>q.1)
   have x1:=x1.kn hk (by omega)
   have x2:=x2.kn hk (by omega)
   have x3:=x3.kn hk (by omega)
   have hM:=hMu1
   have hszu1:=hk.size
   clear cc hvu1 ht5
   refine hKK.out _ _ (hK) (fun hS=>?_)
   clear hKK KK
   try simp only [Act.put,zg1,zg2,zg3,zs1,zs2,zs3]
   clear hk
   refine wpAnyH_ready (rs:=[5,8]) (by kernel_rfl) (by simp) ?_
   refine ready_cons rfl (fun KK hKK=>?_) (ready_cons rfl (fun KK hKK=>?_) AllReadyH.nil)
   ·skip
    refine⟨?_⟩
    have cc:=cA.out g u1 _ _ hM h2.tt
    go_simp
    refine cc.mono ?_
    rintro e u2 ⟨vu2,rfl,hvu2,hMu2,hk⟩
    obtain⟨ra6,rc6,ka6,kc6,sa6,sc6,rfl,ht6⟩:=hvu2.form
    have hT6:=ht6.value
    have hK:=hK.trans hk
    have h1:=h1.kn hk (fun _ q=>q)
    have h2:=h2.kn hk (fun _ q=>q.1)
    have x1:=x1.kn hk (by omega)
    have x2:=x2.kn hk (by omega)
    have x3:=x3.kn hk (by omega)
    have hT5:=hT5.kn hk (fun _ q=>q.1)
    have hM:=hMu2
    have hszu2:=hk.size
    clear cc hvu2 ht6
    refine hKK.out _ _ (hK) (fun hS=>?_)
    clear hKK KK
    try simp only [Act.put,zg1,zg2,zg3,zs1,zs2,zs3]
    clear hk
    refine wpAnyH_ready (rs:=[6,8]) (by kernel_rfl) (by simp) ?_
    refine ready_cons rfl (fun KK hKK=>?_) (ready_cons rfl (fun KK hKK=>?_) AllReadyH.nil)
    ·skip
     obtain⟨bk4,hbk4⟩:∃ q,q=u2.heap.size:=⟨_,rfl⟩
     obtain⟨u3,hu3⟩:∃ W,W=u2.alloc (.cells #[.int .i64 TB.kind,.int .i64 TB.n,.string TB.name,.slice ra5 TB.r.length rc5,.slice ka5 TB.kids.length kc5,.slice sa5 TB.sys.length sc5,.int .i64 TA.kind,.int .i64 TA.n,.string TA.name,.slice ra6 TA.r.length rc6,.slice ka6 TA.kids.length kc6,.slice sa6 TA.sys.length sc6] 26):=⟨_,rfl⟩
     have bu3:Below u2.heap.size u2 u3:=by rw [hu3];exact belowA _ _
     have su3:bk4<u3.heap.size∧u3.heap.size≤bk4+1:=by rw [hu3,hbk4];simp
     have lebk4:u2.heap.size≤bk4:=by omega
     have gbk4:w3.heap.size≤bk4:=by rw [hbk4];exact hK.size
     have zu3:u3.heap[bk4]? = some (.cells #[.int .i64 TB.kind,.int .i64 TB.n,.string TB.name,.slice ra5 TB.r.length rc5,.slice ka5 TB.kids.length kc5,.slice sa5 TB.sys.length sc5,.int .i64 TA.kind,.int .i64 TA.n,.string TA.name,.slice ra6 TA.r.length rc6,.slice ka6 TA.kids.length kc6,.slice sa6 TA.sys.length sc6] 26 (0,0)):=by rw [hu3,hbk4];exact heapNew _ _
     have hk:Kn (Ng g) u2 u3:=Kn.of_below bu3
     have Hu3:Hid (_=_):=hu3
     have Kbk4:Hid (_=_):=hbk4
     have hK:=hK.trans hk
     have hM:=hM.blw bu3
     have h1:=h1.kn hk (fun _ q=>q)
     have h2:=h2.kn hk (fun _ q=>q.1)
     have x1:=x1.kn hk (by omega)
     have x2:=x2.kn hk (by omega)
     have x3:=x3.kn hk (by omega)
     have hT5:=hT5.kn hk (fun _ q=>q.1)
     have hT6:=hT6.kn hk (fun _ q=>q.1)
     clear hu3 hbk4
     refine⟨?_⟩
     go_simp
     rw [← Hu3.out]
     try simp only [← Kbk4.out]
     refine hKK.out _ _ (hK) (fun hS=>?_)
     clear hKK KK
     try simp only [Act.put,zg1,zg2,zg3,zs1,zs2,zs3]
     clear hk Hu3
     refine wpAnyH_ready (rs:=[7,8]) (by kernel_rfl) (by simp) ?_
     refine ready_cons rfl (fun KK hKK=>?_) (ready_cons rfl (fun KK hKK=>?_) AllReadyH.nil)
     ·skip
      refine⟨?_⟩
      have cc:=node_any 15 (some ⟨bk4,0,none⟩) 2 2 u3
      go_simp
      refine cc.mono ?_
      rintro e u5 ⟨rfl,bu5⟩
      have hk:Kn (Ng g) u3 u5:=Kn.of_below bu5
      have hszu5:=hk.size
      have hK:=hK.trans hk
      have hM:=hM.blw bu5
      have h1:=h1.kn hk (fun _ q=>q)
      have h2:=h2.kn hk (fun _ q=>q.1)
      have x1:=x1.kn hk (by omega)
      have x2:=x2.kn hk (by omega)
      have x3:=x3.kn hk (by omega)
      have hT5:=hT5.kn hk (fun _ q=>q.1)
      have hT6:=hT6.kn hk (fun _ q=>q.1)
      have zu3:=(hk.block bk4 (by show _≠_;omega) (Array.getElem?_eq_some_iff.1 zu3).1).trans zu3
      clear cc
      refine hKK.out _ _ (hK) (fun hS=>?_)
      clear hKK KK
      try simp only [Act.put,zg1,zg2,zg3,zs1,zs2,zs3]
      clear hk
      refine zr 8 rfl (fun KK hKK=>?_)
      obtain⟨bk7,u6,hbk7,hu6,bu6,su6,lebk7,zu6⟩:=zal u5
      have gbk7:w3.heap.size≤bk7:=by rw [hbk7];exact hK.size
      have hk:Kn (Ng g) u5 u6:=Kn.of_below bu6
      have Hu6:Hid (_=_):=hu6
      have Kbk7:Hid (_=_):=hbk7
      have hK:=hK.trans hk
      have hM:=hM.blw bu6
      have h1:=h1.kn hk (fun _ q=>q)
      have h2:=h2.kn hk (fun _ q=>q.1)
      have x1:=x1.kn hk (by omega)
      have x2:=x2.kn hk (by omega)
      have x3:=x3.kn hk (by omega)
      have hT5:=hT5.kn hk (fun _ q=>q.1)
      have hT6:=hT6.kn hk (fun _ q=>q.1)
      have zu3:=(hk.block bk4 (by show _≠_;omega) (Array.getElem?_eq_some_iff.1 zu3).1).trans zu3
      clear hu6 hbk7
      refine⟨?_⟩
      go_simp
      rw [← Hu6.out]
      try simp only [← Kbk7.out]
      refine hKK.out _ _ (hK) (fun hS=>?_)
      clear hKK KK
      try simp only [Act.put,zg1,zg2,zg3,zs1,zs2,zs3]
      clear hk Hu6
      refine zr 9 rfl (fun KK hKK=>?_)
      obtain⟨w98,hwz,zz2,kz,o0,o1,o2,o3,o4,o5,f0,f1,f2,f3,f4,f5⟩:=zst zu6 (.int .i64 15) (.int .i64 0) (.string ⟨#[]⟩) (.slice none 0 0) (.slice (some ⟨bk4,0,none⟩) 2 2) (.slice none 0 0)
      have Hwz:Hid (_=_):=hwz
      clear hwz
      have zu3:=(kz.block bk4 (by show _≠_;omega) (Array.getElem?_eq_some_iff.1 zu3).1).trans zu3
      have hT5:=(hT5.kn kz (fun _ q=>by have:=q.2.1;have:=q.2.2;omega)).up (ok':=fun r=>r≠g∧r≠bk7) (fun r q=>⟨q.1,by have:=q.2.1;have:=q.2.2;omega⟩)
      have hT6:=(hT6.kn kz (fun _ q=>by have:=q.2.1;have:=q.2.2;omega)).up (ok':=fun r=>r≠g∧r≠bk7) (fun r q=>⟨q.1,by have:=q.2.1;have:=q.2.2;omega⟩)
      have hKd:=kd_two zu3 (ok:=fun r=>r≠g∧r≠bk7) (by omega) hT5 hT6
      have hM:=hM.kn kz (by omega)
      have h2:=h2.kn kz (fun _ q=>by have:=q.2.2;omega)
      have x2:=x2.kn kz (by omega)
      have x3:=x3.kn kz (by omega)
      have hK:=hK.new kz (by omega)
      clear kz
      refine⟨?_⟩
      go_simp
      rw [← Hwz.out]
      refine hKK.out _ _ (hK) (fun hS=>?_)
      clear hKK KK
      try simp only [Act.put,zg1,zg2,zg3,zs1,zs2,zs3]
      refine wpAnyH_done (by kernel_rfl) ?_ _
      go_wp2_with fail
      go_meet
      refine⟨bk7,bk4,rfl,?_,?_,?_,?_,?_,?_,?_,?_⟩
      ·omega
      ·with_reducible exact zz2
      ·with_reducible exact hKd
      ·exact (TmIn.up h2 (fun q h=>h.1):TmIn (Ng g) _ _ _)
      ·with_reducible exact x2
      ·with_reducible exact x3
      ·with_reducible exact hM
      ·with_reducible exact hK
     ·skip
      obtain⟨bk10,u9,hbk10,hu9,bu9,su9,lebk10,zu9⟩:=zal u3
      have gbk10:w3.heap.size≤bk10:=by rw [hbk10];exact hK.size
      have hk:Kn (Ng g) u3 u9:=Kn.of_below bu9
      have Hu9:Hid (_=_):=hu9
      have Kbk10:Hid (_=_):=hbk10
      have hK:=hK.trans hk
      have hM:=hM.blw bu9
      have h1:=h1.kn hk (fun _ q=>q)
      have h2:=h2.kn hk (fun _ q=>q.1)
      have x1:=x1.kn hk (by omega)
      have x2:=x2.kn hk (by omega)
      have x3:=x3.kn hk (by omega)
      have hT5:=hT5.kn hk (fun _ q=>q.1)
      have hT6:=hT6.kn hk (fun _ q=>q.1)
      have zu3:=(hk.block bk4 (by show _≠_;omega) (Array.getElem?_eq_some_iff.1 zu3).1).trans zu3
      clear hu9 hbk10
      refine⟨?_⟩
      go_simp
      rw [← Hu9.out]
      try simp only [← Kbk10.out]
      refine hKK.out _ _ (hK) (fun hS=>?_)
      clear hKK KK
      try simp only [Act.put,zg1,zg2,zg3,zs1,zs2,zs3]
      clear hk Hu9
      refine zr 7 rfl (fun KK hKK=>?_)
      refine⟨?_⟩
      have cc:=node_any 15 (some ⟨bk4,0,none⟩) 2 2 u9
      go_simp
      refine cc.mono ?_
      rintro e u11 ⟨rfl,bu11⟩
      have hk:Kn (Ng g) u9 u11:=Kn.of_below bu11
      have hszu11:=hk.size
      have hK:=hK.trans hk
      have hM:=hM.blw bu11
      have h1:=h1.kn hk (fun _ q=>q)
      have h2:=h2.kn hk (fun _ q=>q.1)
      have x1:=x1.kn hk (by omega)
      have x2:=x2.kn hk (by omega)
      have x3:=x3.kn hk (by omega)
      have hT5:=hT5.kn hk (fun _ q=>q.1)
      have hT6:=hT6.kn hk (fun _ q=>q.1)
      have zu3:=(hk.block bk4 (by show _≠_;omega) (Array.getElem?_eq_some_iff.1 zu3).1).trans zu3
      have zu9:=zu9.kn hk (by omega)
      clear cc
      refine hKK.out _ _ (hK) (fun hS=>?_)
      clear hKK KK
      try simp only [Act.put,zg1,zg2,zg3,zs1,zs2,zs3]
      clear hk
      refine zr 9 rfl (fun KK hKK=>?_)
      obtain⟨w912,hwz,zz2,kz,o0,o1,o2,o3,o4,o5,f0,f1,f2,f3,f4,f5⟩:=zst zu9 (.int .i64 15) (.int .i64 0) (.string ⟨#[]⟩) (.slice none 0 0) (.slice (some ⟨bk4,0,none⟩) 2 2) (.slice none 0 0)
      have Hwz:Hid (_=_):=hwz
      clear hwz
      have zu3:=(kz.block bk4 (by show _≠_;omega) (Array.getElem?_eq_some_iff.1 zu3).1).trans zu3
      have hT5:=(hT5.kn kz (fun _ q=>by have:=q.2.1;have:=q.2.2;omega)).up (ok':=fun r=>r≠g∧r≠bk10) (fun r q=>⟨q.1,by have:=q.2.1;have:=q.2.2;omega⟩)
      have hT6:=(hT6.kn kz (fun _ q=>by have:=q.2.1;have:=q.2.2;omega)).up (ok':=fun r=>r≠g∧r≠bk10) (fun r q=>⟨q.1,by have:=q.2.1;have:=q.2.2;omega⟩)
      have hKd:=kd_two zu3 (ok:=fun r=>r≠g∧r≠bk10) (by omega) hT5 hT6
      have hM:=hM.kn kz (by omega)
      have h2:=h2.kn kz (fun _ q=>by have:=q.2.2;omega)
      have x2:=x2.kn kz (by omega)
      have x3:=x3.kn kz (by omega)
      have hK:=hK.new kz (by omega)
      clear kz
      refine⟨?_⟩
      go_simp
      rw [← Hwz.out]
      refine hKK.out _ _ (hK) (fun hS=>?_)
      clear hKK KK
      try simp only [Act.put,zg1,zg2,zg3,zs1,zs2,zs3]
      refine wpAnyH_done (by kernel_rfl) ?_ _
      go_wp2_with fail
      go_meet
      refine⟨bk10,bk4,rfl,?_,?_,?_,?_,?_,?_,?_,?_⟩
      ·omega
      ·with_reducible exact zz2
      ·with_reducible exact hKd
      ·exact (TmIn.up h2 (fun q h=>h.1):TmIn (Ng g) _ _ _)
      ·with_reducible exact x2
      ·with_reducible exact x3
      ·with_reducible exact hM
      ·with_reducible exact hK
    ·skip
     obtain⟨bk14,u13,hbk14,hu13,bu13,su13,lebk14,zu13⟩:=zal u2
     have gbk14:w3.heap.size≤bk14:=by rw [hbk14];exact hK.size
     have hk:Kn (Ng g) u2 u13:=Kn.of_below bu13
     have Hu13:Hid (_=_):=hu13
     have Kbk14:Hid (_=_):=hbk14
     have hK:=hK.trans hk
     have hM:=hM.blw bu13
     have h1:=h1.kn hk (fun _ q=>q)
     have h2:=h2.kn hk (fun _ q=>q.1)
     have x1:=x1.kn hk (by omega)
     have x2:=x2.kn hk (by omega)
     have x3:=x3.kn hk (by omega)
     have hT5:=hT5.kn hk (fun _ q=>q.1)
     have hT6:=hT6.kn hk (fun _ q=>q.1)
     clear hu13 hbk14
     refine⟨?_⟩
     go_simp
     rw [← Hu13.out]
     try simp only [← Kbk14.out]
     refine hKK.out _ _ (hK) (fun hS=>?_)
     clear hKK KK
     try simp only [Act.put,zg1,zg2,zg3,zs1,zs2,zs3]
     clear hk Hu13
     refine zr 6 rfl (fun KK hKK=>?_)
     obtain⟨bk16,hbk16⟩:∃ q,q=u13.heap.size:=⟨_,rfl⟩
     obtain⟨u15,hu15⟩:∃ W,W=u13.alloc (.cells #[.int .i64 TB.kind,.int .i64 TB.n,.string TB.name,.slice ra5 TB.r.length rc5,.slice ka5 TB.kids.length kc5,.slice sa5 TB.sys.length sc5,.int .i64 TA.kind,.int .i64 TA.n,.string TA.name,.slice ra6 TA.r.length rc6,.slice ka6 TA.kids.length kc6,.slice sa6 TA.sys.length sc6] 26):=⟨_,rfl⟩
     have bu15:Below u13.heap.size u13 u15:=by rw [hu15];exact belowA _ _
     have su15:bk16<u15.heap.size∧u15.heap.size≤bk16+1:=by rw [hu15,hbk16];simp
     have lebk16:u13.heap.size≤bk16:=by omega
     have gbk16:w3.heap.size≤bk16:=by rw [hbk16];exact hK.size
     have zu15:u15.heap[bk16]? = some (.cells #[.int .i64 TB.kind,.int .i64 TB.n,.string TB.name,.slice ra5 TB.r.length rc5,.slice ka5 TB.kids.length kc5,.slice sa5 TB.sys.length sc5,.int .i64 TA.kind,.int .i64 TA.n,.string TA.name,.slice ra6 TA.r.length rc6,.slice ka6 TA.kids.length kc6,.slice sa6 TA.sys.length sc6] 26 (0,0)):=by rw [hu15,hbk16];exact heapNew _ _
     have hk:Kn (Ng g) u13 u15:=Kn.of_below bu15
     have Hu15:Hid (_=_):=hu15
     have Kbk16:Hid (_=_):=hbk16
     have hK:=hK.trans hk
     have hM:=hM.blw bu15
     have h1:=h1.kn hk (fun _ q=>q)
     have h2:=h2.kn hk (fun _ q=>q.1)
     have x1:=x1.kn hk (by omega)
     have x2:=x2.kn hk (by omega)
     have x3:=x3.kn hk (by omega)
     have hT5:=hT5.kn hk (fun _ q=>q.1)
     have hT6:=hT6.kn hk (fun _ q=>q.1)
     have zu13:=zu13.kn hk (by omega)
     clear hu15 hbk16
     refine⟨?_⟩
     go_simp
     rw [← Hu15.out]
     try simp only [← Kbk16.out]
     refine hKK.out _ _ (hK) (fun hS=>?_)
     clear hKK KK
     try simp only [Act.put,zg1,zg2,zg3,zs1,zs2,zs3]
     clear hk Hu15
     refine zr 7 rfl (fun KK hKK=>?_)
     refine⟨?_⟩
     have cc:=node_any 15 (some ⟨bk16,0,none⟩) 2 2 u15
     go_simp
     refine cc.mono ?_
     rintro e u17 ⟨rfl,bu17⟩
     have hk:Kn (Ng g) u15 u17:=Kn.of_below bu17
     have hszu17:=hk.size
     have hK:=hK.trans hk
     have hM:=hM.blw bu17
     have h1:=h1.kn hk (fun _ q=>q)
     have h2:=h2.kn hk (fun _ q=>q.1)
     have x1:=x1.kn hk (by omega)
     have x2:=x2.kn hk (by omega)
     have x3:=x3.kn hk (by omega)
     have hT5:=hT5.kn hk (fun _ q=>q.1)
     have hT6:=hT6.kn hk (fun _ q=>q.1)
     have zu13:=zu13.kn hk (by omega)
     have zu15:=(hk.block bk16 (by show _≠_;omega) (Array.getElem?_eq_some_iff.1 zu15).1).trans zu15
     clear cc
     refine hKK.out _ _ (hK) (fun hS=>?_)
     clear hKK KK
     try simp only [Act.put,zg1,zg2,zg3,zs1,zs2,zs3]
     clear hk
     refine zr 9 rfl (fun KK hKK=>?_)
     obtain⟨w918,hwz,zz2,kz,o0,o1,o2,o3,o4,o5,f0,f1,f2,f3,f4,f5⟩:=zst zu13 (.int .i64 15) (.int .i64 0) (.string ⟨#[]⟩) (.slice none 0 0) (.slice (some ⟨bk16,0,none⟩) 2 2) (.slice none 0 0)
     have Hwz:Hid (_=_):=hwz
     clear hwz
     have zu15:=(kz.block bk16 (by show _≠_;omega) (Array.getElem?_eq_some_iff.1 zu15).1).trans zu15
     have hT5:=(hT5.kn kz (fun _ q=>by have:=q.2.1;have:=q.2.2;omega)).up (ok':=fun r=>r≠g∧r≠bk14) (fun r q=>⟨q.1,by have:=q.2.1;have:=q.2.2;omega⟩)
     have hT6:=(hT6.kn kz (fun _ q=>by have:=q.2.1;have:=q.2.2;omega)).up (ok':=fun r=>r≠g∧r≠bk14) (fun r q=>⟨q.1,by have:=q.2.1;have:=q.2.2;omega⟩)
     have hKd:=kd_two zu15 (ok:=fun r=>r≠g∧r≠bk14) (by omega) hT5 hT6
     have hM:=hM.kn kz (by omega)
     have h2:=h2.kn kz (fun _ q=>by have:=q.2.2;omega)
     have x2:=x2.kn kz (by omega)
     have x3:=x3.kn kz (by omega)
     have hK:=hK.new kz (by omega)
     clear kz
     refine⟨?_⟩
     go_simp
     rw [← Hwz.out]
     refine hKK.out _ _ (hK) (fun hS=>?_)
     clear hKK KK
     try simp only [Act.put,zg1,zg2,zg3,zs1,zs2,zs3]
     refine wpAnyH_done (by kernel_rfl) ?_ _
     go_wp2_with fail
     go_meet
     refine⟨bk14,bk16,rfl,?_,?_,?_,?_,?_,?_,?_,?_⟩
     ·omega
     ·with_reducible exact zz2
     ·with_reducible exact hKd
     ·exact (TmIn.up h2 (fun q h=>h.1):TmIn (Ng g) _ _ _)
     ·with_reducible exact x2
     ·with_reducible exact x3
     ·with_reducible exact hM
     ·with_reducible exact hK
   ·skip
    obtain⟨bk20,u19,hbk20,hu19,bu19,su19,lebk20,zu19⟩:=zal u1
    have gbk20:w3.heap.size≤bk20:=by rw [hbk20];exact hK.size
    have hk:Kn (Ng g) u1 u19:=Kn.of_below bu19
    have Hu19:Hid (_=_):=hu19
    have Kbk20:Hid (_=_):=hbk20
    have hK:=hK.trans hk
    have hM:=hM.blw bu19
    have h1:=h1.kn hk (fun _ q=>q)
    have h2:=h2.kn hk (fun _ q=>q.1)
    have x1:=x1.kn hk (by omega)
    have x2:=x2.kn hk (by omega)
    have x3:=x3.kn hk (by omega)
    have hT5:=hT5.kn hk (fun _ q=>q.1)
    clear hu19 hbk20
    refine⟨?_⟩
    go_simp
    rw [← Hu19.out]
    try simp only [← Kbk20.out]
    refine hKK.out _ _ (hK) (fun hS=>?_)
    clear hKK KK
    try simp only [Act.put,zg1,zg2,zg3,zs1,zs2,zs3]
    clear hk Hu19
    refine zr 5 rfl (fun KK hKK=>?_)
    refine⟨?_⟩
    have cc:=cA.out g u19 _ _ hM h2.tt
    go_simp
    refine cc.mono ?_
    rintro e u21 ⟨vu21,rfl,hvu21,hMu21,hk⟩
    obtain⟨ra6,rc6,ka6,kc6,sa6,sc6,rfl,ht6⟩:=hvu21.form
    have hT6:=ht6.value
    have hK:=hK.trans hk
    have h1:=h1.kn hk (fun _ q=>q)
    have h2:=h2.kn hk (fun _ q=>q.1)
    have x1:=x1.kn hk (by omega)
    have x2:=x2.kn hk (by omega)
    have x3:=x3.kn hk (by omega)
    have hT5:=hT5.kn hk (fun _ q=>q.1)
    have zu19:=zu19.kn hk (by omega)
    have hM:=hMu21
    have hszu21:=hk.size
    clear cc hvu21 ht6
    refine hKK.out _ _ (hK) (fun hS=>?_)
    clear hKK KK
    try simp only [Act.put,zg1,zg2,zg3,zs1,zs2,zs3]
    clear hk
    refine zr 6 rfl (fun KK hKK=>?_)
    obtain⟨bk23,hbk23⟩:∃ q,q=u21.heap.size:=⟨_,rfl⟩
    obtain⟨u22,hu22⟩:∃ W,W=u21.alloc (.cells #[.int .i64 TB.kind,.int .i64 TB.n,.string TB.name,.slice ra5 TB.r.length rc5,.slice ka5 TB.kids.length kc5,.slice sa5 TB.sys.length sc5,.int .i64 TA.kind,.int .i64 TA.n,.string TA.name,.slice ra6 TA.r.length rc6,.slice ka6 TA.kids.length kc6,.slice sa6 TA.sys.length sc6] 26):=⟨_,rfl⟩
    have bu22:Below u21.heap.size u21 u22:=by rw [hu22];exact belowA _ _
    have su22:bk23<u22.heap.size∧u22.heap.size≤bk23+1:=by rw [hu22,hbk23];simp
    have lebk23:u21.heap.size≤bk23:=by omega
    have gbk23:w3.heap.size≤bk23:=by rw [hbk23];exact hK.size
    have zu22:u22.heap[bk23]? = some (.cells #[.int .i64 TB.kind,.int .i64 TB.n,.string TB.name,.slice ra5 TB.r.length rc5,.slice ka5 TB.kids.length kc5,.slice sa5 TB.sys.length sc5,.int .i64 TA.kind,.int .i64 TA.n,.string TA.name,.slice ra6 TA.r.length rc6,.slice ka6 TA.kids.length kc6,.slice sa6 TA.sys.length sc6] 26 (0,0)):=by rw [hu22,hbk23];exact heapNew _ _
    have hk:Kn (Ng g) u21 u22:=Kn.of_below bu22
    have Hu22:Hid (_=_):=hu22
    have Kbk23:Hid (_=_):=hbk23
    have hK:=hK.trans hk
    have hM:=hM.blw bu22
    have h1:=h1.kn hk (fun _ q=>q)
    have h2:=h2.kn hk (fun _ q=>q.1)
    have x1:=x1.kn hk (by omega)
    have x2:=x2.kn hk (by omega)
    have x3:=x3.kn hk (by omega)
    have hT5:=hT5.kn hk (fun _ q=>q.1)
    have zu19:=zu19.kn hk (by omega)
    have hT6:=hT6.kn hk (fun _ q=>q.1)
    clear hu22 hbk23
    refine⟨?_⟩
    go_simp
    rw [← Hu22.out]
    try simp only [← Kbk23.out]
    refine hKK.out _ _ (hK) (fun hS=>?_)
    clear hKK KK
    try simp only [Act.put,zg1,zg2,zg3,zs1,zs2,zs3]
    clear hk Hu22
    refine zr 7 rfl (fun KK hKK=>?_)
    refine⟨?_⟩
    have cc:=node_any 15 (some ⟨bk23,0,none⟩) 2 2 u22
    go_simp
    refine cc.mono ?_
    rintro e u24 ⟨rfl,bu24⟩
    have hk:Kn (Ng g) u22 u24:=Kn.of_below bu24
    have hszu24:=hk.size
    have hK:=hK.trans hk
    have hM:=hM.blw bu24
    have h1:=h1.kn hk (fun _ q=>q)
    have h2:=h2.kn hk (fun _ q=>q.1)
    have x1:=x1.kn hk (by omega)
    have x2:=x2.kn hk (by omega)
    have x3:=x3.kn hk (by omega)
    have hT5:=hT5.kn hk (fun _ q=>q.1)
    have zu19:=zu19.kn hk (by omega)
    have hT6:=hT6.kn hk (fun _ q=>q.1)
    have zu22:=(hk.block bk23 (by show _≠_;omega) (Array.getElem?_eq_some_iff.1 zu22).1).trans zu22
    clear cc
    refine hKK.out _ _ (hK) (fun hS=>?_)
    clear hKK KK
    try simp only [Act.put,zg1,zg2,zg3,zs1,zs2,zs3]
    clear hk
    refine zr 9 rfl (fun KK hKK=>?_)
    obtain⟨w925,hwz,zz2,kz,o0,o1,o2,o3,o4,o5,f0,f1,f2,f3,f4,f5⟩:=zst zu19 (.int .i64 15) (.int .i64 0) (.string ⟨#[]⟩) (.slice none 0 0) (.slice (some ⟨bk23,0,none⟩) 2 2) (.slice none 0 0)
    have Hwz:Hid (_=_):=hwz
    clear hwz
    have zu22:=(kz.block bk23 (by show _≠_;omega) (Array.getElem?_eq_some_iff.1 zu22).1).trans zu22
    have hT5:=(hT5.kn kz (fun _ q=>by have:=q.2.1;have:=q.2.2;omega)).up (ok':=fun r=>r≠g∧r≠bk20) (fun r q=>⟨q.1,by have:=q.2.1;have:=q.2.2;omega⟩)
    have hT6:=(hT6.kn kz (fun _ q=>by have:=q.2.1;have:=q.2.2;omega)).up (ok':=fun r=>r≠g∧r≠bk20) (fun r q=>⟨q.1,by have:=q.2.1;have:=q.2.2;omega⟩)
    have hKd:=kd_two zu22 (ok:=fun r=>r≠g∧r≠bk20) (by omega) hT5 hT6
    have hM:=hM.kn kz (by omega)
    have h2:=h2.kn kz (fun _ q=>by have:=q.2.2;omega)
    have x2:=x2.kn kz (by omega)
    have x3:=x3.kn kz (by omega)
    have hK:=hK.new kz (by omega)
    clear kz
    refine⟨?_⟩
    go_simp
    rw [← Hwz.out]
    refine hKK.out _ _ (hK) (fun hS=>?_)
    clear hKK KK
    try simp only [Act.put,zg1,zg2,zg3,zs1,zs2,zs3]
    refine wpAnyH_done (by kernel_rfl) ?_ _
    go_wp2_with fail
    go_meet
    refine⟨bk20,bk23,rfl,?_,?_,?_,?_,?_,?_,?_,?_⟩
    ·omega
    ·with_reducible exact zz2
    ·with_reducible exact hKd
    ·exact (TmIn.up h2 (fun q h=>h.1):TmIn (Ng g) _ _ _)
    ·with_reducible exact x2
    ·with_reducible exact x3
    ·with_reducible exact hM
    ·with_reducible exact hK
  ·skip
   obtain⟨bk27,u26,hbk27,hu26,bu26,su26,lebk27,zu26⟩:=zal wd
   have gbk27:w3.heap.size≤bk27:=by rw [hbk27];exact hK.size
   have hk:Kn (Ng g) wd u26:=Kn.of_below bu26
   have Hu26:Hid (_=_):=hu26
   have Kbk27:Hid (_=_):=hbk27
   have hK:=hK.trans hk
   have hM:=hM.blw bu26
   have h1:=h1.kn hk (fun _ q=>q)
   have h2:=h2.kn hk (fun _ q=>q.1)
   have x1:=x1.kn hk (by omega)
   have x2:=x2.kn hk (by omega)
   have x3:=x3.kn hk (by omega)
   clear hu26 hbk27
   refine⟨?_⟩
   go_simp
   rw [← Hu26.out]
   try simp only [← Kbk27.out]
   refine hKK.out _ _ (hK) (fun hS=>?_)
   clear hKK KK
   try simp only [Act.put,zg1,zg2,zg3,zs1,zs2,zs3]
   clear hk Hu26
   refine zr 2 rfl (fun KK hKK=>?_)
   refine⟨?_⟩
   have cc:=cB.out g u26 _ _ hM h1.tt
   go_simp
   refine cc.mono ?_
   rintro e u28 ⟨vu28,rfl,hvu28,hMu28,hk⟩
   obtain⟨ra5,rc5,ka5,kc5,sa5,sc5,rfl,ht5⟩:=hvu28.form
   have hT5:=ht5.value
   have hK:=hK.trans hk
   have h1:=h1.kn hk (fun _ q=>q)
   have h2:=h2.kn hk (fun _ q=>q.1)
   have x1:=x1.kn hk (by omega)
   have x2:=x2.kn hk (by omega)
   have x3:=x3.kn hk (by omega)
   have zu26:=zu26.kn hk (by omega)
   have hM:=hMu28
   have hszu28:=hk.size
   clear cc hvu28 ht5
   refine hKK.out _ _ (hK) (fun hS=>?_)
   clear hKK KK
   try simp only [Act.put,zg1,zg2,zg3,zs1,zs2,zs3]
   clear hk
   refine zr 5 rfl (fun KK hKK=>?_)
   refine⟨?_⟩
   have cc:=cA.out g u28 _ _ hM h2.tt
   go_simp
   refine cc.mono ?_
   rintro e u29 ⟨vu29,rfl,hvu29,hMu29,hk⟩
   obtain⟨ra6,rc6,ka6,kc6,sa6,sc6,rfl,ht6⟩:=hvu29.form
   have hT6:=ht6.value
   have hK:=hK.trans hk
   have h1:=h1.kn hk (fun _ q=>q)
   have h2:=h2.kn hk (fun _ q=>q.1)
   have x1:=x1.kn hk (by omega)
   have x2:=x2.kn hk (by omega)
   have x3:=x3.kn hk (by omega)
   have zu26:=zu26.kn hk (by omega)
   have hT5:=hT5.kn hk (fun _ q=>q.1)
   have hM:=hMu29
   have hszu29:=hk.size
   clear cc hvu29 ht6
   refine hKK.out _ _ (hK) (fun hS=>?_)
   clear hKK KK
   try simp only [Act.put,zg1,zg2,zg3,zs1,zs2,zs3]
   clear hk
   refine zr 6 rfl (fun KK hKK=>?_)
   obtain⟨bk31,hbk31⟩:∃ q,q=u29.heap.size:=⟨_,rfl⟩
   obtain⟨u30,hu30⟩:∃ W,W=u29.alloc (.cells #[.int .i64 TB.kind,.int .i64 TB.n,.string TB.name,.slice ra5 TB.r.length rc5,.slice ka5 TB.kids.length kc5,.slice sa5 TB.sys.length sc5,.int .i64 TA.kind,.int .i64 TA.n,.string TA.name,.slice ra6 TA.r.length rc6,.slice ka6 TA.kids.length kc6,.slice sa6 TA.sys.length sc6] 26):=⟨_,rfl⟩
   have bu30:Below u29.heap.size u29 u30:=by rw [hu30];exact belowA _ _
   have su30:bk31<u30.heap.size∧u30.heap.size≤bk31+1:=by rw [hu30,hbk31];simp
   have lebk31:u29.heap.size≤bk31:=by omega
   have gbk31:w3.heap.size≤bk31:=by rw [hbk31];exact hK.size
   have zu30:u30.heap[bk31]? = some (.cells #[.int .i64 TB.kind,.int .i64 TB.n,.string TB.name,.slice ra5 TB.r.length rc5,.slice ka5 TB.kids.length kc5,.slice sa5 TB.sys.length sc5,.int .i64 TA.kind,.int .i64 TA.n,.string TA.name,.slice ra6 TA.r.length rc6,.slice ka6 TA.kids.length kc6,.slice sa6 TA.sys.length sc6] 26 (0,0)):=by rw [hu30,hbk31];exact heapNew _ _
   have hk:Kn (Ng g) u29 u30:=Kn.of_below bu30
   have Hu30:Hid (_=_):=hu30
   have Kbk31:Hid (_=_):=hbk31
   have hK:=hK.trans hk
   have hM:=hM.blw bu30
   have h1:=h1.kn hk (fun _ q=>q)
   have h2:=h2.kn hk (fun _ q=>q.1)
   have x1:=x1.kn hk (by omega)
   have x2:=x2.kn hk (by omega)
   have x3:=x3.kn hk (by omega)
   have zu26:=zu26.kn hk (by omega)
   have hT5:=hT5.kn hk (fun _ q=>q.1)
   have hT6:=hT6.kn hk (fun _ q=>q.1)
   clear hu30 hbk31
   refine⟨?_⟩
   go_simp
   rw [← Hu30.out]
   try simp only [← Kbk31.out]
   refine hKK.out _ _ (hK) (fun hS=>?_)
   clear hKK KK
   try simp only [Act.put,zg1,zg2,zg3,zs1,zs2,zs3]
   clear hk Hu30
   refine zr 7 rfl (fun KK hKK=>?_)
   refine⟨?_⟩
   have cc:=node_any 15 (some ⟨bk31,0,none⟩) 2 2 u30
   go_simp
   refine cc.mono ?_
   rintro e u32 ⟨rfl,bu32⟩
   have hk:Kn (Ng g) u30 u32:=Kn.of_below bu32
   have hszu32:=hk.size
   have hK:=hK.trans hk
   have hM:=hM.blw bu32
   have h1:=h1.kn hk (fun _ q=>q)
   have h2:=h2.kn hk (fun _ q=>q.1)
   have x1:=x1.kn hk (by omega)
   have x2:=x2.kn hk (by omega)
   have x3:=x3.kn hk (by omega)
   have zu26:=zu26.kn hk (by omega)
   have hT5:=hT5.kn hk (fun _ q=>q.1)
   have hT6:=hT6.kn hk (fun _ q=>q.1)
   have zu30:=(hk.block bk31 (by show _≠_;omega) (Array.getElem?_eq_some_iff.1 zu30).1).trans zu30
   clear cc
   refine hKK.out _ _ (hK) (fun hS=>?_)
   clear hKK KK
   try simp only [Act.put,zg1,zg2,zg3,zs1,zs2,zs3]
   clear hk
   refine zr 9 rfl (fun KK hKK=>?_)
   obtain⟨w933,hwz,zz2,kz,o0,o1,o2,o3,o4,o5,f0,f1,f2,f3,f4,f5⟩:=zst zu26 (.int .i64 15) (.int .i64 0) (.string ⟨#[]⟩) (.slice none 0 0) (.slice (some ⟨bk31,0,none⟩) 2 2) (.slice none 0 0)
   have Hwz:Hid (_=_):=hwz
   clear hwz
   have zu30:=(kz.block bk31 (by show _≠_;omega) (Array.getElem?_eq_some_iff.1 zu30).1).trans zu30
   have hT5:=(hT5.kn kz (fun _ q=>by have:=q.2.1;have:=q.2.2;omega)).up (ok':=fun r=>r≠g∧r≠bk27) (fun r q=>⟨q.1,by have:=q.2.1;have:=q.2.2;omega⟩)
   have hT6:=(hT6.kn kz (fun _ q=>by have:=q.2.1;have:=q.2.2;omega)).up (ok':=fun r=>r≠g∧r≠bk27) (fun r q=>⟨q.1,by have:=q.2.1;have:=q.2.2;omega⟩)
   have hKd:=kd_two zu30 (ok:=fun r=>r≠g∧r≠bk27) (by omega) hT5 hT6
   have hM:=hM.kn kz (by omega)
   have h2:=h2.kn kz (fun _ q=>by have:=q.2.2;omega)
   have x2:=x2.kn kz (by omega)
   have x3:=x3.kn kz (by omega)
   have hK:=hK.new kz (by omega)
   clear kz
   refine⟨?_⟩
   go_simp
   rw [← Hwz.out]
   refine hKK.out _ _ (hK) (fun hS=>?_)
   clear hKK KK
   try simp only [Act.put,zg1,zg2,zg3,zs1,zs2,zs3]
   refine wpAnyH_done (by kernel_rfl) ?_ _
   go_wp2_with fail
   go_meet
   refine⟨bk27,bk31,rfl,?_,?_,?_,?_,?_,?_,?_,?_⟩
   ·omega
   ·with_reducible exact zz2
   ·with_reducible exact hKd
   ·exact (TmIn.up h2 (fun q h=>h.1):TmIn (Ng g) _ _ _)
   ·with_reducible exact x2
   ·with_reducible exact x3
   ·with_reducible exact hM
   ·with_reducible exact hK
 case rest =>
 obtain⟨o,q,rfl,ho,x5,hKd,h2',x2',x3',hM',hk5⟩:=hcut
 obtain⟨w5,hw5⟩:∃ V,V=wc:=⟨_,rfl⟩
 subst hw5
 have hs5:=hk5.size
 have Hk5:Hid (Kn (Ng g) w w5):=(Kn.of_below Hk3.out).trans hk5
 clear hM h1 h2 x1 x2 x3 hk5 Hk3
 have hM:=hM'
 have h2:=h2'
 have x2:=x2'
 have x3:=x3'
 have hoX:X+4≤o∧g<o∧g≠o:=by omega
 have hol:=x5.lt
 clear hM' h2' x2' x3'
 go_upto_region 6 with fail
 go_wp2_with fail
 go_loopw [33] (fun i wr=>i=.int .i64 0∧wr=w5) (fun _ _=>0)
 case atStart=>exact⟨rfl,rfl⟩
 case round =>
 obtain⟨rfl,hwr⟩:=hrel
 have hwr2:=hwr.symm
 clear hwr
 subst hwr2
 go_upto_region 11 with fail
 refine wp_region_held_drew (S:=fun V=>Six V (X+1) (.int .i64 a.kind) (.int .i64 a.n) (.string a.name) (.slice ra2 a.r.length rc2) (.slice ka2 a.kids.length kc2) (.slice sa2 a.sys.length sc2)) (by kernel_rfl) ⟨x2.blk⟩ (fun hS=>?_)
 obtain⟨wd,hwd⟩:∃ V,V=w5.drew:=⟨_,rfl⟩
 have hkd:Kn (Ng g) w5 wd:=by rw [hwd];exact (Kn.refl _ _).drew
 have hszd:w5.heap.size≤wd.heap.size:=hkd.size
 have hbd:Below w5.heap.size w5 wd:=by rw [hwd];exact (Below.refl _ _).drew
 have hK:Kn (Ng g) w5 w5:=Kn.refl _ _
 rw [← hwd] at hS ⊢
 clear hwd
 have hK:=hK.trans hkd
 have hM:=hM.blw hbd
 have h2:=h2.kn hkd (fun _ q=>q)
 have x5:=x5.kn hkd (by omega)
 have x2:=x2.kn hkd (by omega)
 have x3:=x3.kn hkd (by omega)
 have hKd:=hKd.kn hkd (fun _ q=>q.1)
 clear hkd hbd
 refine zk 0 (.pointer (some ⟨o,5,none⟩)) rfl (by rfl) (fun w hS=>by go_simp) hS ?_
 try simp only [Act.put,zg1,zg2,zg3,zs1,zs2,zs3]
 refine zk 3 (.pointer (some ⟨g,0,none⟩)) rfl (by rfl) (fun w hS=>by go_simp) hS ?_
 try simp only [Act.put,zg1,zg2,zg3,zs1,zs2,zs3]
 refine zk 4 (.agg #[.int .i64 a.kind,.int .i64 a.n,.string a.name,.slice ra2 a.r.length rc2,.slice ka2 a.kids.length kc2,.slice sa2 a.sys.length sc2]) rfl (by rfl) (fun w hS=>by obtain⟨y0,y1,y2,y3,y4,y5,_⟩:=hS.cells;go_simp) hS ?_
 try simp only [Act.put,zg1,zg2,zg3,zs1,zs2,zs3]
 refine wpAnyH_ready (rs:=[1,2]) (by kernel_rfl) (by simp) ?_
 refine ready_cons rfl (fun KK hKK=>?_) (ready_cons rfl (fun KK hKK=>?_) AllReadyH.nil)
 ·skip
  refine⟨?_⟩
  have e5:=x5.cells.2.2.2.2.2.1
  go_simp
  refine hKK.out _ _ (x2) (fun hS=>?_)
  clear hKK KK
  try simp only [Act.put,zg1,zg2,zg3,zs1,zs2,zs3]
  refine zr 2 rfl (fun KK hKK=>?_)
  refine⟨?_⟩
  have cc:=misZero_any g (fstE (fstE 0 eB) eA) wd hM
  go_simp
  refine cc.mono ?_
  rintro e u1 ⟨vu1,rfl,hRu1,hMu1,hk⟩
  obtain⟨au1,cu1,eu1,_⟩:=id hRu1
  simp only [List.length_cons,List.length_nil,Nat.zero_add] at eu1
  subst eu1
  have hK:=hK.trans hk
  have h2:=h2.kn hk (fun _ q=>q)
  have x5:=x5.kn hk (by omega)
  have x2:=x2.kn hk (by omega)
  have x3:=x3.kn hk (by omega)
  have hKd:=hKd.kn hk (fun _ q=>q.1)
  have hM:=hMu1
  have hszu1:=hk.size
  clear cc
  refine hKK.out _ _ (x2) (fun hS=>?_)
  clear hKK KK
  try simp only [Act.put,zg1,zg2,zg3,zs1,zs2,zs3]
  clear hk
  refine zr 5 rfl (fun KK hKK=>?_)
  refine⟨?_⟩
  have cc:=cA2.out g u1 _ _ hM h2.tt
  go_simp
  refine cc.mono ?_
  rintro e u2 ⟨vu2,rfl,hvu2,hMu2,hk⟩
  obtain⟨ra7,rc7,ka7,kc7,sa7,sc7,rfl,ht7⟩:=hvu2.form
  have hT7:=ht7.value
  have hK:=hK.trans hk
  have h2:=h2.kn hk (fun _ q=>q)
  have x5:=x5.kn hk (by omega)
  have x2:=x2.kn hk (by omega)
  have x3:=x3.kn hk (by omega)
  have hKd:=hKd.kn hk (fun _ q=>q.1)
  have hRu1:=hRu1.kn hk (fun _ q=>q.1)
  have hM:=hMu2
  have hszu2:=hk.size
  clear cc hvu2 ht7
  refine hKK.out _ _ (x2) (fun hS=>?_)
  clear hKK KK
  try simp only [Act.put,zg1,zg2,zg3,zs1,zs2,zs3]
  clear hk
  refine zr 6 rfl (fun KK hKK=>?_)
  refine⟨?_⟩
  have cc:=branch_any (fun r=>r≠g∧r≠o) [negB 0] _ TC _ u2 (hRu1.lt' (fun q h _=>⟨h.1,by have:=h.2.1;omega⟩)) (hT7.up (fun q h=>⟨h.1,by have:=h.2.1;omega⟩))
  go_simp
  refine cc.mono ?_
  rintro e u3 ⟨ob,rfl,hRb,hKb,bu3⟩
  have hKb:=hKb.ltA (ok':=fun r=>r≠g∧r≠o) (fun q h hs=>by rcases h with h | h;exact h;exact⟨by omega,by omega⟩)
  have hk:Kn (Ng g) u2 u3:=Kn.of_below bu3
  have hszu3:=hk.size
  have hK:=hK.trans hk
  have hM:=hM.blw bu3
  have h2:=h2.kn hk (fun _ q=>q)
  have x5:=x5.kn hk (by omega)
  have x2:=x2.kn hk (by omega)
  have x3:=x3.kn hk (by omega)
  have hKd:=hKd.kn hk (fun _ q=>q.1)
  clear cc
  refine hKK.out _ _ (x2) (fun hS=>?_)
  clear hKK KK
  try simp only [Act.put,zg1,zg2,zg3,zs1,zs2,zs3]
  clear hk
  refine zr 7 rfl (fun KK hKK=>?_)
  obtain⟨bk5,hbk5⟩:∃ q,q=u3.heap.size:=⟨_,rfl⟩
  obtain⟨u4,hu4⟩:∃ W,W=u3.alloc (.cells #[.slice au1 1 cu1,.slice (some ⟨ob,0,none⟩) 1 1] 50):=⟨_,rfl⟩
  have bu4:Below u3.heap.size u3 u4:=by rw [hu4];exact belowA _ _
  have su4:bk5<u4.heap.size∧u4.heap.size≤bk5+1:=by rw [hu4,hbk5];simp
  have lebk5:u3.heap.size≤bk5:=by omega
  have gbk5:w5.heap.size≤bk5:=by rw [hbk5];exact hK.size
  have zu4:u4.heap[bk5]? = some (.cells #[.slice au1 1 cu1,.slice (some ⟨ob,0,none⟩) 1 1] 50 (0,0)):=by rw [hu4,hbk5];exact heapNew _ _
  have hk:Kn (Ng g) u3 u4:=Kn.of_below bu4
  have Hu4:Hid (_=_):=hu4
  have Kbk5:Hid (_=_):=hbk5
  have hK:=hK.trans hk
  have hM:=hM.blw bu4
  have h2:=h2.kn hk (fun _ q=>q)
  have x5:=x5.kn hk (by omega)
  have x2:=x2.kn hk (by omega)
  have x3:=x3.kn hk (by omega)
  have hKd:=hKd.kn hk (fun _ q=>q.1)
  have hRb:=hRb.kn hk (fun _ q=>q.1)
  have hKb:=hKb.kn hk (fun _ q=>q.1)
  clear hu4 hbk5
  refine⟨?_⟩
  go_simp
  rw [← Hu4.out]
  try simp only [← Kbk5.out]
  refine hKK.out _ _ (x2) (fun hS=>?_)
  clear hKK KK
  try simp only [Act.put,zg1,zg2,zg3,zs1,zs2,zs3]
  clear hk Hu4
  refine zr 8 rfl (fun KK hKK=>?_)
  obtain⟨va,u6,hrun,hQ,hG,_⟩:=append_Q (base:=w5.heap.size) (No:=fun r=>r≠g∧r≠o) (x:=([negB 0],[TC])) (u:=(.slice au1 1 cu1,.slice (some ⟨ob,0,none⟩) 1 1)) 24 (QOwn.nil w5.heap.size (fun r=>r≠g∧r≠o) u4) ⟨bk5,0,none⟩ 1 (cell2 zu4) ⟨hRb.lt' (fun q h hs=>⟨hs,(by intro e;cases e),h⟩),hKb.ltA (fun q h hs=>⟨hs,(by intro e;cases e),h⟩)⟩ (by simp) (by omega) ⟨by omega,by omega⟩
  obtain⟨qa,qc,eq⟩:=hQ.len
  simp only [List.nil_append,List.length_cons,List.length_nil,Nat.zero_add] at eq
  subst eq
  have hkT:Kn (fun _=>True) u4 u6:=(Kn.grown hG).sub (fun q _=>(by intro e;cases e))
  have hk:Kn (Ng g) u4 u6:=hkT.sub (fun _ _=>trivial)
  have hszu6:=hk.size
  have hK:=hK.trans hk
  have h2:=h2.kn hk (fun _ q=>q)
  have x5:=x5.kn hk (by omega)
  have x2:=x2.kn hk (by omega)
  have x3:=x3.kn hk (by omega)
  have hKd:=hKd.kn hk (fun _ q=>q.1)
  have hM:=hM.kn hkT trivial
  clear hRb hKb zu4
  refine⟨step_append rfl _ _ _ rfl _ _ _ _ rfl rfl hrun ?_⟩
  refine hKK.out _ _ (x2) (fun hS=>?_)
  clear hKK KK
  try simp only [Act.put,zg1,zg2,zg3,zs1,zs2,zs3]
  clear hk hkT hG
  refine zk 9 (.pointer (some ⟨o,5,none⟩)) rfl (by rfl) (fun w hS=>by go_simp) hS ?_
  try simp only [Act.put,zg1,zg2,zg3,zs1,zs2,zs3]
  refine zr 10 rfl (fun KK hKK=>?_)
  obtain⟨o0,o1,o2,o3,o4,o5,ff⟩:=x5.cells
  have f5:=ff 5
  obtain⟨w97,hwz⟩:∃ W,W=u6.setCell ⟨o,5,none⟩ (.slice qa 1 qc):=⟨_,rfl⟩
  have z5:=x5.set5 (.slice qa 1 qc)
  rw [← hwz] at z5
  have kz:Kn (fun q=>q≠o) u6 w97:=by rw [hwz];exact kn_set _ _ _ _
  have hSy:=hQ.row.kn kz (fun _ q=>q.2)
  have hKd:=hKd.kn kz (fun _ q=>q.2)
  have hM:=hM.kn kz (by omega)
  have x2:=x2.kn kz (by omega)
  have x3:=x3.kn kz (by omega)
  have hK9:Kn (Ng g) w w97:=(Hk5.out.trans hK).new kz (by have:=HX.out;omega)
  have Hwz:Hid (_=_):=hwz
  clear hwz kz hQ x5
  refine⟨?_⟩
  go_simp
  rw [← Hwz.out]
  refine hKK.out _ _ (x2) (fun hS=>?_)
  clear hKK KK
  try simp only [Act.put,zg1,zg2,zg3,zs1,zs2,zs3]
  refine wpAnyH_done (by kernel_rfl) ?_ _
  obtain⟨wa,hwa⟩:∃ V,V=w97:=⟨_,rfl⟩
  rw [← hwa] at z5 hSy hKd hM x2 x3 hK9 ⊢
  clear hwa hS hK
  have hTa:TmIn (fun r=>r≠g∧r≠o) wa AT (.agg #[.int .i64 15,.int .i64 0,.string ⟨#[]⟩,.slice none 0 0,.slice (some ⟨q,0,none⟩) 2 2,.slice qa 1 qc]):=by rw [HF.out.2];exact .mk _ _ _ _ _ _ _ _ _ ⟨by decide,by decide⟩ ⟨by decide,by decide⟩ (cl_nil _ _) hKd hSy
  have cc:=cDn.out g wa _ _ hM hTa.tt (hTa.up fun q h=>h.1)
  rw [← HF.out.1] at cc
  have hs9:=hK9.size
  obtain⟨y0,y1,y2,y3,y4,y5,_⟩:=z5.cells
  go_wp2_with fail
  refine cc.mono ?_
  rintro e wb ⟨vb,rfl,hvb,hkb⟩
  clear cc y0 y1 y2 y3 y4 y5
  obtain⟨DT,hDT⟩:∃ T,T=doneT AF AT:=⟨_,rfl⟩
  obtain⟨DE,hDE⟩:∃ T,T=doneE AF AT:=⟨_,rfl⟩
  have HD:Hid (DT=doneT AF AT∧DE=doneE AF AT):=⟨hDT,hDE⟩
  rw [← hDT] at hvb
  rw [← hDE]
  clear hDT hDE
  obtain⟨ra8,rc8,ka8,kc8,sa8,sc8,rfl,ht8⟩:=hvb.form
  have hT8:=ht8.value
  have zz:=x3.kn hkb (by omega)
  have hKb:=hK9.trans hkb
  have hszb:=hkb.size
  have hlo:X+4≤wa.heap.size:=by have:=x2.lt;have:=z5.lt;omega
  clear hvb ht8 hkb
  obtain⟨wc9,hwz,zz2,kz,o0,o1,o2,o3,o4,o5,f0,f1,f2,f3,f4,f5⟩:=zst zz (.int .i64 DT.kind) (.int .i64 DT.n) (.string DT.name) (.slice ra8 DT.r.length rc8) (.slice ka8 DT.kids.length kc8) (.slice sa8 DT.sys.length sc8)
  have hTf:Hid (TmIn (fun q=>X≤q) wc9 DT (.agg #[.int .i64 DT.kind,.int .i64 DT.n,.string DT.name,.slice ra8 DT.r.length rc8,.slice ka8 DT.kids.length kc8,.slice sa8 DT.sys.length sc8])):=(hT8.kn kz (fun _ q=>by have:=q.2.1;omega)).up fun q h=>by have:=h.2.1;omega
  have hKf:Below X w wc9:=by
   have q1:Kn (fun q=>q<X) w wc9:=(hKb.sub (fun q h=>by show q≠g;omega)).trans (kz.sub (fun q h=>by omega))
   exact q1.below (fun q h=>h) (by rw [HX.out];exact Nat.le_refl _)
  obtain⟨g0,g1,g2,g3,g4,g5,_⟩:=zz2.cells
  have Hwz:Hid (_=_):=hwz
  clear hwz kz zz zz2
  go_wp2_with fail
  rw [← Hwz.out]
  exact bodyPost_ret (v:=.tuple #[.agg #[.int .i64 DT.kind,.int .i64 DT.n,.string DT.name,.slice ra8 DT.r.length rc8,.slice ka8 DT.kids.length kc8,.slice sa8 DT.sys.length sc8],.int .i64 DE]) (by simp only [results,Tryz.results10];simp [go_sem,g0,g1,g2,g3,g4,g5]) rfl ⟨_,by rw [Hf.out.1,← HD.out.2],by rw [Hf.out.2,← HD.out.1];exact hTf.out,hKf⟩
 ·skip
  refine⟨?_⟩
  have cc:=misZero_any g (fstE (fstE 0 eB) eA) wd hM
  go_simp
  refine cc.mono ?_
  rintro e u8 ⟨vu8,rfl,hRu8,hMu8,hk⟩
  obtain⟨au8,cu8,eu8,_⟩:=id hRu8
  simp only [List.length_cons,List.length_nil,Nat.zero_add] at eu8
  subst eu8
  have hK:=hK.trans hk
  have h2:=h2.kn hk (fun _ q=>q)
  have x5:=x5.kn hk (by omega)
  have x2:=x2.kn hk (by omega)
  have x3:=x3.kn hk (by omega)
  have hKd:=hKd.kn hk (fun _ q=>q.1)
  have hM:=hMu8
  have hszu8:=hk.size
  clear cc
  refine hKK.out _ _ (x2) (fun hS=>?_)
  clear hKK KK
  try simp only [Act.put,zg1,zg2,zg3,zs1,zs2,zs3]
  clear hk
  refine wpAnyH_ready (rs:=[1,5]) (by kernel_rfl) (by simp) ?_
  refine ready_cons rfl (fun KK hKK=>?_) (ready_cons rfl (fun KK hKK=>?_) AllReadyH.nil)
  ·skip
   refine⟨?_⟩
   have e5:=x5.cells.2.2.2.2.2.1
   go_simp
   refine hKK.out _ _ (x2) (fun hS=>?_)
   clear hKK KK
   try simp only [Act.put,zg1,zg2,zg3,zs1,zs2,zs3]
   refine zr 5 rfl (fun KK hKK=>?_)
   refine⟨?_⟩
   have cc:=cA2.out g u8 _ _ hM h2.tt
   go_simp
   refine cc.mono ?_
   rintro e u9 ⟨vu9,rfl,hvu9,hMu9,hk⟩
   obtain⟨ra7,rc7,ka7,kc7,sa7,sc7,rfl,ht7⟩:=hvu9.form
   have hT7:=ht7.value
   have hK:=hK.trans hk
   have h2:=h2.kn hk (fun _ q=>q)
   have x5:=x5.kn hk (by omega)
   have x2:=x2.kn hk (by omega)
   have x3:=x3.kn hk (by omega)
   have hKd:=hKd.kn hk (fun _ q=>q.1)
   have hRu8:=hRu8.kn hk (fun _ q=>q.1)
   have hM:=hMu9
   have hszu9:=hk.size
   clear cc hvu9 ht7
   refine hKK.out _ _ (x2) (fun hS=>?_)
   clear hKK KK
   try simp only [Act.put,zg1,zg2,zg3,zs1,zs2,zs3]
   clear hk
   refine zr 6 rfl (fun KK hKK=>?_)
   refine⟨?_⟩
   have cc:=branch_any (fun r=>r≠g∧r≠o) [negB 0] _ TC _ u9 (hRu8.lt' (fun q h _=>⟨h.1,by have:=h.2.1;omega⟩)) (hT7.up (fun q h=>⟨h.1,by have:=h.2.1;omega⟩))
   go_simp
   refine cc.mono ?_
   rintro e u10 ⟨ob,rfl,hRb,hKb,bu10⟩
   have hKb:=hKb.ltA (ok':=fun r=>r≠g∧r≠o) (fun q h hs=>by rcases h with h | h;exact h;exact⟨by omega,by omega⟩)
   have hk:Kn (Ng g) u9 u10:=Kn.of_below bu10
   have hszu10:=hk.size
   have hK:=hK.trans hk
   have hM:=hM.blw bu10
   have h2:=h2.kn hk (fun _ q=>q)
   have x5:=x5.kn hk (by omega)
   have x2:=x2.kn hk (by omega)
   have x3:=x3.kn hk (by omega)
   have hKd:=hKd.kn hk (fun _ q=>q.1)
   clear cc
   refine hKK.out _ _ (x2) (fun hS=>?_)
   clear hKK KK
   try simp only [Act.put,zg1,zg2,zg3,zs1,zs2,zs3]
   clear hk
   refine zr 7 rfl (fun KK hKK=>?_)
   obtain⟨bk12,hbk12⟩:∃ q,q=u10.heap.size:=⟨_,rfl⟩
   obtain⟨u11,hu11⟩:∃ W,W=u10.alloc (.cells #[.slice au8 1 cu8,.slice (some ⟨ob,0,none⟩) 1 1] 50):=⟨_,rfl⟩
   have bu11:Below u10.heap.size u10 u11:=by rw [hu11];exact belowA _ _
   have su11:bk12<u11.heap.size∧u11.heap.size≤bk12+1:=by rw [hu11,hbk12];simp
   have lebk12:u10.heap.size≤bk12:=by omega
   have gbk12:w5.heap.size≤bk12:=by rw [hbk12];exact hK.size
   have zu11:u11.heap[bk12]? = some (.cells #[.slice au8 1 cu8,.slice (some ⟨ob,0,none⟩) 1 1] 50 (0,0)):=by rw [hu11,hbk12];exact heapNew _ _
   have hk:Kn (Ng g) u10 u11:=Kn.of_below bu11
   have Hu11:Hid (_=_):=hu11
   have Kbk12:Hid (_=_):=hbk12
   have hK:=hK.trans hk
   have hM:=hM.blw bu11
   have h2:=h2.kn hk (fun _ q=>q)
   have x5:=x5.kn hk (by omega)
   have x2:=x2.kn hk (by omega)
   have x3:=x3.kn hk (by omega)
   have hKd:=hKd.kn hk (fun _ q=>q.1)
   have hRb:=hRb.kn hk (fun _ q=>q.1)
   have hKb:=hKb.kn hk (fun _ q=>q.1)
   clear hu11 hbk12
   refine⟨?_⟩
   go_simp
   rw [← Hu11.out]
   try simp only [← Kbk12.out]
   refine hKK.out _ _ (x2) (fun hS=>?_)
   clear hKK KK
   try simp only [Act.put,zg1,zg2,zg3,zs1,zs2,zs3]
   clear hk Hu11
   refine zr 8 rfl (fun KK hKK=>?_)
   obtain⟨va,u13,hrun,hQ,hG,_⟩:=append_Q (base:=w5.heap.size) (No:=fun r=>r≠g∧r≠o) (x:=([negB 0],[TC])) (u:=(.slice au8 1 cu8,.slice (some ⟨ob,0,none⟩) 1 1)) 24 (QOwn.nil w5.heap.size (fun r=>r≠g∧r≠o) u11) ⟨bk12,0,none⟩ 1 (cell2 zu11) ⟨hRb.lt' (fun q h hs=>⟨hs,(by intro e;cases e),h⟩),hKb.ltA (fun q h hs=>⟨hs,(by intro e;cases e),h⟩)⟩ (by simp) (by omega) ⟨by omega,by omega⟩
   obtain⟨qa,qc,eq⟩:=hQ.len
   simp only [List.nil_append,List.length_cons,List.length_nil,Nat.zero_add] at eq
   subst eq
   have hkT:Kn (fun _=>True) u11 u13:=(Kn.grown hG).sub (fun q _=>(by intro e;cases e))
   have hk:Kn (Ng g) u11 u13:=hkT.sub (fun _ _=>trivial)
   have hszu13:=hk.size
   have hK:=hK.trans hk
   have h2:=h2.kn hk (fun _ q=>q)
   have x5:=x5.kn hk (by omega)
   have x2:=x2.kn hk (by omega)
   have x3:=x3.kn hk (by omega)
   have hKd:=hKd.kn hk (fun _ q=>q.1)
   have hM:=hM.kn hkT trivial
   clear hRb hKb zu11
   refine⟨step_append rfl _ _ _ rfl _ _ _ _ rfl rfl hrun ?_⟩
   refine hKK.out _ _ (x2) (fun hS=>?_)
   clear hKK KK
   try simp only [Act.put,zg1,zg2,zg3,zs1,zs2,zs3]
   clear hk hkT hG
   refine zk 9 (.pointer (some ⟨o,5,none⟩)) rfl (by rfl) (fun w hS=>by go_simp) hS ?_
   try simp only [Act.put,zg1,zg2,zg3,zs1,zs2,zs3]
   refine zr 10 rfl (fun KK hKK=>?_)
   obtain⟨o0,o1,o2,o3,o4,o5,ff⟩:=x5.cells
   have f5:=ff 5
   obtain⟨w914,hwz⟩:∃ W,W=u13.setCell ⟨o,5,none⟩ (.slice qa 1 qc):=⟨_,rfl⟩
   have z5:=x5.set5 (.slice qa 1 qc)
   rw [← hwz] at z5
   have kz:Kn (fun q=>q≠o) u13 w914:=by rw [hwz];exact kn_set _ _ _ _
   have hSy:=hQ.row.kn kz (fun _ q=>q.2)
   have hKd:=hKd.kn kz (fun _ q=>q.2)
   have hM:=hM.kn kz (by omega)
   have x2:=x2.kn kz (by omega)
   have x3:=x3.kn kz (by omega)
   have hK9:Kn (Ng g) w w914:=(Hk5.out.trans hK).new kz (by have:=HX.out;omega)
   have Hwz:Hid (_=_):=hwz
   clear hwz kz hQ x5
   refine⟨?_⟩
   go_simp
   rw [← Hwz.out]
   refine hKK.out _ _ (x2) (fun hS=>?_)
   clear hKK KK
   try simp only [Act.put,zg1,zg2,zg3,zs1,zs2,zs3]
   refine wpAnyH_done (by kernel_rfl) ?_ _
   obtain⟨wa,hwa⟩:∃ V,V=w914:=⟨_,rfl⟩
   rw [← hwa] at z5 hSy hKd hM x2 x3 hK9 ⊢
   clear hwa hS hK
   have hTa:TmIn (fun r=>r≠g∧r≠o) wa AT (.agg #[.int .i64 15,.int .i64 0,.string ⟨#[]⟩,.slice none 0 0,.slice (some ⟨q,0,none⟩) 2 2,.slice qa 1 qc]):=by rw [HF.out.2];exact .mk _ _ _ _ _ _ _ _ _ ⟨by decide,by decide⟩ ⟨by decide,by decide⟩ (cl_nil _ _) hKd hSy
   have cc:=cDn.out g wa _ _ hM hTa.tt (hTa.up fun q h=>h.1)
   rw [← HF.out.1] at cc
   have hs9:=hK9.size
   obtain⟨y0,y1,y2,y3,y4,y5,_⟩:=z5.cells
   go_wp2_with fail
   refine cc.mono ?_
   rintro e wb ⟨vb,rfl,hvb,hkb⟩
   clear cc y0 y1 y2 y3 y4 y5
   obtain⟨DT,hDT⟩:∃ T,T=doneT AF AT:=⟨_,rfl⟩
   obtain⟨DE,hDE⟩:∃ T,T=doneE AF AT:=⟨_,rfl⟩
   have HD:Hid (DT=doneT AF AT∧DE=doneE AF AT):=⟨hDT,hDE⟩
   rw [← hDT] at hvb
   rw [← hDE]
   clear hDT hDE
   obtain⟨ra8,rc8,ka8,kc8,sa8,sc8,rfl,ht8⟩:=hvb.form
   have hT8:=ht8.value
   have zz:=x3.kn hkb (by omega)
   have hKb:=hK9.trans hkb
   have hszb:=hkb.size
   have hlo:X+4≤wa.heap.size:=by have:=x2.lt;have:=z5.lt;omega
   clear hvb ht8 hkb
   obtain⟨wc9,hwz,zz2,kz,o0,o1,o2,o3,o4,o5,f0,f1,f2,f3,f4,f5⟩:=zst zz (.int .i64 DT.kind) (.int .i64 DT.n) (.string DT.name) (.slice ra8 DT.r.length rc8) (.slice ka8 DT.kids.length kc8) (.slice sa8 DT.sys.length sc8)
   have hTf:Hid (TmIn (fun q=>X≤q) wc9 DT (.agg #[.int .i64 DT.kind,.int .i64 DT.n,.string DT.name,.slice ra8 DT.r.length rc8,.slice ka8 DT.kids.length kc8,.slice sa8 DT.sys.length sc8])):=(hT8.kn kz (fun _ q=>by have:=q.2.1;omega)).up fun q h=>by have:=h.2.1;omega
   have hKf:Below X w wc9:=by
    have q1:Kn (fun q=>q<X) w wc9:=(hKb.sub (fun q h=>by show q≠g;omega)).trans (kz.sub (fun q h=>by omega))
    exact q1.below (fun q h=>h) (by rw [HX.out];exact Nat.le_refl _)
   obtain⟨g0,g1,g2,g3,g4,g5,_⟩:=zz2.cells
   have Hwz:Hid (_=_):=hwz
   clear hwz kz zz zz2
   go_wp2_with fail
   rw [← Hwz.out]
   exact bodyPost_ret (v:=.tuple #[.agg #[.int .i64 DT.kind,.int .i64 DT.n,.string DT.name,.slice ra8 DT.r.length rc8,.slice ka8 DT.kids.length kc8,.slice sa8 DT.sys.length sc8],.int .i64 DE]) (by simp only [results,Tryz.results10];simp [go_sem,g0,g1,g2,g3,g4,g5]) rfl ⟨_,by rw [Hf.out.1,← HD.out.2],by rw [Hf.out.2,← HD.out.1];exact hTf.out,hKf⟩
  ·skip
   refine⟨?_⟩
   have cc:=cA2.out g u8 _ _ hM h2.tt
   go_simp
   refine cc.mono ?_
   rintro e u15 ⟨vu15,rfl,hvu15,hMu15,hk⟩
   obtain⟨ra7,rc7,ka7,kc7,sa7,sc7,rfl,ht7⟩:=hvu15.form
   have hT7:=ht7.value
   have hK:=hK.trans hk
   have h2:=h2.kn hk (fun _ q=>q)
   have x5:=x5.kn hk (by omega)
   have x2:=x2.kn hk (by omega)
   have x3:=x3.kn hk (by omega)
   have hKd:=hKd.kn hk (fun _ q=>q.1)
   have hRu8:=hRu8.kn hk (fun _ q=>q.1)
   have hM:=hMu15
   have hszu15:=hk.size
   clear cc hvu15 ht7
   refine hKK.out _ _ (x2) (fun hS=>?_)
   clear hKK KK
   try simp only [Act.put,zg1,zg2,zg3,zs1,zs2,zs3]
   clear hk
   refine wpAnyH_ready (rs:=[1,6]) (by kernel_rfl) (by simp) ?_
   refine ready_cons rfl (fun KK hKK=>?_) (ready_cons rfl (fun KK hKK=>?_) AllReadyH.nil)
   ·skip
    refine⟨?_⟩
    have e5:=x5.cells.2.2.2.2.2.1
    go_simp
    refine hKK.out _ _ (x2) (fun hS=>?_)
    clear hKK KK
    try simp only [Act.put,zg1,zg2,zg3,zs1,zs2,zs3]
    refine zr 6 rfl (fun KK hKK=>?_)
    refine⟨?_⟩
    have cc:=branch_any (fun r=>r≠g∧r≠o) [negB 0] _ TC _ u15 (hRu8.lt' (fun q h _=>⟨h.1,by have:=h.2.1;omega⟩)) (hT7.up (fun q h=>⟨h.1,by have:=h.2.1;omega⟩))
    go_simp
    refine cc.mono ?_
    rintro e u16 ⟨ob,rfl,hRb,hKb,bu16⟩
    have hKb:=hKb.ltA (ok':=fun r=>r≠g∧r≠o) (fun q h hs=>by rcases h with h | h;exact h;exact⟨by omega,by omega⟩)
    have hk:Kn (Ng g) u15 u16:=Kn.of_below bu16
    have hszu16:=hk.size
    have hK:=hK.trans hk
    have hM:=hM.blw bu16
    have h2:=h2.kn hk (fun _ q=>q)
    have x5:=x5.kn hk (by omega)
    have x2:=x2.kn hk (by omega)
    have x3:=x3.kn hk (by omega)
    have hKd:=hKd.kn hk (fun _ q=>q.1)
    clear cc
    refine hKK.out _ _ (x2) (fun hS=>?_)
    clear hKK KK
    try simp only [Act.put,zg1,zg2,zg3,zs1,zs2,zs3]
    clear hk
    refine zr 7 rfl (fun KK hKK=>?_)
    obtain⟨bk18,hbk18⟩:∃ q,q=u16.heap.size:=⟨_,rfl⟩
    obtain⟨u17,hu17⟩:∃ W,W=u16.alloc (.cells #[.slice au8 1 cu8,.slice (some ⟨ob,0,none⟩) 1 1] 50):=⟨_,rfl⟩
    have bu17:Below u16.heap.size u16 u17:=by rw [hu17];exact belowA _ _
    have su17:bk18<u17.heap.size∧u17.heap.size≤bk18+1:=by rw [hu17,hbk18];simp
    have lebk18:u16.heap.size≤bk18:=by omega
    have gbk18:w5.heap.size≤bk18:=by rw [hbk18];exact hK.size
    have zu17:u17.heap[bk18]? = some (.cells #[.slice au8 1 cu8,.slice (some ⟨ob,0,none⟩) 1 1] 50 (0,0)):=by rw [hu17,hbk18];exact heapNew _ _
    have hk:Kn (Ng g) u16 u17:=Kn.of_below bu17
    have Hu17:Hid (_=_):=hu17
    have Kbk18:Hid (_=_):=hbk18
    have hK:=hK.trans hk
    have hM:=hM.blw bu17
    have h2:=h2.kn hk (fun _ q=>q)
    have x5:=x5.kn hk (by omega)
    have x2:=x2.kn hk (by omega)
    have x3:=x3.kn hk (by omega)
    have hKd:=hKd.kn hk (fun _ q=>q.1)
    have hRb:=hRb.kn hk (fun _ q=>q.1)
    have hKb:=hKb.kn hk (fun _ q=>q.1)
    clear hu17 hbk18
    refine⟨?_⟩
    go_simp
    rw [← Hu17.out]
    try simp only [← Kbk18.out]
    refine hKK.out _ _ (x2) (fun hS=>?_)
    clear hKK KK
    try simp only [Act.put,zg1,zg2,zg3,zs1,zs2,zs3]
    clear hk Hu17
    refine zr 8 rfl (fun KK hKK=>?_)
    obtain⟨va,u19,hrun,hQ,hG,_⟩:=append_Q (base:=w5.heap.size) (No:=fun r=>r≠g∧r≠o) (x:=([negB 0],[TC])) (u:=(.slice au8 1 cu8,.slice (some ⟨ob,0,none⟩) 1 1)) 24 (QOwn.nil w5.heap.size (fun r=>r≠g∧r≠o) u17) ⟨bk18,0,none⟩ 1 (cell2 zu17) ⟨hRb.lt' (fun q h hs=>⟨hs,(by intro e;cases e),h⟩),hKb.ltA (fun q h hs=>⟨hs,(by intro e;cases e),h⟩)⟩ (by simp) (by omega) ⟨by omega,by omega⟩
    obtain⟨qa,qc,eq⟩:=hQ.len
    simp only [List.nil_append,List.length_cons,List.length_nil,Nat.zero_add] at eq
    subst eq
    have hkT:Kn (fun _=>True) u17 u19:=(Kn.grown hG).sub (fun q _=>(by intro e;cases e))
    have hk:Kn (Ng g) u17 u19:=hkT.sub (fun _ _=>trivial)
    have hszu19:=hk.size
    have hK:=hK.trans hk
    have h2:=h2.kn hk (fun _ q=>q)
    have x5:=x5.kn hk (by omega)
    have x2:=x2.kn hk (by omega)
    have x3:=x3.kn hk (by omega)
    have hKd:=hKd.kn hk (fun _ q=>q.1)
    have hM:=hM.kn hkT trivial
    clear hRb hKb zu17
    refine⟨step_append rfl _ _ _ rfl _ _ _ _ rfl rfl hrun ?_⟩
    refine hKK.out _ _ (x2) (fun hS=>?_)
    clear hKK KK
    try simp only [Act.put,zg1,zg2,zg3,zs1,zs2,zs3]
    clear hk hkT hG
    refine zk 9 (.pointer (some ⟨o,5,none⟩)) rfl (by rfl) (fun w hS=>by go_simp) hS ?_
    try simp only [Act.put,zg1,zg2,zg3,zs1,zs2,zs3]
    refine zr 10 rfl (fun KK hKK=>?_)
    obtain⟨o0,o1,o2,o3,o4,o5,ff⟩:=x5.cells
    have f5:=ff 5
    obtain⟨w920,hwz⟩:∃ W,W=u19.setCell ⟨o,5,none⟩ (.slice qa 1 qc):=⟨_,rfl⟩
    have z5:=x5.set5 (.slice qa 1 qc)
    rw [← hwz] at z5
    have kz:Kn (fun q=>q≠o) u19 w920:=by rw [hwz];exact kn_set _ _ _ _
    have hSy:=hQ.row.kn kz (fun _ q=>q.2)
    have hKd:=hKd.kn kz (fun _ q=>q.2)
    have hM:=hM.kn kz (by omega)
    have x2:=x2.kn kz (by omega)
    have x3:=x3.kn kz (by omega)
    have hK9:Kn (Ng g) w w920:=(Hk5.out.trans hK).new kz (by have:=HX.out;omega)
    have Hwz:Hid (_=_):=hwz
    clear hwz kz hQ x5
    refine⟨?_⟩
    go_simp
    rw [← Hwz.out]
    refine hKK.out _ _ (x2) (fun hS=>?_)
    clear hKK KK
    try simp only [Act.put,zg1,zg2,zg3,zs1,zs2,zs3]
    refine wpAnyH_done (by kernel_rfl) ?_ _
    obtain⟨wa,hwa⟩:∃ V,V=w920:=⟨_,rfl⟩
    rw [← hwa] at z5 hSy hKd hM x2 x3 hK9 ⊢
    clear hwa hS hK
    have hTa:TmIn (fun r=>r≠g∧r≠o) wa AT (.agg #[.int .i64 15,.int .i64 0,.string ⟨#[]⟩,.slice none 0 0,.slice (some ⟨q,0,none⟩) 2 2,.slice qa 1 qc]):=by rw [HF.out.2];exact .mk _ _ _ _ _ _ _ _ _ ⟨by decide,by decide⟩ ⟨by decide,by decide⟩ (cl_nil _ _) hKd hSy
    have cc:=cDn.out g wa _ _ hM hTa.tt (hTa.up fun q h=>h.1)
    rw [← HF.out.1] at cc
    have hs9:=hK9.size
    obtain⟨y0,y1,y2,y3,y4,y5,_⟩:=z5.cells
    go_wp2_with fail
    refine cc.mono ?_
    rintro e wb ⟨vb,rfl,hvb,hkb⟩
    clear cc y0 y1 y2 y3 y4 y5
    obtain⟨DT,hDT⟩:∃ T,T=doneT AF AT:=⟨_,rfl⟩
    obtain⟨DE,hDE⟩:∃ T,T=doneE AF AT:=⟨_,rfl⟩
    have HD:Hid (DT=doneT AF AT∧DE=doneE AF AT):=⟨hDT,hDE⟩
    rw [← hDT] at hvb
    rw [← hDE]
    clear hDT hDE
    obtain⟨ra8,rc8,ka8,kc8,sa8,sc8,rfl,ht8⟩:=hvb.form
    have hT8:=ht8.value
    have zz:=x3.kn hkb (by omega)
    have hKb:=hK9.trans hkb
    have hszb:=hkb.size
    have hlo:X+4≤wa.heap.size:=by have:=x2.lt;have:=z5.lt;omega
    clear hvb ht8 hkb
    obtain⟨wc9,hwz,zz2,kz,o0,o1,o2,o3,o4,o5,f0,f1,f2,f3,f4,f5⟩:=zst zz (.int .i64 DT.kind) (.int .i64 DT.n) (.string DT.name) (.slice ra8 DT.r.length rc8) (.slice ka8 DT.kids.length kc8) (.slice sa8 DT.sys.length sc8)
    have hTf:Hid (TmIn (fun q=>X≤q) wc9 DT (.agg #[.int .i64 DT.kind,.int .i64 DT.n,.string DT.name,.slice ra8 DT.r.length rc8,.slice ka8 DT.kids.length kc8,.slice sa8 DT.sys.length sc8])):=(hT8.kn kz (fun _ q=>by have:=q.2.1;omega)).up fun q h=>by have:=h.2.1;omega
    have hKf:Below X w wc9:=by
     have q1:Kn (fun q=>q<X) w wc9:=(hKb.sub (fun q h=>by show q≠g;omega)).trans (kz.sub (fun q h=>by omega))
     exact q1.below (fun q h=>h) (by rw [HX.out];exact Nat.le_refl _)
    obtain⟨g0,g1,g2,g3,g4,g5,_⟩:=zz2.cells
    have Hwz:Hid (_=_):=hwz
    clear hwz kz zz zz2
    go_wp2_with fail
    rw [← Hwz.out]
    exact bodyPost_ret (v:=.tuple #[.agg #[.int .i64 DT.kind,.int .i64 DT.n,.string DT.name,.slice ra8 DT.r.length rc8,.slice ka8 DT.kids.length kc8,.slice sa8 DT.sys.length sc8],.int .i64 DE]) (by simp only [results,Tryz.results10];simp [go_sem,g0,g1,g2,g3,g4,g5]) rfl ⟨_,by rw [Hf.out.1,← HD.out.2],by rw [Hf.out.2,← HD.out.1];exact hTf.out,hKf⟩
   ·skip
    refine⟨?_⟩
    have cc:=branch_any (fun r=>r≠g∧r≠o) [negB 0] _ TC _ u15 (hRu8.lt' (fun q h _=>⟨h.1,by have:=h.2.1;omega⟩)) (hT7.up (fun q h=>⟨h.1,by have:=h.2.1;omega⟩))
    go_simp
    refine cc.mono ?_
    rintro e u21 ⟨ob,rfl,hRb,hKb,bu21⟩
    have hKb:=hKb.ltA (ok':=fun r=>r≠g∧r≠o) (fun q h hs=>by rcases h with h | h;exact h;exact⟨by omega,by omega⟩)
    have hk:Kn (Ng g) u15 u21:=Kn.of_below bu21
    have hszu21:=hk.size
    have hK:=hK.trans hk
    have hM:=hM.blw bu21
    have h2:=h2.kn hk (fun _ q=>q)
    have x5:=x5.kn hk (by omega)
    have x2:=x2.kn hk (by omega)
    have x3:=x3.kn hk (by omega)
    have hKd:=hKd.kn hk (fun _ q=>q.1)
    clear cc
    refine hKK.out _ _ (x2) (fun hS=>?_)
    clear hKK KK
    try simp only [Act.put,zg1,zg2,zg3,zs1,zs2,zs3]
    clear hk
    refine wpAnyH_ready (rs:=[1,7]) (by kernel_rfl) (by simp) ?_
    refine ready_cons rfl (fun KK hKK=>?_) (ready_cons rfl (fun KK hKK=>?_) AllReadyH.nil)
    ·skip
     refine⟨?_⟩
     have e5:=x5.cells.2.2.2.2.2.1
     go_simp
     refine hKK.out _ _ (x2) (fun hS=>?_)
     clear hKK KK
     try simp only [Act.put,zg1,zg2,zg3,zs1,zs2,zs3]
     refine zr 7 rfl (fun KK hKK=>?_)
     obtain⟨bk23,hbk23⟩:∃ q,q=u21.heap.size:=⟨_,rfl⟩
     obtain⟨u22,hu22⟩:∃ W,W=u21.alloc (.cells #[.slice au8 1 cu8,.slice (some ⟨ob,0,none⟩) 1 1] 50):=⟨_,rfl⟩
     have bu22:Below u21.heap.size u21 u22:=by rw [hu22];exact belowA _ _
     have su22:bk23<u22.heap.size∧u22.heap.size≤bk23+1:=by rw [hu22,hbk23];simp
     have lebk23:u21.heap.size≤bk23:=by omega
     have gbk23:w5.heap.size≤bk23:=by rw [hbk23];exact hK.size
     have zu22:u22.heap[bk23]? = some (.cells #[.slice au8 1 cu8,.slice (some ⟨ob,0,none⟩) 1 1] 50 (0,0)):=by rw [hu22,hbk23];exact heapNew _ _
     have hk:Kn (Ng g) u21 u22:=Kn.of_below bu22
     have Hu22:Hid (_=_):=hu22
     have Kbk23:Hid (_=_):=hbk23
     have hK:=hK.trans hk
     have hM:=hM.blw bu22
     have h2:=h2.kn hk (fun _ q=>q)
     have x5:=x5.kn hk (by omega)
     have x2:=x2.kn hk (by omega)
     have x3:=x3.kn hk (by omega)
     have hKd:=hKd.kn hk (fun _ q=>q.1)
     have hRb:=hRb.kn hk (fun _ q=>q.1)
     have hKb:=hKb.kn hk (fun _ q=>q.1)
     clear hu22 hbk23
     refine⟨?_⟩
     go_simp
     rw [← Hu22.out]
     try simp only [← Kbk23.out]
     refine hKK.out _ _ (x2) (fun hS=>?_)
     clear hKK KK
     try simp only [Act.put,zg1,zg2,zg3,zs1,zs2,zs3]
     clear hk Hu22
     refine zr 8 rfl (fun KK hKK=>?_)
     obtain⟨va,u24,hrun,hQ,hG,_⟩:=append_Q (base:=w5.heap.size) (No:=fun r=>r≠g∧r≠o) (x:=([negB 0],[TC])) (u:=(.slice au8 1 cu8,.slice (some ⟨ob,0,none⟩) 1 1)) 24 (QOwn.nil w5.heap.size (fun r=>r≠g∧r≠o) u22) ⟨bk23,0,none⟩ 1 (cell2 zu22) ⟨hRb.lt' (fun q h hs=>⟨hs,(by intro e;cases e),h⟩),hKb.ltA (fun q h hs=>⟨hs,(by intro e;cases e),h⟩)⟩ (by simp) (by omega) ⟨by omega,by omega⟩
     obtain⟨qa,qc,eq⟩:=hQ.len
     simp only [List.nil_append,List.length_cons,List.length_nil,Nat.zero_add] at eq
     subst eq
     have hkT:Kn (fun _=>True) u22 u24:=(Kn.grown hG).sub (fun q _=>(by intro e;cases e))
     have hk:Kn (Ng g) u22 u24:=hkT.sub (fun _ _=>trivial)
     have hszu24:=hk.size
     have hK:=hK.trans hk
     have h2:=h2.kn hk (fun _ q=>q)
     have x5:=x5.kn hk (by omega)
     have x2:=x2.kn hk (by omega)
     have x3:=x3.kn hk (by omega)
     have hKd:=hKd.kn hk (fun _ q=>q.1)
     have hM:=hM.kn hkT trivial
     clear hRb hKb zu22
     refine⟨step_append rfl _ _ _ rfl _ _ _ _ rfl rfl hrun ?_⟩
     refine hKK.out _ _ (x2) (fun hS=>?_)
     clear hKK KK
     try simp only [Act.put,zg1,zg2,zg3,zs1,zs2,zs3]
     clear hk hkT hG
     refine zk 9 (.pointer (some ⟨o,5,none⟩)) rfl (by rfl) (fun w hS=>by go_simp) hS ?_
     try simp only [Act.put,zg1,zg2,zg3,zs1,zs2,zs3]
     refine zr 10 rfl (fun KK hKK=>?_)
     obtain⟨o0,o1,o2,o3,o4,o5,ff⟩:=x5.cells
     have f5:=ff 5
     obtain⟨w925,hwz⟩:∃ W,W=u24.setCell ⟨o,5,none⟩ (.slice qa 1 qc):=⟨_,rfl⟩
     have z5:=x5.set5 (.slice qa 1 qc)
     rw [← hwz] at z5
     have kz:Kn (fun q=>q≠o) u24 w925:=by rw [hwz];exact kn_set _ _ _ _
     have hSy:=hQ.row.kn kz (fun _ q=>q.2)
     have hKd:=hKd.kn kz (fun _ q=>q.2)
     have hM:=hM.kn kz (by omega)
     have x2:=x2.kn kz (by omega)
     have x3:=x3.kn kz (by omega)
     have hK9:Kn (Ng g) w w925:=(Hk5.out.trans hK).new kz (by have:=HX.out;omega)
     have Hwz:Hid (_=_):=hwz
     clear hwz kz hQ x5
     refine⟨?_⟩
     go_simp
     rw [← Hwz.out]
     refine hKK.out _ _ (x2) (fun hS=>?_)
     clear hKK KK
     try simp only [Act.put,zg1,zg2,zg3,zs1,zs2,zs3]
     refine wpAnyH_done (by kernel_rfl) ?_ _
     obtain⟨wa,hwa⟩:∃ V,V=w925:=⟨_,rfl⟩
     rw [← hwa] at z5 hSy hKd hM x2 x3 hK9 ⊢
     clear hwa hS hK
     have hTa:TmIn (fun r=>r≠g∧r≠o) wa AT (.agg #[.int .i64 15,.int .i64 0,.string ⟨#[]⟩,.slice none 0 0,.slice (some ⟨q,0,none⟩) 2 2,.slice qa 1 qc]):=by rw [HF.out.2];exact .mk _ _ _ _ _ _ _ _ _ ⟨by decide,by decide⟩ ⟨by decide,by decide⟩ (cl_nil _ _) hKd hSy
     have cc:=cDn.out g wa _ _ hM hTa.tt (hTa.up fun q h=>h.1)
     rw [← HF.out.1] at cc
     have hs9:=hK9.size
     obtain⟨y0,y1,y2,y3,y4,y5,_⟩:=z5.cells
     go_wp2_with fail
     refine cc.mono ?_
     rintro e wb ⟨vb,rfl,hvb,hkb⟩
     clear cc y0 y1 y2 y3 y4 y5
     obtain⟨DT,hDT⟩:∃ T,T=doneT AF AT:=⟨_,rfl⟩
     obtain⟨DE,hDE⟩:∃ T,T=doneE AF AT:=⟨_,rfl⟩
     have HD:Hid (DT=doneT AF AT∧DE=doneE AF AT):=⟨hDT,hDE⟩
     rw [← hDT] at hvb
     rw [← hDE]
     clear hDT hDE
     obtain⟨ra8,rc8,ka8,kc8,sa8,sc8,rfl,ht8⟩:=hvb.form
     have hT8:=ht8.value
     have zz:=x3.kn hkb (by omega)
     have hKb:=hK9.trans hkb
     have hszb:=hkb.size
     have hlo:X+4≤wa.heap.size:=by have:=x2.lt;have:=z5.lt;omega
     clear hvb ht8 hkb
     obtain⟨wc9,hwz,zz2,kz,o0,o1,o2,o3,o4,o5,f0,f1,f2,f3,f4,f5⟩:=zst zz (.int .i64 DT.kind) (.int .i64 DT.n) (.string DT.name) (.slice ra8 DT.r.length rc8) (.slice ka8 DT.kids.length kc8) (.slice sa8 DT.sys.length sc8)
     have hTf:Hid (TmIn (fun q=>X≤q) wc9 DT (.agg #[.int .i64 DT.kind,.int .i64 DT.n,.string DT.name,.slice ra8 DT.r.length rc8,.slice ka8 DT.kids.length kc8,.slice sa8 DT.sys.length sc8])):=(hT8.kn kz (fun _ q=>by have:=q.2.1;omega)).up fun q h=>by have:=h.2.1;omega
     have hKf:Below X w wc9:=by
      have q1:Kn (fun q=>q<X) w wc9:=(hKb.sub (fun q h=>by show q≠g;omega)).trans (kz.sub (fun q h=>by omega))
      exact q1.below (fun q h=>h) (by rw [HX.out];exact Nat.le_refl _)
     obtain⟨g0,g1,g2,g3,g4,g5,_⟩:=zz2.cells
     have Hwz:Hid (_=_):=hwz
     clear hwz kz zz zz2
     go_wp2_with fail
     rw [← Hwz.out]
     exact bodyPost_ret (v:=.tuple #[.agg #[.int .i64 DT.kind,.int .i64 DT.n,.string DT.name,.slice ra8 DT.r.length rc8,.slice ka8 DT.kids.length kc8,.slice sa8 DT.sys.length sc8],.int .i64 DE]) (by simp only [results,Tryz.results10];simp [go_sem,g0,g1,g2,g3,g4,g5]) rfl ⟨_,by rw [Hf.out.1,← HD.out.2],by rw [Hf.out.2,← HD.out.1];exact hTf.out,hKf⟩
    ·skip
     obtain⟨bk27,hbk27⟩:∃ q,q=u21.heap.size:=⟨_,rfl⟩
     obtain⟨u26,hu26⟩:∃ W,W=u21.alloc (.cells #[.slice au8 1 cu8,.slice (some ⟨ob,0,none⟩) 1 1] 50):=⟨_,rfl⟩
     have bu26:Below u21.heap.size u21 u26:=by rw [hu26];exact belowA _ _
     have su26:bk27<u26.heap.size∧u26.heap.size≤bk27+1:=by rw [hu26,hbk27];simp
     have lebk27:u21.heap.size≤bk27:=by omega
     have gbk27:w5.heap.size≤bk27:=by rw [hbk27];exact hK.size
     have zu26:u26.heap[bk27]? = some (.cells #[.slice au8 1 cu8,.slice (some ⟨ob,0,none⟩) 1 1] 50 (0,0)):=by rw [hu26,hbk27];exact heapNew _ _
     have hk:Kn (Ng g) u21 u26:=Kn.of_below bu26
     have Hu26:Hid (_=_):=hu26
     have Kbk27:Hid (_=_):=hbk27
     have hK:=hK.trans hk
     have hM:=hM.blw bu26
     have h2:=h2.kn hk (fun _ q=>q)
     have x5:=x5.kn hk (by omega)
     have x2:=x2.kn hk (by omega)
     have x3:=x3.kn hk (by omega)
     have hKd:=hKd.kn hk (fun _ q=>q.1)
     have hRb:=hRb.kn hk (fun _ q=>q.1)
     have hKb:=hKb.kn hk (fun _ q=>q.1)
     clear hu26 hbk27
     refine⟨?_⟩
     go_simp
     rw [← Hu26.out]
     try simp only [← Kbk27.out]
     refine hKK.out _ _ (x2) (fun hS=>?_)
     clear hKK KK
     try simp only [Act.put,zg1,zg2,zg3,zs1,zs2,zs3]
     clear hk Hu26
     refine zr 1 rfl (fun KK hKK=>?_)
     refine⟨?_⟩
     have e5:=x5.cells.2.2.2.2.2.1
     go_simp
     refine hKK.out _ _ (x2) (fun hS=>?_)
     clear hKK KK
     try simp only [Act.put,zg1,zg2,zg3,zs1,zs2,zs3]
     refine zr 8 rfl (fun KK hKK=>?_)
     obtain⟨va,u28,hrun,hQ,hG,_⟩:=append_Q (base:=w5.heap.size) (No:=fun r=>r≠g∧r≠o) (x:=([negB 0],[TC])) (u:=(.slice au8 1 cu8,.slice (some ⟨ob,0,none⟩) 1 1)) 24 (QOwn.nil w5.heap.size (fun r=>r≠g∧r≠o) u26) ⟨bk27,0,none⟩ 1 (cell2 zu26) ⟨hRb.lt' (fun q h hs=>⟨hs,(by intro e;cases e),h⟩),hKb.ltA (fun q h hs=>⟨hs,(by intro e;cases e),h⟩)⟩ (by simp) (by omega) ⟨by omega,by omega⟩
     obtain⟨qa,qc,eq⟩:=hQ.len
     simp only [List.nil_append,List.length_cons,List.length_nil,Nat.zero_add] at eq
     subst eq
     have hkT:Kn (fun _=>True) u26 u28:=(Kn.grown hG).sub (fun q _=>(by intro e;cases e))
     have hk:Kn (Ng g) u26 u28:=hkT.sub (fun _ _=>trivial)
     have hszu28:=hk.size
     have hK:=hK.trans hk
     have h2:=h2.kn hk (fun _ q=>q)
     have x5:=x5.kn hk (by omega)
     have x2:=x2.kn hk (by omega)
     have x3:=x3.kn hk (by omega)
     have hKd:=hKd.kn hk (fun _ q=>q.1)
     have hM:=hM.kn hkT trivial
     clear hRb hKb zu26
     refine⟨step_append rfl _ _ _ rfl _ _ _ _ rfl rfl hrun ?_⟩
     refine hKK.out _ _ (x2) (fun hS=>?_)
     clear hKK KK
     try simp only [Act.put,zg1,zg2,zg3,zs1,zs2,zs3]
     clear hk hkT hG
     refine zk 9 (.pointer (some ⟨o,5,none⟩)) rfl (by rfl) (fun w hS=>by go_simp) hS ?_
     try simp only [Act.put,zg1,zg2,zg3,zs1,zs2,zs3]
     refine zr 10 rfl (fun KK hKK=>?_)
     obtain⟨o0,o1,o2,o3,o4,o5,ff⟩:=x5.cells
     have f5:=ff 5
     obtain⟨w929,hwz⟩:∃ W,W=u28.setCell ⟨o,5,none⟩ (.slice qa 1 qc):=⟨_,rfl⟩
     have z5:=x5.set5 (.slice qa 1 qc)
     rw [← hwz] at z5
     have kz:Kn (fun q=>q≠o) u28 w929:=by rw [hwz];exact kn_set _ _ _ _
     have hSy:=hQ.row.kn kz (fun _ q=>q.2)
     have hKd:=hKd.kn kz (fun _ q=>q.2)
     have hM:=hM.kn kz (by omega)
     have x2:=x2.kn kz (by omega)
     have x3:=x3.kn kz (by omega)
     have hK9:Kn (Ng g) w w929:=(Hk5.out.trans hK).new kz (by have:=HX.out;omega)
     have Hwz:Hid (_=_):=hwz
     clear hwz kz hQ x5
     refine⟨?_⟩
     go_simp
     rw [← Hwz.out]
     refine hKK.out _ _ (x2) (fun hS=>?_)
     clear hKK KK
     try simp only [Act.put,zg1,zg2,zg3,zs1,zs2,zs3]
     refine wpAnyH_done (by kernel_rfl) ?_ _
     obtain⟨wa,hwa⟩:∃ V,V=w929:=⟨_,rfl⟩
     rw [← hwa] at z5 hSy hKd hM x2 x3 hK9 ⊢
     clear hwa hS hK
     have hTa:TmIn (fun r=>r≠g∧r≠o) wa AT (.agg #[.int .i64 15,.int .i64 0,.string ⟨#[]⟩,.slice none 0 0,.slice (some ⟨q,0,none⟩) 2 2,.slice qa 1 qc]):=by rw [HF.out.2];exact .mk _ _ _ _ _ _ _ _ _ ⟨by decide,by decide⟩ ⟨by decide,by decide⟩ (cl_nil _ _) hKd hSy
     have cc:=cDn.out g wa _ _ hM hTa.tt (hTa.up fun q h=>h.1)
     rw [← HF.out.1] at cc
     have hs9:=hK9.size
     obtain⟨y0,y1,y2,y3,y4,y5,_⟩:=z5.cells
     go_wp2_with fail
     refine cc.mono ?_
     rintro e wb ⟨vb,rfl,hvb,hkb⟩
     clear cc y0 y1 y2 y3 y4 y5
     obtain⟨DT,hDT⟩:∃ T,T=doneT AF AT:=⟨_,rfl⟩
     obtain⟨DE,hDE⟩:∃ T,T=doneE AF AT:=⟨_,rfl⟩
     have HD:Hid (DT=doneT AF AT∧DE=doneE AF AT):=⟨hDT,hDE⟩
     rw [← hDT] at hvb
     rw [← hDE]
     clear hDT hDE
     obtain⟨ra8,rc8,ka8,kc8,sa8,sc8,rfl,ht8⟩:=hvb.form
     have hT8:=ht8.value
     have zz:=x3.kn hkb (by omega)
     have hKb:=hK9.trans hkb
     have hszb:=hkb.size
     have hlo:X+4≤wa.heap.size:=by have:=x2.lt;have:=z5.lt;omega
     clear hvb ht8 hkb
     obtain⟨wc9,hwz,zz2,kz,o0,o1,o2,o3,o4,o5,f0,f1,f2,f3,f4,f5⟩:=zst zz (.int .i64 DT.kind) (.int .i64 DT.n) (.string DT.name) (.slice ra8 DT.r.length rc8) (.slice ka8 DT.kids.length kc8) (.slice sa8 DT.sys.length sc8)
     have hTf:Hid (TmIn (fun q=>X≤q) wc9 DT (.agg #[.int .i64 DT.kind,.int .i64 DT.n,.string DT.name,.slice ra8 DT.r.length rc8,.slice ka8 DT.kids.length kc8,.slice sa8 DT.sys.length sc8])):=(hT8.kn kz (fun _ q=>by have:=q.2.1;omega)).up fun q h=>by have:=h.2.1;omega
     have hKf:Below X w wc9:=by
      have q1:Kn (fun q=>q<X) w wc9:=(hKb.sub (fun q h=>by show q≠g;omega)).trans (kz.sub (fun q h=>by omega))
      exact q1.below (fun q h=>h) (by rw [HX.out];exact Nat.le_refl _)
     obtain⟨g0,g1,g2,g3,g4,g5,_⟩:=zz2.cells
     have Hwz:Hid (_=_):=hwz
     clear hwz kz zz zz2
     go_wp2_with fail
     rw [← Hwz.out]
     exact bodyPost_ret (v:=.tuple #[.agg #[.int .i64 DT.kind,.int .i64 DT.n,.string DT.name,.slice ra8 DT.r.length rc8,.slice ka8 DT.kids.length kc8,.slice sa8 DT.sys.length sc8],.int .i64 DE]) (by simp only [results,Tryz.results10];simp [go_sem,g0,g1,g2,g3,g4,g5]) rfl ⟨_,by rw [Hf.out.1,← HD.out.2],by rw [Hf.out.2,← HD.out.1];exact hTf.out,hKf⟩
end Go.Proofs.YtmblbmdchinflaaGreat
