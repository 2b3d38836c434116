/- Branches, a system's term, variables. -/
import Derived.Test.YtmblbmdchinflaaGreatFG27
import Derived.Test.YtmblbmdchinflaaGreatFG30
import Derived.Test.YtmblbmdchinflaaGreatFG33
import Derived.Test.YtmblbmdchinflaaGreatEG12
import Derived.Deep.RegionHeld3
import Derived.Test.YtmblbmdchinflaaGreatProg
set_option linter.unusedVariables false
set_option linter.unusedSimpArgs false
set_option maxRecDepth 100000
set_option maxHeartbeats 4000000
namespace Go.Proofs.YtmblbmdchinflaaGreat
open Go.RowKit
theorem branch_any (P:Nat→Prop) (r:List C) (vr:Value) (t:Tm) (v1:Value) (w:World) (hr:ClRow P w r vr) (h1:TmIn P w t v1) :
  Calls Tryz.prog 33 #[vr,v1] w fun e w'=>∃ o,e=.returned (.agg #[vr,.slice (some ⟨o,0,none⟩) 1 1])∧ClRow P w' r vr∧KdT (fun q=>P q∨(w.heap.size≤q∧q<w'.heap.size)) w' (TmIn (fun q=>P q∨(w.heap.size≤q∧q<w'.heap.size)) w') [t] (.slice (some ⟨o,0,none⟩) 1 1)∧Below w.heap.size w w':=by
 obtain⟨va,vc,e2,_⟩:=id hr
 subst e2
 obtain⟨ra1,rc1,ka1,kc1,sa1,sc1,rfl,ht1⟩:=h1.form
 obtain⟨w1,hw1⟩:∃ W,W=w.alloc (.cells #[.int .i64 t.kind,.int .i64 t.n,.string t.name,.slice ra1 t.r.length rc1,.slice ka1 t.kids.length kc1,.slice sa1 t.sys.length sc1] 26):=⟨_,rfl⟩
 have b1:Below w.heap.size w w1:=by rw [hw1];exact belowA _ _
 obtain⟨X,hX⟩:∃ X,X=w.heap.size:=⟨_,rfl⟩
 have s1:w1.heap.size=X+1:=by rw [hw1,hX];simp
 have x1:Six w1 (X) (.int .i64 t.kind) (.int .i64 t.n) (.string t.name) (.slice ra1 t.r.length rc1) (.slice ka1 t.kids.length kc1) (.slice sa1 t.sys.length sc1):=⟨by
  rw [hX,hw1]
  have q:=heapNew w (.cells #[.int .i64 t.kind,.int .i64 t.n,.string t.name,.slice ra1 t.r.length rc1,.slice ka1 t.kids.length kc1,.slice sa1 t.sys.length sc1] 26)
  try simp only [World.size_alloc] at q
  exact q⟩
 obtain⟨w1b,hw1b⟩:∃ W,W=w1.alloc (.cells #[.slice none 0 0,.slice none 0 0] 50):=⟨_,rfl⟩
 have b1b:Below w1.heap.size w1 w1b:=by rw [hw1b];exact belowA _ _
 have s1b:w1b.heap.size=X+2:=by rw [hw1b];simp [s1]
 have zz:Two w1b (X+1) (.slice none 0 0) (.slice none 0 0):=⟨by rw [hw1b,← s1];exact heapNew _ _⟩
 have x1:=x1.blw b1b
 have hr1:=((hr.lt' (ok':=fun q=>P q∧q<X) (fun q h hs=>⟨h,by rw [hX];exact hs⟩)).blw b1).blw b1b
 have ht1':=((h1.lt' (ok':=fun q=>P q∧q<X) (fun q h hs=>⟨h,by rw [hX];exact hs⟩)).blw b1).blw b1b
 obtain⟨LR,hLR⟩:∃ L,L=r.length:=⟨_,rfl⟩
 rw [← hLR] at hr1 ⊢
 obtain⟨o0,o1,ff⟩:=zz.cells
 have f0:=ff 0
 have f1:=ff 1
 have zz2:=zz.set2 (.slice va LR vc) (.slice (some ⟨X+2,0,none⟩) 1 1)
 obtain⟨w2,hw2⟩:∃ W,W=(w1b.setCell ⟨X+1,0,none⟩ (.slice va LR vc)).setCell ⟨X+1,1,none⟩ (.slice (some ⟨X+2,0,none⟩) 1 1):=⟨_,rfl⟩
 rw [← hw2] at zz2
 have kz:Kn (fun q=>q≠X+1) w1b w2:=by rw [hw2];exact (kn_set _ _ _ _).trans (kn_set _ _ _ _)
 have s2:w2.heap.size=X+2:=by rw [hw2];simp [World.setCell,s1b]
 obtain⟨w3,hwz⟩:∃ W,W=w2.alloc (.cells #[.int .i64 t.kind,.int .i64 t.n,.string t.name,.slice ra1 t.r.length rc1,.slice ka1 t.kids.length kc1,.slice sa1 t.sys.length sc1] 26):=⟨_,rfl⟩
 have b3:Below w2.heap.size w2 w3:=by rw [hwz];exact belowA _ _
 have hB3:w3.heap[X+2]? = some (.cells #[.int .i64 t.kind,.int .i64 t.n,.string t.name,.slice ra1 t.r.length rc1,.slice ka1 t.kids.length kc1,.slice sa1 t.sys.length sc1] 26 (0,0)):=by rw [hwz,← s2];exact heapNew _ _
 have s3:w3.heap.size=X+3:=by rw [hwz];simp [s2]
 have hr3:=(hr1.kn kz (fun q h=>by have:=h.2;omega)).blw b3
 have ht3:=((ht1'.kn kz (fun q h=>by have:=h.2;omega)).blw b3).up (ok':=fun q=>(P q∧q<X)∨q=X+2) (fun q h=>.inl h)
 have hk3:=kd_one hB3 (ok:=fun q=>(P q∧q<X)∨q=X+2) (.inr rfl) ht3
 have zz2:=zz2.blw b3
 have HR:Hid (ClRow P w3 r (.slice va LR vc)):=hr3.lt' (fun q h _=>h.1)
 have HK:Hid (KdT (fun q=>P q∨(X≤q∧q<w3.heap.size)) w3 (TmIn (fun q=>P q∨(X≤q∧q<w3.heap.size)) w3) [t] (.slice (some ⟨X+2,0,none⟩) 1 1)):=hk3.ltA (fun q h hs=>by rcases h with h | h;exact .inl h.1;exact .inr ⟨by omega,hs⟩)
 have HB:Hid (Below X w w3):=by
  have q3:=bchain b1 b1b
  rw [hX]
  have q4:=q3.trans (kz.below (fun q hq=>by omega) q3.size)
  exact q4.trans (b3.mono q4.size)
 have HW:Hid (_=_):=hw1
 have HWb:Hid (_=_):=hw1b
 have H2:Hid (_=_):=hw2
 have Hz:Hid (_=_):=hwz
 have HX:Hid (X=w.heap.size):=hX
 obtain⟨h0,h1',_⟩:=zz2.cells
 obtain⟨y0,y1,y2,y3,y4,y5,_⟩:=x1.cells
 rw [← hX]
 clear hw1 hw1b hw2 hwz hX b1 b1b b3 hr h1 ht1 hr1 ht1' hr3 ht3 hk3 hB3 zz zz2 kz hLR
 go_enter Tryz.func33,Tryz.ntmps33
 go_upto_region 1 with fail
 rw [← HW.out]
 rw [← HWb.out]
 simp only [← HX.out]
 clear HW HWb
 go_wp2_with fail
 rw [← H2.out]
 rw [← Hz.out]
 exact bodyPost_ret (v:=.agg #[.slice va LR vc,.slice (some ⟨X+2,0,none⟩) 1 1]) (by simp only [results,Tryz.results33];simp [go_sem,h0,h1']) rfl ⟨_,rfl,HR.out,HK.out,HB.out⟩
def hcT (l:List (List C × List Tm)):Tm:=.mk 15 0 ⟨#[]⟩ [] [wU,wU] l
theorem wU_at (ok:Nat→Prop) (w:World):TmIn ok w wU (.agg #[.int .i64 3,.int .i64 0,.string ⟨#[]⟩,.slice none 0 0,.slice none 0 0,.slice none 0 0]) :=
 .mk _ _ _ _ _ _ _ _ _ ⟨by decide,by decide⟩ ⟨by decide,by decide⟩ (cl_nil _ w) (kt_nil _ w _) (sy_nil _ w _)
theorem systems_any (P:Nat→Prop) (l:List (List C × List Tm)) (v:Value) (w:World) (hS:SyT P w (TmIn P w) l v) :
  Calls Tryz.prog 30 #[v] w fun e w'=>∃ v',e=.returned v'∧TmIn (fun q=>P q∨(w.heap.size≤q∧q<w'.heap.size)) w' (hcT l) v'∧Below w.heap.size w w':=by
 obtain⟨sa,sc,rfl,_⟩:=id hS
 obtain⟨LS,hLS⟩:∃ L,L=l.length:=⟨_,rfl⟩
 obtain⟨w1,hw1⟩:∃ W,W=w.alloc (.cells #[.int .i64 0,.int .i64 0,.string ⟨#[]⟩,.slice none 0 0,.slice none 0 0,.slice none 0 0] 26):=⟨_,rfl⟩
 have b1:Below w.heap.size w w1:=by rw [hw1];exact belowA _ _
 obtain⟨X,hX⟩:∃ X,X=w.heap.size:=⟨_,rfl⟩
 have s1:w1.heap.size=X+1:=by rw [hw1,hX];simp
 have x1:Six w1 (X) (.int .i64 0) (.int .i64 0) (.string ⟨#[]⟩) (.slice none 0 0) (.slice none 0 0) (.slice none 0 0):=⟨by
  rw [hX,hw1]
  have q:=heapNew w (.cells #[.int .i64 0,.int .i64 0,.string ⟨#[]⟩,.slice none 0 0,.slice none 0 0,.slice none 0 0] 26)
  try simp only [World.size_alloc] at q
  exact q⟩
 have hS1:=(hS.ltA (ok':=fun q=>P q∧q<X) (fun q h hs=>⟨h,by rw [hX];exact hs⟩)).blw b1
 rw [← hLS] at hS1 ⊢
 have c1:=node_any 3 none 0 0 w1
 have HW:Hid (_=_):=hw1
 have HX:Hid (X=w.heap.size):=hX
 have Hb1:Hid (Below w.heap.size w w1):=b1
 rw [← hX]
 clear hw1 hX b1 hS hLS
 go_enter Tryz.func30,Tryz.ntmps30
 go_upto_region 1 with fail
 rw [← HW.out]
 simp only [← HX.out]
 clear HW
 go_wp2_with fail
 refine c1.mono ?_
 rintro e w2 ⟨rfl,b2⟩
 clear c1
 have c2:=node_any 3 none 0 0 w2
 go_wp2_with fail
 refine c2.mono ?_
 rintro e w3 ⟨rfl,b3⟩
 clear c2
 have b13:Below w1.heap.size w1 w3:=bchain b2 b3
 have hS3:=hS1.blw b13
 have zz:=x1.blw b13
 have s3:=b13.size
 obtain⟨o,ho⟩:∃ o,o=w3.heap.size:=⟨_,rfl⟩
 obtain⟨w4,hw4⟩:∃ W,W=w3.alloc (.cells #[.int .i64 3,.int .i64 0,.string ⟨#[]⟩,.slice none 0 0,.slice none 0 0,.slice none 0 0,.int .i64 3,.int .i64 0,.string ⟨#[]⟩,.slice none 0 0,.slice none 0 0,.slice none 0 0] 26):=⟨_,rfl⟩
 have b4:Below w3.heap.size w3 w4:=by rw [hw4];exact belowA _ _
 have hB4:w4.heap[o]? = some (.cells #[.int .i64 3,.int .i64 0,.string ⟨#[]⟩,.slice none 0 0,.slice none 0 0,.slice none 0 0,.int .i64 3,.int .i64 0,.string ⟨#[]⟩,.slice none 0 0,.slice none 0 0,.slice none 0 0] 26 (0,0)):=by rw [hw4,ho];exact heapNew _ _
 have s4:w4.heap.size=o+1:=by rw [hw4,ho];simp
 have hS4:=hS3.blw b4
 have zz:=zz.blw b4
 have hk4:KdT (fun q=>q=o) w4 (TmIn (fun q=>q=o) w4) [wU,wU] (.slice (some ⟨o,0,none⟩) 2 2):=kd_two hB4 rfl (wU_at _ _) (wU_at _ _)
 have c4:=node_any 15 (some ⟨o,0,none⟩) 2 2 w4
 have hoX:X+1≤o:=by omega
 have b14:=b13.trans (b4.mono b13.size)
 have H4:Hid (_=_):=hw4
 have Ho:Hid (_=_):=ho
 clear hw4 ho hS1 hS3 hB4 b2 b3 b4 b13 x1
 go_wp2_with fail
 rw [← H4.out]
 simp only [← Ho.out]
 refine c4.mono ?_
 rintro e w5 ⟨rfl,b5⟩
 clear c4 H4
 have hS5:=hS4.blw b5
 have hk5:=hk4.blw b5
 have zz:=zz.blw b5
 have s5:=b5.size
 have b15:=b14.trans (b5.mono b14.size)
 obtain⟨Y,hY⟩:∃ Y,Y=w5.heap.size:=⟨_,rfl⟩
 obtain⟨w6,hw6⟩:∃ W,W=w5.alloc (.cells #[.int .i64 15,.int .i64 0,.string ⟨#[]⟩,.slice none 0 0,.slice (some ⟨o,0,none⟩) 2 2,.slice none 0 0] 26):=⟨_,rfl⟩
 have b6:Below w5.heap.size w5 w6:=by rw [hw6];exact belowA _ _
 have z6:Six w6 Y (.int .i64 15) (.int .i64 0) (.string ⟨#[]⟩) (.slice none 0 0) (.slice (some ⟨o,0,none⟩) 2 2) (.slice none 0 0):=⟨by rw [hw6,hY];exact heapNew _ _⟩
 have s6:w6.heap.size=Y+1:=by rw [hw6,hY];simp
 obtain⟨y0,y1,y2,y3,y4,y5,yf⟩:=z6.cells
 have g5:=yf 5
 obtain⟨w7,hw7⟩:∃ W,W=w6.setCell ⟨Y,5,none⟩ (.slice sa LS sc):=⟨_,rfl⟩
 have z7:Six w7 Y (.int .i64 15) (.int .i64 0) (.string ⟨#[]⟩) (.slice none 0 0) (.slice (some ⟨o,0,none⟩) 2 2) (.slice sa LS sc):=by rw [hw7];exact z6.set5 _
 have k7:Kn (fun q=>q≠Y) w6 w7:=by rw [hw7];exact kn_set _ _ _ _
 have hYo:o+1≤Y:=by omega
 have zz:=(zz.blw b6).kn k7 (by omega)
 have hS7:=(hS5.blw b6).kn k7 (fun q h=>by have:=h.2;omega)
 have hk7:=(hk5.blw b6).kn k7 (fun q h=>by omega)
 have s7:=k7.size
 have b16:=b15.trans (b6.mono b15.size)
 have hB7:Below X w w7:=by
  have q1:Below w.heap.size w w6:=Hb1.out.trans (b16.mono Hb1.out.size)
  rw [HX.out]
  exact q1.trans (k7.below (fun q hq=>by have:=HX.out;omega) q1.size)
 have H6:Hid (_=_):=hw6
 have H7:Hid (_=_):=hw7
 have HY:Hid (_=_):=hY
 clear hw6 hw7 hY z6 yf k7 b6 hS4 hS5 hk4 hk5 b5 b14 b15 b16
 go_upto_region 2 with fail
 rw [← H6.out]
 simp only [← HY.out]
 go_upto_region 3 with fail
 rw [← H7.out]
 clear H6 H7 HY y0 y1 y2 y3 y4 y5 g5
 obtain⟨y0,y1,y2,y3,y4,y5,_⟩:=z7.cells
 obtain⟨w8,hwz,zz2,kz,o0,o1,o2,o3,o4,o5,f0,f1,f2,f3,f4,f5⟩:=zst zz (.int .i64 15) (.int .i64 0) (.string ⟨#[]⟩) (.slice none 0 0) (.slice (some ⟨o,0,none⟩) 2 2) (.slice sa LS sc)
 have hS8:=hS7.kn kz (fun q h=>by have:=h.2;omega)
 have hk8:=hk7.kn kz (fun q h=>by omega)
 have s8:=kz.size
 have hF:Hid (TmIn (fun q=>P q∨(X≤q∧q<w8.heap.size)) w8 (hcT l) (.agg #[.int .i64 15,.int .i64 0,.string ⟨#[]⟩,.slice none 0 0,.slice (some ⟨o,0,none⟩) 2 2,.slice sa LS sc])):=.mk _ _ _ _ _ _ _ _ _ ⟨by decide,by decide⟩ ⟨by decide,by decide⟩ (cl_nil _ _) (hk8.ltA fun q h hs=>.inr ⟨by omega,hs⟩) (hS8.ltA fun q h _=>.inl h.1)
 have hBf:Below X w w8:=hB7.trans (kz.below (fun q hq=>by omega) (by have:=hB7.size;have:=HX.out;omega))
 obtain⟨h0,h1,h2,h3,h4,h5,_⟩:=zz2.cells
 have Hwz:Hid (_=_):=hwz
 clear hwz kz zz zz2 hS7 hk7 hS8 hk8 hB7
 go_wp2_with fail
 rw [← Hwz.out]
 exact bodyPost_ret (v:=.agg #[.int .i64 15,.int .i64 0,.string ⟨#[]⟩,.slice none 0 0,.slice (some ⟨o,0,none⟩) 2 2,.slice sa LS sc]) (by simp only [results,Tryz.results30];simp [go_sem,h0,h1,h2,h3,h4,h5]) rfl ⟨_,rfl,hF.out,hBf⟩
def varT (n:Int):Tm:=.mk 1 n ⟨#[]⟩ [] [] []
theorem var_in (ok:Nat→Prop) (n:Int) (hn:I64 n) (w:World):TmIn ok w (varT n) (.agg #[.int .i64 1,.int .i64 n,.string ⟨#[]⟩,.slice none 0 0,.slice none 0 0,.slice none 0 0]) :=
 .mk _ _ _ _ _ _ _ _ _ ⟨by decide,by decide⟩ hn (cl_nil _ w) (kt_nil _ w _) (sy_nil _ w _)
theorem variable_any (n:Int) (w:World) :
  Calls Tryz.prog 67 #[.int .i64 n] w fun e w'=>e=.returned (.agg #[.int .i64 1,.int .i64 n,.string ⟨#[]⟩,.slice none 0 0,.slice none 0 0,.slice none 0 0])∧Below w.heap.size w w':=by
 obtain⟨w1,hw1⟩:∃ W,W=w.alloc (.cells #[.int .i64 0,.int .i64 0,.string ⟨#[]⟩,.slice none 0 0,.slice none 0 0,.slice none 0 0] 26):=⟨_,rfl⟩
 have b1:Below w.heap.size w w1:=by rw [hw1];exact belowA _ _
 obtain⟨X,hX⟩:∃ X,X=w.heap.size:=⟨_,rfl⟩
 have s1:w1.heap.size=X+1:=by rw [hw1,hX];simp
 have x1:Six w1 (X) (.int .i64 0) (.int .i64 0) (.string ⟨#[]⟩) (.slice none 0 0) (.slice none 0 0) (.slice none 0 0):=⟨by
  rw [hX,hw1]
  have q:=heapNew w (.cells #[.int .i64 0,.int .i64 0,.string ⟨#[]⟩,.slice none 0 0,.slice none 0 0,.slice none 0 0] 26)
  try simp only [World.size_alloc] at q
  exact q⟩
 have HW:Hid (_=_):=hw1
 have HX:Hid (X=w.heap.size):=hX
 have Hb1:Hid (Below w.heap.size w w1):=b1
 clear hw1 hX b1
 go_enter Tryz.func67,Tryz.ntmps67
 go_upto_region 1 with fail
 rw [← HW.out]
 simp only [← HX.out]
 clear HW
 have zz:=x1
 obtain⟨w4,hwz,zz2,kz,o0,o1,o2,o3,o4,o5,f0,f1,f2,f3,f4,f5⟩:=zst zz (.int .i64 1) (.int .i64 n) (.string ⟨#[]⟩) (.slice none 0 0) (.slice none 0 0) (.slice none 0 0)
 have hK4:Below w.heap.size w w4:=Hb1.out.trans (kz.below (fun q hq=>by have:=HX.out;omega) (by have:=Hb1.out.size;omega))
 obtain⟨h0,h1,h2,h3,h4,h5,_⟩:=zz2.cells
 have Hwz:Hid (_=_):=hwz
 clear hwz kz zz zz2
 go_wp2_with fail
 rw [← Hwz.out]
 exact bodyPost_ret (v:=.agg #[.int .i64 1,.int .i64 n,.string ⟨#[]⟩,.slice none 0 0,.slice none 0 0,.slice none 0 0]) (by simp only [results,Tryz.results67];simp [go_sem,h0,h1,h2,h3,h4,h5]) rfl ⟨rfl,hK4⟩
def cntU (listed:Array Bool):Nat→Nat
 | 0=>0
 | m+1=>cntU listed m+if listed.getD m true=false then 1 else 0
theorem getD_set {l:Array Bool} {i j:Nat} (hi:i<l.size):(l.setIfInBounds i true).getD j true=if j=i then true else l.getD j true:=by
 unfold Array.getD
 by_cases hj:j<l.size
 ·have hj':j<(l.setIfInBounds i true).size:=by simpa using hj
  rw [dif_pos hj',dif_pos hj]
  by_cases e:j=i
  ·subst e;rw [if_pos rfl];simp
  ·rw [if_neg e]
   show (l.setIfInBounds i true)[j]=l[j]
   rw [Array.getElem_setIfInBounds hj,if_neg (fun h=>e h.symm)]
 ·have hj':¬ j<(l.setIfInBounds i true).size:=by simpa using hj
  rw [dif_neg hj',dif_neg hj]
  split <;> rfl
theorem cntU_zero {l:Array Bool}:∀ {m:Nat},cntU l m=0→∀ j,j<m→l.getD j true=true
 | 0,_,j,hj=>by omega
 | m+1,h,j,hj=>by
  unfold cntU at h
  by_cases e:l.getD m true=false
  ·rw [if_pos e] at h;omega
  ·rcases Nat.lt_or_ge j m with q|q
   ·exact cntU_zero (by omega) j q
   ·obtain rfl:j=m:=by omega
    simpa using e
theorem cntU_all {l:Array Bool}:∀ {m:Nat},(∀ j,j<m→l.getD j true=true)→cntU l m=0
 | 0,_=>rfl
 | m+1,h=>by
  unfold cntU
  rw [cntU_all (fun j hj=>h j (by omega)),h m (by omega)]
  rfl
theorem cntU_high {l:Array Bool} {i:Nat} (hi:i<l.size):∀ {m:Nat},m≤i→cntU (l.setIfInBounds i true) m=cntU l m
 | 0,_=>rfl
 | m+1,h=>by
  have e:(l.setIfInBounds i true).getD m true=l.getD m true:=by rw [getD_set hi,if_neg (by omega)]
  unfold cntU
  rw [cntU_high hi (by omega),e]
theorem cntU_set {l:Array Bool} {i:Nat} (hi:i<l.size) (hf:l.getD i true=false):∀ {m:Nat},i<m→cntU l m=cntU (l.setIfInBounds i true) m+1
 | 0,h=>by omega
 | m+1,h=>by
  rcases Nat.lt_or_ge i m with q|q
  ·have e:(l.setIfInBounds i true).getD m true=l.getD m true:=by rw [getD_set hi,if_neg (by omega)]
   have e2:=cntU_set hi hf q
   unfold cntU
   rw [e,e2];omega
  ·obtain rfl:i=m:=by omega
   have e:(l.setIfInBounds i true).getD i true=true:=by rw [getD_set hi,if_pos rfl]
   have e2:=cntU_high hi (Nat.le_refl i)
   unfold cntU
   rw [e,e2,hf]
   rfl
theorem least_false {l:Array Bool}:∀ {m:Nat},cntU l m≠0→∃ i,i<m∧l.getD i true=false∧∀ j,j<i→l.getD j true=true
 | 0,h=>absurd rfl h
 | m+1,h=>by
  by_cases e:cntU l m=0
  ·refine⟨m,by omega,?_,cntU_zero e⟩
   unfold cntU at h
   rw [e] at h
   by_cases q:l.getD m true=false
   ·exact q
   ·rw [if_neg q] at h;exact absurd rfl h
  ·obtain⟨i,h1,h2,h3⟩:=least_false e
   exact⟨i,by omega,h2,h3⟩
def slv (ops:Array Oper) (i:Nat) (a:Act):Value:=match (ops[i]?).bind (·.dst) with
  | some d=>a.tmps.getD d undef
  | none=>undef
def regChk (ops:Array Oper) (m:Nat):Bool :=
  decide (m≤ops.size) && (List.range ops.size).all fun i=>match ops[i]? with
    | none=>false
    | some o => o.guard.isNone && (o.after.all fun e => !Region.binds .any e || decide (e.on < i)) &&
        (if i<m then (match o.dst with
          | none=>true
          | some d=>(List.range i).all fun j=>match (ops[j]?).bind (·.dst) with
            | some d'=>decide (d'≠d)
            | none=>true)
         else (List.range m).all fun j=>o.after.any fun e=>Region.binds .any e && decide (e.on=j))
theorem ready_iff {md:Region.Mode} {ops:Array Oper} {listed:Array Bool} {i:Nat} (hi:i∈Region.ready md ops listed):i<ops.size∧listed.getD i true=false∧∃ o,ops[i]? = some o∧∀ e∈o.after,Region.binds md e=true→listed.getD e.on false=true:=by
 unfold Region.ready at hi
 rw [List.mem_filter] at hi
 obtain⟨h1,h2⟩:=hi
 rw [List.mem_range] at h1
 rw [Bool.and_eq_true] at h2
 refine⟨h1,by simpa using h2.1,ops[i],by simp [h1],fun e he hb=>?_⟩
 have h3:=h2.2
 rw [Array.getElem?_eq_getElem h1] at h3
 simp only [Option.map_some,Option.getD_some,Array.all_eq_true] at h3
 obtain⟨k,hk,rfl⟩:=Array.mem_iff_getElem.1 he
 have:=h3 k hk
 rw [hb] at this
 simpa using this
theorem ready_of {md:Region.Mode} {ops:Array Oper} {listed:Array Bool} {i:Nat} {o:Oper} (ho:ops[i]? = some o) (h1:listed.getD i true=false) (h2:∀ e∈o.after,Region.binds md e=true→listed.getD e.on false=true):i∈Region.ready md ops listed:=by
 have hlt:=(Array.getElem?_eq_some_iff.1 ho).1
 unfold Region.ready
 rw [List.mem_filter,List.mem_range]
 refine⟨hlt,?_⟩
 rw [h1,ho]
 simp only [Bool.not_false,Bool.true_and,Option.map_some,Option.getD_some,Array.all_eq_true]
 intro k hk
 by_cases hb:Region.binds md o.after[k]=true
 ·rw [h2 _ (Array.getElem_mem hk) hb];simp
 ·simp at hb;rw [hb];rfl
theorem chk_at {ops:Array Oper} {m i:Nat} {o:Oper} (hc:regChk ops m=true) (ho:ops[i]? = some o):o.guard=none∧(∀ e∈o.after,Region.binds .any e=true→e.on<i) ∧
  (i<m→∀ d,o.dst=some d→∀ j oj,j<i→ops[j]? = some oj→oj.dst≠some d)∧(m≤i→∀ j,j<m→∃ e∈o.after,Region.binds .any e=true∧e.on=j):=by
 unfold regChk at hc
 rw [Bool.and_eq_true,List.all_eq_true] at hc
 have h:=hc.2 i (List.mem_range.2 (Array.getElem?_eq_some_iff.1 ho).1)
 rw [ho] at h
 simp only [Bool.and_eq_true] at h
 obtain⟨⟨h1,h2⟩,h3⟩:=h
 refine⟨by simpa using h1,fun e he hb=>?_,fun hi=>?_,fun hi j hj=>?_⟩
 ·obtain⟨k,hk,rfl⟩:=Array.mem_iff_getElem.1 he
  have:=(Array.all_eq_true.1 h2) k hk
  rw [hb] at this
  simpa using this
 ·rw [if_pos hi] at h3
  intro d hd j oj hj hoj e
  rw [hd] at h3
  have:=(List.all_eq_true.1 h3) j (List.mem_range.2 hj)
  rw [hoj] at this
  simp [e] at this
 ·rw [if_neg (by omega)] at h3
  have:=(List.all_eq_true.1 h3) j (List.mem_range.2 hj)
  obtain⟨k,hk,he⟩:=Array.any_eq_true.1 this
  rw [Bool.and_eq_true] at he
  exact⟨_,Array.getElem_mem hk,he.1,by simpa using he.2⟩
def upto (ops:Array Oper) (m:Nat) (l:Array Bool):Prop:=l.size=ops.size∧(∀ i,i<m→l.getD i true=true)∧∀ i,m≤i→i<ops.size→l.getD i true=false
theorem region_inv {γ:Type} {P:Program} {ops:Array Oper} {Q:Exit→Act→World→Prop} (m:Nat) (F:Nat→Value→γ→World→Prop) (Sh:Act→Prop) (Base:γ→World→Prop) (Ch:γ→World→γ→World→Prop)
  (hchk:regChk ops m=true)
  (hSz:∀ a,Sh a→∀ i o d,i<m→ops[i]? = some o→o.dst=some d→d<a.tmps.size)
  (hSh:∀ a i o v,i<m→ops[i]? = some o→Sh a→Sh (a.put o.dst v))
  (stab:∀ i v G w G' w',Ch G w G' w'→F i v G w→F i v G' w')
  (step:∀ i,i<m→∀ o,ops[i]? = some o→∀ a G w,Base G w→Sh a→(∀ e∈o.after,Region.binds .any e=true→F e.on (slv ops e.on a) G w)→o.wp P a w (fun a' w'=>∃ v G',a'=a.put o.dst v∧(o.dst=none→v=undef)∧Base G' w'∧Ch G w G' w'∧F i v G' w') Q)
  (hend:∀ l a G w,upto ops m l→Base G w→Sh a→(∀ i,i<m→F i (slv ops i a) G w)→wpAny P .any ops Q (ops.size - m) l a w) :
  ∀ (c:Nat) (l:Array Bool) (a:Act) (G:γ) (w:World),cntU l m=c→l.size=ops.size→(∀ i,m≤i→i<ops.size→l.getD i true=false)→Base G w→Sh a→(∀ i,i<m→l.getD i true=true→F i (slv ops i a) G w)→wpAny P .any ops Q (ops.size - m+c) l a w:=by
 have hm:m≤ops.size:=by
  unfold regChk at hchk
  rw [Bool.and_eq_true] at hchk
  simpa using hchk.1
 intro c
 induction c with
 | zero=>intro l a G w h1 h2 h3 h4 h5 h6;exact hend l a G w ⟨h2,cntU_zero h1,h3⟩ h4 h5 fun i hi=>h6 i hi (cntU_zero h1 i hi)
 | succ c ih =>
  intro l a G w h1 h2 h3 h4 h5 h6
  refine⟨fun hr=>?_,fun i hi=>?_⟩
  ·exfalso
   obtain⟨i,g1,g2,g3⟩:=least_false (l:=l) (m:=m) (by omega)
   have ho:ops[i]? = some ops[i]:=Array.getElem?_eq_getElem (by omega)
   obtain⟨_,c2,_⟩:=chk_at hchk ho
   have:=ready_of (md:=.any) ho g2 fun e he hb=>by
    have hlt:=c2 e he hb
    have:=g3 _ hlt
    unfold Array.getD at this ⊢
    rw [dif_pos (by omega)] at this ⊢
    exact this
   rw [hr] at this
   cases this
  ·obtain⟨g1,g2,o,ho,g3⟩:=ready_iff hi
   obtain⟨c1,c2,c3,c4⟩:=chk_at hchk ho
   have him:i<m:=by
    rcases Nat.lt_or_ge i m with q|q
    ·exact q
    ·have:cntU l m=0:=cntU_all fun j hj=>by
      obtain⟨e,e1,e2,e3⟩:=c4 q j hj
      have:=g3 e e1 e2
      rw [e3] at this
      unfold Array.getD at this ⊢
      rw [dif_pos (by omega)] at this ⊢
      exact this
     omega
   have hlt:∀ e∈o.after,Region.binds .any e=true→e.on<m∧l.getD e.on true=true:=fun e he hb=>by
    have q1:=c2 e he hb
    have q2:=g3 e he hb
    refine⟨by omega,?_⟩
    unfold Array.getD at q2 ⊢
    rw [dif_pos (by omega)] at q2 ⊢
    exact q2
   have st:=step i him o ho a G w h4 h5 fun e he hb=>h6 _ (hlt e he hb).1 (hlt e he hb).2
   unfold wpOp
   rw [ho]
   have hw:Region.wanted o (yielded ops a.tmps)=true:=by unfold Region.wanted;rw [c1]
   dsimp only
   rw [if_pos hw]
   refine .inl (Oper.wp_mono (fun a' w' h=>?_) st)
   obtain⟨v,G',rfl,bu,b1,b2,b3⟩:=h
   have hcu:=cntU_set (by omega) g2 him
   refine ih _ _ G' _ (by omega) (by simpa using h2) (fun j hj1 hj2=>?_) b1 (hSh a i o v him ho h5) (fun j hj hlj=>?_)
   ·rw [getD_set (by omega),if_neg (by omega)];exact h3 j hj1 hj2
   ·rw [getD_set (by omega)] at hlj
    by_cases e:j=i
    ·subst e
     have:slv ops j (a.put o.dst v)=v:=by
      unfold slv
      rw [ho]
      cases hd:o.dst with
      | none=>simp only [Option.bind_some,hd];exact (bu hd).symm
      | some d =>
       have hdl:=hSz a h5 j o d him ho hd
       simp only [Option.bind_some,hd]
       simp [Act.put,Array.getD,hdl]
     rw [this]
     exact b3
    ·rw [if_neg e] at hlj
     have hoj:ops[j]? = some ops[j]:=Array.getElem?_eq_getElem (by omega)
     obtain⟨_,_,c3',_⟩:=chk_at hchk hoj
     have:slv ops j (a.put o.dst v)=slv ops j a:=by
      unfold slv
      rw [hoj]
      cases hd:o.dst with
      | none=>rfl
      | some d =>
      cases hd':(ops[j]).dst with
      | none=>simp only [Option.bind_some,hd']
      | some d' =>
      have hne:d≠d':=fun q=>by
       rcases Nat.lt_or_ge j i with z|z
       ·exact c3 him d hd j _ z hoj (by rw [hd',q])
       ·exact c3' hj d' hd' i o (by omega) ho (by rw [hd,q])
      simp only [Option.bind_some,hd']
      show (a.tmps.setIfInBounds d v).getD d' undef=a.tmps.getD d' undef
      unfold Array.getD
      by_cases hz:d' < a.tmps.size
      ·have hz':d' < (a.tmps.setIfInBounds d v).size:=by simpa using hz
       rw [dif_pos hz',dif_pos hz]
       show (a.tmps.setIfInBounds d v)[d']=a.tmps[d']
       rw [Array.getElem_setIfInBounds hz,if_neg hne]
      ·have hz':¬ d' < (a.tmps.setIfInBounds d v).size:=by simpa using hz
       rw [dif_neg hz',dif_neg hz]
     rw [this]
     exact stab j _ G w G' w' b2 (h6 j hj hlj)
theorem region_invL {γ:Type} {P:Program} {ops:Array Oper} {Q:Exit→Act→World→Prop} (m:Nat) (F:Nat→Value→γ→World→Prop) (Sh:Act→Prop) (Base:Array Bool→γ→World→Prop) (Ch:γ→World→γ→World→Prop)
  (hchk:regChk ops m=true)
  (hSz:∀ a,Sh a→∀ i o d,i<m→ops[i]? = some o→o.dst=some d→d<a.tmps.size)
  (hSh:∀ a i o v,i<m→ops[i]? = some o→Sh a→Sh (a.put o.dst v))
  (stab:∀ i v G w G' w',Ch G w G' w'→F i v G w→F i v G' w')
  (step:∀ i,i<m→∀ o,ops[i]? = some o→∀ l a G w,i<l.size→l.getD i true=false→Base l G w→Sh a→(∀ e∈o.after,Region.binds .any e=true→F e.on (slv ops e.on a) G w)→o.wp P a w (fun a' w'=>∃ v G',a'=a.put o.dst v∧(o.dst=none→v=undef)∧Base (l.setIfInBounds i true) G' w'∧Ch G w G' w'∧F i v G' w') Q)
  (hend:∀ l a G w,upto ops m l→Base l G w→Sh a→(∀ i,i<m→F i (slv ops i a) G w)→wpAny P .any ops Q (ops.size - m) l a w) :
  ∀ (c:Nat) (l:Array Bool) (a:Act) (G:γ) (w:World),cntU l m=c→l.size=ops.size→(∀ i,m≤i→i<ops.size→l.getD i true=false)→Base l G w→Sh a→(∀ i,i<m→l.getD i true=true→F i (slv ops i a) G w)→wpAny P .any ops Q (ops.size - m+c) l a w:=by
 have hm:m≤ops.size:=by
  unfold regChk at hchk
  rw [Bool.and_eq_true] at hchk
  simpa using hchk.1
 intro c
 induction c with
 | zero=>intro l a G w h1 h2 h3 h4 h5 h6;exact hend l a G w ⟨h2,cntU_zero h1,h3⟩ h4 h5 fun i hi=>h6 i hi (cntU_zero h1 i hi)
 | succ c ih =>
  intro l a G w h1 h2 h3 h4 h5 h6
  refine⟨fun hr=>?_,fun i hi=>?_⟩
  ·exfalso
   obtain⟨i,g1,g2,g3⟩:=least_false (l:=l) (m:=m) (by omega)
   have ho:ops[i]? = some ops[i]:=Array.getElem?_eq_getElem (by omega)
   obtain⟨_,c2,_⟩:=chk_at hchk ho
   have:=ready_of (md:=.any) ho g2 fun e he hb=>by
    have hlt:=c2 e he hb
    have:=g3 _ hlt
    unfold Array.getD at this ⊢
    rw [dif_pos (by omega)] at this ⊢
    exact this
   rw [hr] at this
   cases this
  ·obtain⟨g1,g2,o,ho,g3⟩:=ready_iff hi
   obtain⟨c1,c2,c3,c4⟩:=chk_at hchk ho
   have him:i<m:=by
    rcases Nat.lt_or_ge i m with q|q
    ·exact q
    ·have:cntU l m=0:=cntU_all fun j hj=>by
      obtain⟨e,e1,e2,e3⟩:=c4 q j hj
      have:=g3 e e1 e2
      rw [e3] at this
      unfold Array.getD at this ⊢
      rw [dif_pos (by omega)] at this ⊢
      exact this
     omega
   have hlt:∀ e∈o.after,Region.binds .any e=true→e.on<m∧l.getD e.on true=true:=fun e he hb=>by
    have q1:=c2 e he hb
    have q2:=g3 e he hb
    refine⟨by omega,?_⟩
    unfold Array.getD at q2 ⊢
    rw [dif_pos (by omega)] at q2 ⊢
    exact q2
   have st:=step i him o ho l a G w (by omega) g2 h4 h5 fun e he hb=>h6 _ (hlt e he hb).1 (hlt e he hb).2
   unfold wpOp
   rw [ho]
   have hw:Region.wanted o (yielded ops a.tmps)=true:=by unfold Region.wanted;rw [c1]
   dsimp only
   rw [if_pos hw]
   refine .inl (Oper.wp_mono (fun a' w' h=>?_) st)
   obtain⟨v,G',rfl,bu,b1,b2,b3⟩:=h
   have hcu:=cntU_set (by omega) g2 him
   refine ih _ _ G' _ (by omega) (by simpa using h2) (fun j hj1 hj2=>?_) b1 (hSh a i o v him ho h5) (fun j hj hlj=>?_)
   ·rw [getD_set (by omega),if_neg (by omega)];exact h3 j hj1 hj2
   ·rw [getD_set (by omega)] at hlj
    by_cases e:j=i
    ·subst e
     have:slv ops j (a.put o.dst v)=v:=by
      unfold slv
      rw [ho]
      cases hd:o.dst with
      | none=>simp only [Option.bind_some,hd];exact (bu hd).symm
      | some d =>
       have hdl:=hSz a h5 j o d him ho hd
       simp only [Option.bind_some,hd]
       simp [Act.put,Array.getD,hdl]
     rw [this]
     exact b3
    ·rw [if_neg e] at hlj
     have hoj:ops[j]? = some ops[j]:=Array.getElem?_eq_getElem (by omega)
     obtain⟨_,_,c3',_⟩:=chk_at hchk hoj
     have:slv ops j (a.put o.dst v)=slv ops j a:=by
      unfold slv
      rw [hoj]
      cases hd:o.dst with
      | none=>rfl
      | some d =>
      cases hd':(ops[j]).dst with
      | none=>simp only [Option.bind_some,hd']
      | some d' =>
      have hne:d≠d':=fun q=>by
       rcases Nat.lt_or_ge j i with z|z
       ·exact c3 him d hd j _ z hoj (by rw [hd',q])
       ·exact c3' hj d' hd' i o (by omega) ho (by rw [hd,q])
      simp only [Option.bind_some,hd']
      show (a.tmps.setIfInBounds d v).getD d' undef=a.tmps.getD d' undef
      unfold Array.getD
      by_cases hz:d' < a.tmps.size
      ·have hz':d' < (a.tmps.setIfInBounds d v).size:=by simpa using hz
       rw [dif_pos hz',dif_pos hz]
       show (a.tmps.setIfInBounds d v)[d']=a.tmps[d']
       rw [Array.getElem_setIfInBounds hz,if_neg hne]
      ·have hz':¬ d' < (a.tmps.setIfInBounds d v).size:=by simpa using hz
       rw [dif_neg hz',dif_neg hz]
     rw [this]
     exact stab j _ G w G' w' b2 (h6 j hj hlj)
def OkG (g:Nat) (G:List Nat) (q:Nat):Prop:=g<q∧q ∉ G
def ChG (g:Nat) (G:List Nat) (w:World) (G':List Nat) (w':World):Prop:=Kn (Ng g) w w'∧(G'=G∨G'=w.heap.size :: G)
theorem okg_st {g:Nat} {G G':List Nat} {w:World} {q:Nat} (h:OkG g G q) (hq:q<w.heap.size) (hG:G'=G∨G'=w.heap.size :: G):OkG g G' q:=by
 refine⟨h.1,?_⟩
 rcases hG with rfl|rfl
 ·exact h.2
 ·intro e
  rcases List.mem_cons.1 e with e|e
  ·omega
  ·exact h.2 e
theorem tm_st {g:Nat} {G G':List Nat} {w w':World} {t:Tm} {v:Value} (h:TmIn (OkG g G) w t v) (c:ChG g G w G' w'):TmIn (OkG g G') w' t v :=
 ((h.lt' (ok':=fun q=>OkG g G' q∧q<w.heap.size) fun q h1 h2=>⟨okg_st h1 h2 c.2,h2⟩).kn c.1 fun q hq=>by have:=hq.1.1;show q≠g;omega).up fun q hq=>hq.1
theorem kd_st {g:Nat} {G G':List Nat} {w w':World} {l:List Tm} {v:Value} (h:KdT (OkG g G) w (TmIn (OkG g G) w) l v) (c:ChG g G w G' w'):KdT (OkG g G') w' (TmIn (OkG g G') w') l v :=
 ((h.ltA (ok':=fun q=>OkG g G' q∧q<w.heap.size) fun q h1 h2=>⟨okg_st h1 h2 c.2,h2⟩).kn c.1 fun q hq=>by have:=hq.1.1;show q≠g;omega).all (Nat.le_refl _) (fun q hq=>hq.1) (fun _ _ _=>rfl)
theorem cl_st {g:Nat} {G G':List Nat} {w w':World} {l:List C} {v:Value} (h:ClRow (OkG g G) w l v) (c:ChG g G w G' w'):ClRow (OkG g G') w' l v :=
 (h.lt' (ok':=fun q=>OkG g G' q∧q<w.heap.size) fun q h1 h2=>⟨okg_st h1 h2 c.2,h2⟩).keep c.1.size (fun q hq=>hq.1) (fun q hq hs=>c.1.block q (by have:=hq.1.1;show q≠g;omega) hs)
theorem ch_refl (g:Nat) (G:List Nat) (w:World):ChG g G w G w:=⟨Kn.refl _ _,.inl rfl⟩
theorem ch_of {g:Nat} {G:List Nat} {w w':World} (h:Kn (Ng g) w w'):ChG g G w G w':=⟨h,.inl rfl⟩
def BaG (g:Nat) (w0:World) (G:List Nat) (w:World):Prop:=Mk w g 0∧Kn (Ng g) w0 w∧∀ o,o∈G→w0.heap.size≤o∧o<w.heap.size
theorem ba_kn {g:Nat} {w0 w w':World} {G:List Nat} (h:BaG g w0 G w) (hk:Kn (Ng g) w w') (hM:Mk w' g 0):BaG g w0 G w':=⟨hM,h.2.1.trans hk,fun o e=>⟨(h.2.2 o e).1,by have:=(h.2.2 o e).2;have:=hk.size;omega⟩⟩
theorem ba_blw {g:Nat} {w0 w w':World} {G:List Nat} (h:BaG g w0 G w) (hb:Below w.heap.size w w'):BaG g w0 G w':=ba_kn h (Kn.of_below hb) (h.1.blw hb)
theorem okg_new {g:Nat} {w0 w:World} {G:List Nat} (h:BaG g w0 G w) (hg:g<w0.heap.size):OkG g G w.heap.size:=by
 refine⟨by have:=h.2.1.size;omega,fun e=>?_⟩
 have:=(h.2.2 _ e).2
 omega
theorem okg_ge {g:Nat} {w0 w:World} {G:List Nat} (h:BaG g w0 G w) (hg:g<w0.heap.size) {q:Nat} (hq:w.heap.size≤q):OkG g G q:=by
 refine⟨by have:=h.2.1.size;omega,fun e=>?_⟩
 have:=(h.2.2 _ e).2
 omega
theorem slot_put {a:Array Value} {d k:Nat} (h:k≠d) (v:Value):(a.setIfInBounds d v)[k]? = a[k]?:=Array.getElem?_setIfInBounds_ne (fun e=>h e.symm)
theorem tail_one {P:Program} {ops:Array Oper} {Q:Exit→Act→World→Prop} {m:Nat} {l:Array Bool} {a:Act} {w:World} {o:Oper} (hc:regChk ops m=true) (hs:ops.size=m+1) (ho:ops[m]? = some o) (hl:upto ops m l) (h:o.wp P a w (fun a' w'=>Q .normal a' w') Q):wpAny P .any ops Q 1 l a w:=by
 obtain⟨c1,c2,_,_⟩:=chk_at hc ho
 have hm:l.getD m true=false:=hl.2.2 m (Nat.le_refl _) (by omega)
 have hr:m∈Region.ready .any ops l:=ready_of ho hm fun e he hb=>by
  have q1:=c2 e he hb
  have q2:=hl.2.1 _ q1
  unfold Array.getD at q2 ⊢
  rw [dif_pos (by have:=hl.1;omega)] at q2 ⊢
  exact q2
 refine⟨fun h0=>(by rw [h0] at hr;cases hr),fun i hi=>?_⟩
 obtain⟨g1,g2,_⟩:=ready_iff hi
 obtain rfl:i=m:=by
  rcases Nat.lt_or_ge i m with q|q
  ·have:=hl.2.1 i q;rw [g2] at this;cases this
  ·omega
 unfold wpOp
 rw [ho]
 dsimp only
 rw [if_pos (by unfold Region.wanted;rw [c1])]
 refine .inl (Oper.wp_mono (fun a' w' h=>⟨?_,h⟩) h)
 refine List.eq_nil_iff_forall_not_mem.2 fun j hj=>?_
 obtain⟨p1,p2,_⟩:=ready_iff hj
 rw [getD_set (by have:=hl.1;omega)] at p2
 by_cases e:j=i
 ·rw [if_pos e] at p2;cases p2
 ·rw [if_neg e] at p2
  have:=hl.2.1 j (by omega)
  rw [p2] at this;cases this
end Go.Proofs.YtmblbmdchinflaaGreat
