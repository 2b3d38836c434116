/- The equivalence of a type with itself. -/
import Derived.Test.YtmblbmdchinflaaGreatFG27
import Derived.Test.YtmblbmdchinflaaGreatFG35
import Derived.Test.YtmblbmdchinflaaGreatFG32
set_option linter.unusedVariables false
set_option linter.unusedSimpArgs false
set_option maxRecDepth 100000
set_option maxHeartbeats 4000000
namespace Go.Proofs.YtmblbmdchinflaaGreat
open Go.RowKit
def idP (r:List C):Tm:=.mk 13 0 ⟨#[]⟩ r [mkT 10 [varT 0],varT 1,mkT 9 [varT 0]] []
def idCen:Tm:=mkT 8 [varT 0,mkT 12 [varT 0]]
def idInn:Tm:=mkT 12 [idP [e2 0 1]]
def idTo:Tm:=mkT 5 [mkT 12 [mkT 8 [idP [posB 0],idInn]]]
def idAll:Tm:=mkT 8 [mkT 5 [varT 0],mkT 5 [mkT 8 [idCen,idTo]]]
theorem id_formed:doneE 0 idAll=0:=by decide +kernel
theorem id_blk:blk idAll≤20000:=by decide +kernel
theorem at_any (P:Nat→Prop) (r:List C) (vr:Value) (w:World) (hr:ClRow P w r vr) :
  Calls Tryz.prog 66 #[vr] w fun e w'=>∃ v',e=.returned v'∧TmIn (fun q=>P q∨(w.heap.size≤q∧q<w'.heap.size)) w' (idP r) v'∧Below w.heap.size w w':=by
 obtain⟨va,vc,e2,_⟩:=id hr
 subst e2
 obtain⟨w1,hw1⟩:∃ W,W=w.alloc (.cells #[.int .i64 0,.int .i64 0,.string ⟨#[]⟩,.slice none 0 0,.slice none 0 0,.slice none 0 0] 26):=⟨_,rfl⟩
 have b1:Below w.heap.size w w1:=by rw [hw1];exact belowA _ _
 obtain⟨X,hX⟩:∃ X,X=w.heap.size:=⟨_,rfl⟩
 have s1:w1.heap.size=X+1:=by rw [hw1,hX];simp
 have x1:Six w1 (X) (.int .i64 0) (.int .i64 0) (.string ⟨#[]⟩) (.slice none 0 0) (.slice none 0 0) (.slice none 0 0):=⟨by
  rw [hX,hw1]
  have q:=heapNew w (.cells #[.int .i64 0,.int .i64 0,.string ⟨#[]⟩,.slice none 0 0,.slice none 0 0,.slice none 0 0] 26)
  try simp only [World.size_alloc] at q
  exact q⟩
 have hr1:=(hr.lt' (ok':=fun q=>P q∧q<X) (fun q h hs=>⟨h,by rw [hX];exact hs⟩)).blw b1
 obtain⟨LR,hLR⟩:∃ L,L=r.length:=⟨_,rfl⟩
 rw [← hLR] at hr1 ⊢
 have HW:Hid (_=_):=hw1
 have HX:Hid (X=w.heap.size):=hX
 have Hb1:Hid (Below w.heap.size w w1):=b1
 have hK:Below w1.heap.size w1 w1:=Below.refl _ _
 rw [← hX]
 clear hw1 hX b1 hr hLR
 go_enter Tryz.func66,Tryz.ntmps66
 go_upto_region 1 with fail
 rw [← HW.out]
 simp only [← HX.out]
 clear HW
 have geo:∀ q:Nat,X≤q→q≠X→X<q:=fun q h1 h2=>by omega
 have cc:=variable_any 0 w1
 go_wp2_with fail
 refine cc.mono ?_
 rintro e a1 ⟨rfl,ba1⟩
 clear cc
 have hr1:=hr1.blw ba1
 have x1:=x1.blw ba1
 have hK:=hK.trans (ba1.mono hK.size)
 have hza1:=ba1.size
 clear ba1
 obtain⟨qA,hqA⟩:∃ q,q=a1.heap.size:=⟨_,rfl⟩
 obtain⟨a2,ha2⟩:∃ W,W=a1.alloc (.cells #[.int .i64 1,.int .i64 0,.string ⟨#[]⟩,.slice none 0 0,.slice none 0 0,.slice none 0 0] 26):=⟨_,rfl⟩
 have ba2:Below a1.heap.size a1 a2:=by rw [ha2];exact belowA _ _
 have za2:a2.heap[qA]? = some (.cells #[.int .i64 1,.int .i64 0,.string ⟨#[]⟩,.slice none 0 0,.slice none 0 0,.slice none 0 0] 26 (0,0)):=by rw [ha2,hqA];exact heapNew _ _
 have gqA:X<qA:=by have:=hK.size;omega
 have hr1:=hr1.blw ba2
 have x1:=x1.blw ba2
 have hK:=hK.trans (ba2.mono hK.size)
 have hza2:=ba2.size
 have kdA:=kd_one za2 (ok:=fun q=>X<q) gqA (var_in _ 0 ⟨by decide,by decide⟩ _)
 have Ha2:Hid (_=_):=ha2
 have KqA:Hid (_=_):=hqA
 clear ha2 hqA ba2 za2
 have cc:=node_any 10 (some ⟨qA,0,none⟩) 1 1 a2
 go_wp2_with fail
 rw [← Ha2.out]
 try simp only [← KqA.out]
 clear Ha2
 refine cc.mono ?_
 rintro e a3 ⟨rfl,ba3⟩
 clear cc
 have hr1:=hr1.blw ba3
 have x1:=x1.blw ba3
 have kdA:=kdA.blw ba3
 have hK:=hK.trans (ba3.mono hK.size)
 have hza3:=ba3.size
 clear ba3
 have tmA:TmIn (fun q=>X<q) a3 (mkT 10 _) _:=TmIn.mk 10 0 ⟨#[]⟩ [] _ [] _ _ _ ⟨by decide,by decide⟩ ⟨by decide,by decide⟩ (cl_nil _ _) kdA (sy_nil _ _ _)
 clear kdA
 have cc:=variable_any 1 a3
 go_wp2_with fail
 refine cc.mono ?_
 rintro e a4 ⟨rfl,ba4⟩
 clear cc
 have hr1:=hr1.blw ba4
 have x1:=x1.blw ba4
 have tmA:=tmA.blw ba4
 have hK:=hK.trans (ba4.mono hK.size)
 have hza4:=ba4.size
 clear ba4
 have cc:=variable_any 0 a4
 go_wp2_with fail
 refine cc.mono ?_
 rintro e a5 ⟨rfl,ba5⟩
 clear cc
 have hr1:=hr1.blw ba5
 have x1:=x1.blw ba5
 have tmA:=tmA.blw ba5
 have hK:=hK.trans (ba5.mono hK.size)
 have hza5:=ba5.size
 clear ba5
 obtain⟨qB,hqB⟩:∃ q,q=a5.heap.size:=⟨_,rfl⟩
 obtain⟨a6,ha6⟩:∃ W,W=a5.alloc (.cells #[.int .i64 1,.int .i64 0,.string ⟨#[]⟩,.slice none 0 0,.slice none 0 0,.slice none 0 0] 26):=⟨_,rfl⟩
 have ba6:Below a5.heap.size a5 a6:=by rw [ha6];exact belowA _ _
 have za6:a6.heap[qB]? = some (.cells #[.int .i64 1,.int .i64 0,.string ⟨#[]⟩,.slice none 0 0,.slice none 0 0,.slice none 0 0] 26 (0,0)):=by rw [ha6,hqB];exact heapNew _ _
 have gqB:X<qB:=by have:=hK.size;omega
 have hr1:=hr1.blw ba6
 have x1:=x1.blw ba6
 have tmA:=tmA.blw ba6
 have hK:=hK.trans (ba6.mono hK.size)
 have hza6:=ba6.size
 have kdB:=kd_one za6 (ok:=fun q=>X<q) gqB (var_in _ 0 ⟨by decide,by decide⟩ _)
 have Ha6:Hid (_=_):=ha6
 have KqB:Hid (_=_):=hqB
 clear ha6 hqB ba6 za6
 have cc:=node_any 9 (some ⟨qB,0,none⟩) 1 1 a6
 go_wp2_with fail
 rw [← Ha6.out]
 try simp only [← KqB.out]
 clear Ha6
 refine cc.mono ?_
 rintro e a7 ⟨rfl,ba7⟩
 clear cc
 have hr1:=hr1.blw ba7
 have x1:=x1.blw ba7
 have tmA:=tmA.blw ba7
 have kdB:=kdB.blw ba7
 have hK:=hK.trans (ba7.mono hK.size)
 have hza7:=ba7.size
 clear ba7
 have tmB:TmIn (fun q=>X<q) a7 (mkT 9 _) _:=TmIn.mk 9 0 ⟨#[]⟩ [] _ [] _ _ _ ⟨by decide,by decide⟩ ⟨by decide,by decide⟩ (cl_nil _ _) kdB (sy_nil _ _ _)
 clear kdB
 obtain⟨qC,hqC⟩:∃ q,q=a7.heap.size:=⟨_,rfl⟩
 obtain⟨a8,ha8⟩:∃ W,W=a7.alloc (.cells #[.int .i64 10,.int .i64 0,.string ⟨#[]⟩,.slice none 0 0,.slice (some ⟨qA,0,none⟩) 1 1,.slice none 0 0,.int .i64 1,.int .i64 1,.string ⟨#[]⟩,.slice none 0 0,.slice none 0 0,.slice none 0 0,.int .i64 9,.int .i64 0,.string ⟨#[]⟩,.slice none 0 0,.slice (some ⟨qB,0,none⟩) 1 1,.slice none 0 0] 26):=⟨_,rfl⟩
 have ba8:Below a7.heap.size a7 a8:=by rw [ha8];exact belowA _ _
 have za8:a8.heap[qC]? = some (.cells #[.int .i64 10,.int .i64 0,.string ⟨#[]⟩,.slice none 0 0,.slice (some ⟨qA,0,none⟩) 1 1,.slice none 0 0,.int .i64 1,.int .i64 1,.string ⟨#[]⟩,.slice none 0 0,.slice none 0 0,.slice none 0 0,.int .i64 9,.int .i64 0,.string ⟨#[]⟩,.slice none 0 0,.slice (some ⟨qB,0,none⟩) 1 1,.slice none 0 0] 26 (0,0)):=by rw [ha8,hqC];exact heapNew _ _
 have gqC:X<qC:=by have:=hK.size;omega
 have hr1:=hr1.blw ba8
 have x1:=x1.blw ba8
 have tmA:=tmA.blw ba8
 have tmB:=tmB.blw ba8
 have hK:=hK.trans (ba8.mono hK.size)
 have hza8:=ba8.size
 have kdC:=kd_three za8 (ok:=fun q=>X<q) gqC tmA (var_in _ 1 ⟨by decide,by decide⟩ _) tmB
 have Ha8:Hid (_=_):=ha8
 have KqC:Hid (_=_):=hqC
 clear ha8 hqC ba8 za8
 have cc:=node_any 13 (some ⟨qC,0,none⟩) 3 3 a8
 go_wp2_with fail
 rw [← Ha8.out]
 try simp only [← KqC.out]
 clear Ha8
 refine cc.mono ?_
 rintro e a9 ⟨rfl,ba9⟩
 clear cc
 have hr1:=hr1.blw ba9
 have x1:=x1.blw ba9
 have tmA:=tmA.blw ba9
 have tmB:=tmB.blw ba9
 have kdC:=kdC.blw ba9
 have hK:=hK.trans (ba9.mono hK.size)
 have hza9:=ba9.size
 clear ba9
 obtain⟨Y,hY⟩:∃ Y,Y=a9.heap.size:=⟨_,rfl⟩
 obtain⟨w6,hw6⟩:∃ W,W=a9.alloc (.cells #[.int .i64 13,.int .i64 0,.string ⟨#[]⟩,.slice none 0 0,.slice (some ⟨qC,0,none⟩) 3 3,.slice none 0 0] 26):=⟨_,rfl⟩
 have b6:Below a9.heap.size a9 w6:=by rw [hw6];exact belowA _ _
 have z6:Six w6 Y (.int .i64 13) (.int .i64 0) (.string ⟨#[]⟩) (.slice none 0 0) (.slice (some ⟨qC,0,none⟩) 3 3) (.slice none 0 0):=⟨by rw [hw6,hY];exact heapNew _ _⟩
 have s6:Y<w6.heap.size∧w6.heap.size≤Y+1:=by rw [hw6,hY];simp
 obtain⟨y0,y1,y2,y3,y4,y5,yf⟩:=z6.cells
 have g3:=yf 3
 obtain⟨w7,hw7⟩:∃ W,W=w6.setCell ⟨Y,3,none⟩ (.slice va LR vc):=⟨_,rfl⟩
 have z7:Six w7 Y (.int .i64 13) (.int .i64 0) (.string ⟨#[]⟩) (.slice va LR vc) (.slice (some ⟨qC,0,none⟩) 3 3) (.slice none 0 0):=by rw [hw7];exact z6.set3 _
 have k7:Kn (fun q=>q≠Y) w6 w7:=by rw [hw7];exact kn_set _ _ _ _
 have hXY:X<Y:=by have:=hK.size;omega
 have zz:=(x1.blw b6).kn k7 (by omega)
 have hr7:=(hr1.blw b6).kn k7 (fun q h=>by have:=h.2;omega)
 have kd7:=(((kdC.ltA (ok':=fun q=>X<q∧q<Y) (fun q h hs=>⟨h,by rw [hY];exact hs⟩)).blw b6).kn k7 (fun q h=>by omega))
 have s7:=k7.size
 have hB7:Below X w w7:=by
  have q1:Below w.heap.size w a9:=Hb1.out.trans (hK.mono Hb1.out.size)
  have q2:=q1.trans (b6.mono q1.size)
  rw [HX.out]
  exact q2.trans (k7.below (fun q hq=>by have:=HX.out;omega) q2.size)
 have H6:Hid (_=_):=hw6
 have H7:Hid (_=_):=hw7
 have HY:Hid (_=_):=hY
 clear hw6 hw7 hY z6 yf k7 b6 hr1 kdC x1 hK tmA tmB
 go_upto_region 2 with fail
 rw [← H6.out]
 simp only [← HY.out]
 go_upto_region 3 with fail
 rw [← H7.out]
 clear H6 H7 HY y0 y1 y2 y3 y4 y5 g3
 obtain⟨y0,y1,y2,y3,y4,y5,_⟩:=z7.cells
 obtain⟨w8,hwz,zz2,kz,o0,o1,o2,o3,o4,o5,f0,f1,f2,f3,f4,f5⟩:=zst zz (.int .i64 13) (.int .i64 0) (.string ⟨#[]⟩) (.slice va LR vc) (.slice (some ⟨qC,0,none⟩) 3 3) (.slice none 0 0)
 have hr8:=hr7.kn kz (fun q h=>by have:=h.2;omega)
 have kd8:=kd7.kn kz (fun q h=>by omega)
 have s8:=kz.size
 have hF:Hid (TmIn (fun q=>P q∨(X≤q∧q<w8.heap.size)) w8 (idP r) (.agg #[.int .i64 13,.int .i64 0,.string ⟨#[]⟩,.slice va LR vc,.slice (some ⟨qC,0,none⟩) 3 3,.slice none 0 0])):=.mk _ _ _ _ _ _ _ _ _ ⟨by decide,by decide⟩ ⟨by decide,by decide⟩ (hr8.lt' fun q h _=>.inl h.1) (kd8.ltA fun q h hs=>.inr ⟨by omega,hs⟩) (sy_nil _ _ _)
 have hBf:Below X w w8:=hB7.trans (kz.below (fun q hq=>by omega) (by have:=hB7.size;have:=HX.out;omega))
 obtain⟨h0,h1,h2,h3,h4,h5,_⟩:=zz2.cells
 have Hwz:Hid (_=_):=hwz
 clear hwz kz zz zz2 hr7 kd7 hr8 kd8 hB7
 go_wp2_with fail
 rw [← Hwz.out]
 exact bodyPost_ret (v:=.agg #[.int .i64 13,.int .i64 0,.string ⟨#[]⟩,.slice va LR vc,.slice (some ⟨qC,0,none⟩) 3 3,.slice none 0 0]) (by simp only [results,Tryz.results66];simp [go_sem,h0,h1,h2,h3,h4,h5]) rfl ⟨_,rfl,hF.out,hBf⟩
end Go.Proofs.YtmblbmdchinflaaGreat
