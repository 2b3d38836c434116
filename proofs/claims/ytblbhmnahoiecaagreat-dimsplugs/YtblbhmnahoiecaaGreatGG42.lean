/- A formula in a dimension's place, and a term in a variable's, go through one another: the program. -/
import Derived.Test.YtblbhmnahoiecaaGreatGG24
import Derived.Test.YtblbhmnahoiecaaGreatGG39
import Derived.Test.YtblbhmnahoiecaaGreatGYLfD
import Derived.Test.YtblbhmnahoiecaaGreatGYDmW
import Derived.ProofKit
import Derived.OpenShut
import Derived.Lib.SmallJoins
import Derived.Deep.Slices
import Derived.Deep.Strs
import Derived.Test.YtblbhmnahoiecaaGreatGG6
import Derived.Deep.SlicePairs
set_option linter.unusedVariables false
set_option linter.unusedSimpArgs false
set_option maxRecDepth 100000
set_option maxHeartbeats 8000000
namespace Go.Proofs.YtblbhmnahoiecaaGreat
open Go.RowKit
open Go.ChangeShapes Go.WideShapes Go.ChangeAt Go.RowKit
open Go.ChangeShapes Go.WideShapes Go.ChangeAt
theorem lAllQ:LAll:=fun s hs N=>lf_any hs N
theorem wf_I64' {n:Int} (h:(Lit.int .i64 n).wf=true):I64 n:=by
 simp [Lit.wf,IntKind.min,IntKind.max,IntKind.bits,IntKind.signed] at h
 unfold I64
 omega
theorem walk_DimsPlugs (t:Tm) (v0:Value) (u:Tm) (v1:Value) (n:Int) (hwn:(Lit.int .i64 n).wf=true) (i:Int) (hwi:(Lit.int .i64 i).wf=true) (r:List C) (v2:Value) (w:World) (hv0:TmIn Tt w t v0) (hv1:TmIn Tt w u v1) (hr:ClRow Tt w r v2) :
  Calls Tryz.prog 4 #[v0,v1,.int .i64 n,.int .i64 i,v2] w fun e w'=>e=.returned (.bool true)∧Below w.heap.size w w':=by
 have hnI:=wf_I64' hwn
 have hiI:=wf_I64' hwi
 obtain⟨ar,cr,e2,_⟩:=id hr
 subst e2
 obtain⟨LR,hLR⟩:∃ L,L=r.length:=⟨_,rfl⟩
 obtain⟨rat,rct,kat,kct,sat,sct,rfl,ht⟩:=hv0.form
 obtain⟨rau,rcu,kau,kcu,sau,scu,rfl,hu⟩:=hv1.form
 obtain⟨X,hX⟩:∃ X,X=w.heap.size:=⟨_,rfl⟩
 obtain⟨wa,hwa⟩:∃ W,W=w.alloc (.cells #[.int .i64 t.kind,.int .i64 t.n,.string t.name,.slice rat t.r.length rct,.slice kat t.kids.length kct,.slice sat t.sys.length sct] 26):=⟨_,rfl⟩
 have ba:Below w.heap.size w wa:=by rw [hwa];exact belowA _ _
 have sa:wa.heap.size=X+1:=by rw [hwa,hX];simp
 have nt:Six wa X (.int .i64 t.kind) (.int .i64 t.n) (.string t.name) (.slice rat t.r.length rct) (.slice kat t.kids.length kct) (.slice sat t.sys.length sct):=⟨by rw [hwa,hX];exact heapNew _ _⟩
 obtain⟨w1,hw1⟩:∃ W,W=wa.alloc (.cells #[.int .i64 u.kind,.int .i64 u.n,.string u.name,.slice rau u.r.length rcu,.slice kau u.kids.length kcu,.slice sau u.sys.length scu] 26):=⟨_,rfl⟩
 have b1:Below wa.heap.size wa w1:=by rw [hw1];exact belowA _ _
 have nu:Six w1 (X+1) (.int .i64 u.kind) (.int .i64 u.n) (.string u.name) (.slice rau u.r.length rcu) (.slice kau u.kids.length kcu) (.slice sau u.sys.length scu):=⟨by rw [hw1,← sa];exact heapNew _ _⟩
 have b01:=bchain ba b1
 have HS:Hid (∀ V,Below w1.heap.size w1 V→Six V X (.int .i64 t.kind) (.int .i64 t.n) (.string t.name) (.slice rat t.r.length rct) (.slice kat t.kids.length kct) (.slice sat t.sys.length sct)∧Six V (X+1) (.int .i64 u.kind) (.int .i64 u.n) (.string u.name) (.slice rau u.r.length rcu) (.slice kau u.kids.length kcu) (.slice sau u.sys.length scu)∧TmIn Tt V t (.agg #[.int .i64 t.kind,.int .i64 t.n,.string t.name,.slice rat t.r.length rct,.slice kat t.kids.length kct,.slice sat t.sys.length sct])∧TmIn Tt V u (.agg #[.int .i64 u.kind,.int .i64 u.n,.string u.name,.slice rau u.r.length rcu,.slice kau u.kids.length kcu,.slice sau u.sys.length scu])∧Below w.heap.size w V):=fun V q=>⟨(nt.blw b1).blw q,nu.blw q,(ht.blw (bchain b01 q)).value,(hu.blw (bchain b01 q)).value,bchain b01 q⟩
 have HR:Hid (∀ V,Below w1.heap.size w1 V→ClRow Tt V r (.slice ar LR cr)):=fun V q=>by rw [hLR];exact (hr.blw b01).blw q
 have HW:Hid (w1=(w.alloc (.cells #[.int .i64 t.kind,.int .i64 t.n,.string t.name,.slice rat t.r.length rct,.slice kat t.kids.length kct,.slice sat t.sys.length sct] 26)).alloc (.cells #[.int .i64 u.kind,.int .i64 u.n,.string u.name,.slice rau u.r.length rcu,.slice kau u.kids.length kcu,.slice sau u.sys.length scu] 26)):=(by rw [hw1,hwa]:_=_)
 have HX:Hid (X=w.heap.size):=hX
 have HLR:Hid (LR=r.length):=hLR
 have hLA:=lAllQ
 simp only [← hLR]
 clear hwa hw1 hX ba b1 sa nt nu b01 hv0 hv1 ht hu hr hLR
 go_enter Tryz.func4,Tryz.ntmps4
 go_upto_region 1 with fail
 rw [← HW.out]
 simp only [← HX.out]
 clear HW
 have cw:=works13_any w1
 go_wp2_with fail
 refine cw.mono ?_
 rintro e w2 ⟨rfl,b2⟩
 clear cw
 have B2:Below w1.heap.size w1 w2:=b2
 obtain⟨q0,q1,t0,u0,_⟩:=HS.out _ B2
 obtain⟨y0,y1,y2,y3,y4,y5,_⟩:=q0.cells
 have cg:=bulk_any (blk t) 100 100 t _ w2 rfl (by omega) (Nat.le_refl _) t0
 clear q0 q1 t0 u0
 go_wp2_with fail
 refine cg.mono ?_
 rintro e w3 ⟨⟨rt,rfl,r1,r2,r3,r4⟩,b3⟩
 clear cg y0 y1 y2 y3 y4 y5
 have B3:Below w1.heap.size w1 w3:=B2.trans (b3.mono B2.size)
 have HE:Hid ((100<rt↔100<blk t)):=by
  by_cases h:blk t≤100
  ·have:=r1 h;exact⟨fun z=>by omega,fun z=>by omega⟩
  ·have:=r2 (by omega);exact⟨fun z=>by omega,fun z=>by omega⟩
 clear r1 r2 r3 r4
 by_cases hgt:100<rt
 ·have hd:decide ((100:Int) < (rt:Int))=true:=by simp;omega
  have HF:Hid (Below w.heap.size w w3):=(HS.out _ B3).2.2.2.2
  go_wp2_with fail
  go_ret
  exact⟨rfl,HF.out⟩
 have hdt:decide ((100:Int) < (rt:Int))=false:=by simp;omega
 have hbt:blk t≤100:=by have:=HE.out;omega
 clear HE
 obtain⟨q0,q1,t0,u0,_⟩:=HS.out _ B3
 obtain⟨y0,y1,y2,y3,y4,y5,_⟩:=q1.cells
 have cg:=bulk_any (blk u) 100 100 u _ w3 rfl (by omega) (Nat.le_refl _) u0
 clear q0 q1 t0 u0
 go_wp2_with fail
 refine cg.mono ?_
 rintro e w4 ⟨⟨ru,rfl,r1,r2,r3,r4⟩,b4⟩
 clear cg y0 y1 y2 y3 y4 y5
 have B4:Below w1.heap.size w1 w4:=B3.trans (b4.mono B3.size)
 have HE:Hid ((100<ru↔100<blk u)):=by
  by_cases h:blk u≤100
  ·have:=r1 h;exact⟨fun z=>by omega,fun z=>by omega⟩
  ·have:=r2 (by omega);exact⟨fun z=>by omega,fun z=>by omega⟩
 clear r1 r2 r3 r4
 by_cases hgu:100<ru
 ·have hd:decide ((100:Int) < (ru:Int))=true:=by simp;omega
  have HF:Hid (Below w.heap.size w w4):=(HS.out _ B4).2.2.2.2
  go_wp2_with fail
  go_ret
  exact⟨rfl,HF.out⟩
 have hdu:decide ((100:Int) < (ru:Int))=false:=by simp;omega
 have hbu:blk u≤100:=by have:=HE.out;omega
 clear HE
 by_cases hlr:12<LR
 ·have hd:decide ((12:Int) < (LR:Int))=true:=by simp;omega
  have HF:Hid (Below w.heap.size w w4):=(HS.out _ B4).2.2.2.2
  go_wp2_with fail
  go_ret
  exact⟨rfl,HF.out⟩
 have hdl:decide ((12:Int) < (LR:Int))=false:=by simp;omega
 have hrl:r.length≤12:=by have:=HLR.out;omega
 have wt:=wt_of_blk (K:=100) _ t (Nat.le_refl _) hbt
 have wu:=wt_of_blk (K:=100) _ u (Nat.le_refl _) hbu
 obtain⟨A,hA⟩:∃ z,z=plT n t u:=⟨_,rfl⟩
 obtain⟨Bt,hBt⟩:∃ z,z=putT' i r A:=⟨_,rfl⟩
 obtain⟨Cc,hCc⟩:∃ z,z=putT' i r t:=⟨_,rfl⟩
 obtain⟨D,hD⟩:∃ z,z=putT' i r u:=⟨_,rfl⟩
 obtain⟨Z,hZ⟩:∃ z,z=plT n Cc D:=⟨_,rfl⟩
 obtain⟨eA,heA⟩:∃ z,z=plE n t u:=⟨_,rfl⟩
 obtain⟨eB,heB⟩:∃ z,z=putE i r A:=⟨_,rfl⟩
 obtain⟨eC,heC⟩:∃ z,z=putE i r t:=⟨_,rfl⟩
 obtain⟨eD,heD⟩:∃ z,z=putE i r u:=⟨_,rfl⟩
 obtain⟨eZ,heZ⟩:∃ z,z=plE n Cc D:=⟨_,rfl⟩
 have HF0:Hid (eA=0→eB=0→eC=0→eD=0→eZ=0→Bt=Z∧blk Bt≤10000000∧WtP 100000 Bt):=fun g1 g2 g3 g4 g5=>by
  rw [hBt,hA,hZ,hCc,hD]
  refine put_law hbt hbu (by rw [← heA];exact g1) (by rw [← hA,← heB];exact g2) (by rw [← heC];exact g3) (by rw [← heD];exact g4) (by rw [← hCc,← hD,← heZ];exact g5)
 have HwA:Hid (blk A≤10100):=by rw [hA];exact blk_pl hbt hbu
 have HwC:Hid (blk Cc≤6500):=by rw [hCc];exact put_cap hbt
 have HwD:Hid (blk D≤6500):=by rw [hD];exact put_cap hbu
 have HwZ:Hid (blk (putT n D Cc 0 0)≤10000000):=by rw [hCc,hD];exact Nat.le_trans (blk_two hbt hbu) (by decide)
 have Hw0:Hid (WtP 100 t∧WtP 100 u):=⟨wt,wu⟩
 have hTA:Hid (A=plT n t u∧eA=plE n t u):=⟨hA,heA⟩
 have hTB:Hid (Bt=putT' i r A∧eB=putE i r A):=⟨hBt,heB⟩
 have hTC:Hid (Cc=putT' i r t∧eC=putE i r t):=⟨hCc,heC⟩
 have hTD:Hid (D=putT' i r u∧eD=putE i r u):=⟨hD,heD⟩
 have hTZ:Hid (Z=plT n Cc D∧eZ=plE n Cc D):=⟨hZ,heZ⟩
 clear wt wu hA hBt hCc hD hZ heA heB heC heD heZ
 have Bcur:Below w1.heap.size w1 w4:=B4
 have ca:=plat_any hLA t u n hnI _ _ w4 (HS.out _ Bcur).2.2.1 (HS.out _ Bcur).2.2.2.1 (by omega) (by omega) (hsm_any Hw0.out.1 Hw0.out.2)
 rw [← hTA.out.1,← hTA.out.2] at ca
 obtain⟨y0,y1,y2,y3,y4,y5,_⟩:=(HS.out _ Bcur).1.cells
 obtain⟨z0,z1,z2,z3,z4,z5,_⟩:=(HS.out _ Bcur).2.1.cells
 go_wp2_with fail
 refine ca.mono ?_
 rintro e w10 ⟨v10,rfl,hv10,b10⟩
 clear ca y0 y1 y2 y3 y4 y5 z0 z1 z2 z3 z4 z5
 obtain⟨raA,rcA,kaA,kcA,saA,scA,rfl,ht10⟩:=hv10.form
 obtain⟨YA,hYA⟩:∃ Y,Y=w10.heap.size:=⟨_,rfl⟩
 obtain⟨w11,hwA⟩:∃ W,W=w10.alloc (.cells #[.int .i64 A.kind,.int .i64 A.n,.string A.name,.slice raA A.r.length rcA,.slice kaA A.kids.length kcA,.slice saA A.sys.length scA] 26):=⟨_,rfl⟩
 have bn:Below w10.heap.size w10 w11:=by rw [hwA];exact belowA _ _
 have nn:Six w11 YA (.int .i64 A.kind) (.int .i64 A.n) (.string A.name) (.slice raA A.r.length rcA) (.slice kaA A.kids.length kcA) (.slice saA A.sys.length scA):=⟨by rw [hwA,hYA];exact heapNew _ _⟩
 have tt:TmTop Tt w11 A raA rcA kaA kcA saA scA:=(ht10.blw bn).up fun _ _=>trivial
 have HVA:Hid (∀ V,Below w11.heap.size w11 V→Six V YA (.int .i64 A.kind) (.int .i64 A.n) (.string A.name) (.slice raA A.r.length rcA) (.slice kaA A.kids.length kcA) (.slice saA A.sys.length scA)∧TmIn Tt V A (.agg #[.int .i64 A.kind,.int .i64 A.n,.string A.name,.slice raA A.r.length rcA,.slice kaA A.kids.length kcA,.slice saA A.sys.length scA])):=fun V q=>⟨nn.blw q,(tt.blw q).value⟩
 have bst:Below w4.heap.size w4 w11:=bchain b10 bn
 have Bcur:Below w1.heap.size w1 w11:=Bcur.trans (bst.mono Bcur.size)
 have BqA:Below w11.heap.size w11 w11:=Below.refl _ _
 have H8:Hid (_=_):=hwA
 have HYA:Hid (YA=w10.heap.size):=hYA
 clear hwA hYA bn nn tt bst ht10 hv10 b10
 go_upto_region 6 with fail
 rw [← H8.out]
 simp only [← HYA.out]
 clear H8
 have ca:=dput_any A _ w11 (HVA.out _ BqA).2 (by have:=HwA.out;omega) i r _ (HR.out _ Bcur) (by omega)
 rw [← hTB.out.1,← hTB.out.2] at ca
 obtain⟨y0,y1,y2,y3,y4,y5,_⟩:=(HVA.out _ BqA).1.cells
 go_wp2_with fail
 refine ca.mono ?_
 rintro e w12 ⟨v12,rfl,hv12,b12⟩
 clear ca y0 y1 y2 y3 y4 y5
 obtain⟨raBt,rcBt,kaBt,kcBt,saBt,scBt,rfl,ht12⟩:=hv12.form
 obtain⟨YBt,hYBt⟩:∃ Y,Y=w12.heap.size:=⟨_,rfl⟩
 obtain⟨w13,hwBt⟩:∃ W,W=w12.alloc (.cells #[.int .i64 Bt.kind,.int .i64 Bt.n,.string Bt.name,.slice raBt Bt.r.length rcBt,.slice kaBt Bt.kids.length kcBt,.slice saBt Bt.sys.length scBt] 26):=⟨_,rfl⟩
 have bn:Below w12.heap.size w12 w13:=by rw [hwBt];exact belowA _ _
 have nn:Six w13 YBt (.int .i64 Bt.kind) (.int .i64 Bt.n) (.string Bt.name) (.slice raBt Bt.r.length rcBt) (.slice kaBt Bt.kids.length kcBt) (.slice saBt Bt.sys.length scBt):=⟨by rw [hwBt,hYBt];exact heapNew _ _⟩
 have tt:TmTop Tt w13 Bt raBt rcBt kaBt kcBt saBt scBt:=(ht12.blw bn).up fun _ _=>trivial
 have HVBt:Hid (∀ V,Below w13.heap.size w13 V→Six V YBt (.int .i64 Bt.kind) (.int .i64 Bt.n) (.string Bt.name) (.slice raBt Bt.r.length rcBt) (.slice kaBt Bt.kids.length kcBt) (.slice saBt Bt.sys.length scBt)∧TmIn Tt V Bt (.agg #[.int .i64 Bt.kind,.int .i64 Bt.n,.string Bt.name,.slice raBt Bt.r.length rcBt,.slice kaBt Bt.kids.length kcBt,.slice saBt Bt.sys.length scBt])):=fun V q=>⟨nn.blw q,(tt.blw q).value⟩
 have bst:Below w11.heap.size w11 w13:=bchain b12 bn
 have Bcur:Below w1.heap.size w1 w13:=Bcur.trans (bst.mono Bcur.size)
 have BqA:=bchain BqA bst
 have BqBt:Below w13.heap.size w13 w13:=Below.refl _ _
 have H8:Hid (_=_):=hwBt
 have HYBt:Hid (YBt=w12.heap.size):=hYBt
 clear hwBt hYBt bn nn tt bst ht12 hv12 b12
 go_upto_region 7 with fail
 rw [← H8.out]
 simp only [← HYBt.out]
 clear H8
 have ca:=dput_any t _ w13 (HS.out _ Bcur).2.2.1 (by omega) i r _ (HR.out _ Bcur) (by omega)
 rw [← hTC.out.1,← hTC.out.2] at ca
 obtain⟨y0,y1,y2,y3,y4,y5,_⟩:=(HS.out _ Bcur).1.cells
 go_wp2_with fail
 refine ca.mono ?_
 rintro e w14 ⟨v14,rfl,hv14,b14⟩
 clear ca y0 y1 y2 y3 y4 y5
 obtain⟨raCc,rcCc,kaCc,kcCc,saCc,scCc,rfl,ht14⟩:=hv14.form
 obtain⟨YCc,hYCc⟩:∃ Y,Y=w14.heap.size:=⟨_,rfl⟩
 obtain⟨w15,hwCc⟩:∃ W,W=w14.alloc (.cells #[.int .i64 Cc.kind,.int .i64 Cc.n,.string Cc.name,.slice raCc Cc.r.length rcCc,.slice kaCc Cc.kids.length kcCc,.slice saCc Cc.sys.length scCc] 26):=⟨_,rfl⟩
 have bn:Below w14.heap.size w14 w15:=by rw [hwCc];exact belowA _ _
 have nn:Six w15 YCc (.int .i64 Cc.kind) (.int .i64 Cc.n) (.string Cc.name) (.slice raCc Cc.r.length rcCc) (.slice kaCc Cc.kids.length kcCc) (.slice saCc Cc.sys.length scCc):=⟨by rw [hwCc,hYCc];exact heapNew _ _⟩
 have tt:TmTop Tt w15 Cc raCc rcCc kaCc kcCc saCc scCc:=(ht14.blw bn).up fun _ _=>trivial
 have HVCc:Hid (∀ V,Below w15.heap.size w15 V→Six V YCc (.int .i64 Cc.kind) (.int .i64 Cc.n) (.string Cc.name) (.slice raCc Cc.r.length rcCc) (.slice kaCc Cc.kids.length kcCc) (.slice saCc Cc.sys.length scCc)∧TmIn Tt V Cc (.agg #[.int .i64 Cc.kind,.int .i64 Cc.n,.string Cc.name,.slice raCc Cc.r.length rcCc,.slice kaCc Cc.kids.length kcCc,.slice saCc Cc.sys.length scCc])):=fun V q=>⟨nn.blw q,(tt.blw q).value⟩
 have bst:Below w13.heap.size w13 w15:=bchain b14 bn
 have Bcur:Below w1.heap.size w1 w15:=Bcur.trans (bst.mono Bcur.size)
 have BqA:=bchain BqA bst
 have BqBt:=bchain BqBt bst
 have BqCc:Below w15.heap.size w15 w15:=Below.refl _ _
 have H8:Hid (_=_):=hwCc
 have HYCc:Hid (YCc=w14.heap.size):=hYCc
 clear hwCc hYCc bn nn tt bst ht14 hv14 b14
 go_upto_region 8 with fail
 rw [← H8.out]
 simp only [← HYCc.out]
 clear H8
 have ca:=dput_any u _ w15 (HS.out _ Bcur).2.2.2.1 (by omega) i r _ (HR.out _ Bcur) (by omega)
 rw [← hTD.out.1,← hTD.out.2] at ca
 obtain⟨y0,y1,y2,y3,y4,y5,_⟩:=(HS.out _ Bcur).2.1.cells
 go_wp2_with fail
 refine ca.mono ?_
 rintro e w16 ⟨v16,rfl,hv16,b16⟩
 clear ca y0 y1 y2 y3 y4 y5
 obtain⟨raD,rcD,kaD,kcD,saD,scD,rfl,ht16⟩:=hv16.form
 obtain⟨YD,hYD⟩:∃ Y,Y=w16.heap.size:=⟨_,rfl⟩
 obtain⟨w17,hwD⟩:∃ W,W=w16.alloc (.cells #[.int .i64 D.kind,.int .i64 D.n,.string D.name,.slice raD D.r.length rcD,.slice kaD D.kids.length kcD,.slice saD D.sys.length scD] 26):=⟨_,rfl⟩
 have bn:Below w16.heap.size w16 w17:=by rw [hwD];exact belowA _ _
 have nn:Six w17 YD (.int .i64 D.kind) (.int .i64 D.n) (.string D.name) (.slice raD D.r.length rcD) (.slice kaD D.kids.length kcD) (.slice saD D.sys.length scD):=⟨by rw [hwD,hYD];exact heapNew _ _⟩
 have tt:TmTop Tt w17 D raD rcD kaD kcD saD scD:=(ht16.blw bn).up fun _ _=>trivial
 have HVD:Hid (∀ V,Below w17.heap.size w17 V→Six V YD (.int .i64 D.kind) (.int .i64 D.n) (.string D.name) (.slice raD D.r.length rcD) (.slice kaD D.kids.length kcD) (.slice saD D.sys.length scD)∧TmIn Tt V D (.agg #[.int .i64 D.kind,.int .i64 D.n,.string D.name,.slice raD D.r.length rcD,.slice kaD D.kids.length kcD,.slice saD D.sys.length scD])):=fun V q=>⟨nn.blw q,(tt.blw q).value⟩
 have bst:Below w15.heap.size w15 w17:=bchain b16 bn
 have Bcur:Below w1.heap.size w1 w17:=Bcur.trans (bst.mono Bcur.size)
 have BqA:=bchain BqA bst
 have BqBt:=bchain BqBt bst
 have BqCc:=bchain BqCc bst
 have BqD:Below w17.heap.size w17 w17:=Below.refl _ _
 have H8:Hid (_=_):=hwD
 have HYD:Hid (YD=w16.heap.size):=hYD
 clear hwD hYD bn nn tt bst ht16 hv16 b16
 go_upto_region 9 with fail
 rw [← H8.out]
 simp only [← HYD.out]
 clear H8
 have ca:=plat_any hLA Cc D n hnI _ _ w17 (HVCc.out _ BqCc).2 (HVD.out _ BqD).2 (by have:=HwC.out;omega) (by have:=HwD.out;omega) (fun _ _ _=>HwZ.out)
 rw [← hTZ.out.1,← hTZ.out.2] at ca
 obtain⟨y0,y1,y2,y3,y4,y5,_⟩:=(HVCc.out _ BqCc).1.cells
 obtain⟨z0,z1,z2,z3,z4,z5,_⟩:=(HVD.out _ BqD).1.cells
 go_wp2_with fail
 refine ca.mono ?_
 rintro e w18 ⟨v18,rfl,hv18,b18⟩
 clear ca y0 y1 y2 y3 y4 y5 z0 z1 z2 z3 z4 z5
 obtain⟨raZ,rcZ,kaZ,kcZ,saZ,scZ,rfl,ht18⟩:=hv18.form
 obtain⟨YZ,hYZ⟩:∃ Y,Y=w18.heap.size:=⟨_,rfl⟩
 obtain⟨w19,hwZ⟩:∃ W,W=w18.alloc (.cells #[.int .i64 Z.kind,.int .i64 Z.n,.string Z.name,.slice raZ Z.r.length rcZ,.slice kaZ Z.kids.length kcZ,.slice saZ Z.sys.length scZ] 26):=⟨_,rfl⟩
 have bn:Below w18.heap.size w18 w19:=by rw [hwZ];exact belowA _ _
 have nn:Six w19 YZ (.int .i64 Z.kind) (.int .i64 Z.n) (.string Z.name) (.slice raZ Z.r.length rcZ) (.slice kaZ Z.kids.length kcZ) (.slice saZ Z.sys.length scZ):=⟨by rw [hwZ,hYZ];exact heapNew _ _⟩
 have tt:TmTop Tt w19 Z raZ rcZ kaZ kcZ saZ scZ:=(ht18.blw bn).up fun _ _=>trivial
 have HVZ:Hid (∀ V,Below w19.heap.size w19 V→Six V YZ (.int .i64 Z.kind) (.int .i64 Z.n) (.string Z.name) (.slice raZ Z.r.length rcZ) (.slice kaZ Z.kids.length kcZ) (.slice saZ Z.sys.length scZ)∧TmIn Tt V Z (.agg #[.int .i64 Z.kind,.int .i64 Z.n,.string Z.name,.slice raZ Z.r.length rcZ,.slice kaZ Z.kids.length kcZ,.slice saZ Z.sys.length scZ])):=fun V q=>⟨nn.blw q,(tt.blw q).value⟩
 have bst:Below w17.heap.size w17 w19:=bchain b18 bn
 have Bcur:Below w1.heap.size w1 w19:=Bcur.trans (bst.mono Bcur.size)
 have BqA:=bchain BqA bst
 have BqBt:=bchain BqBt bst
 have BqCc:=bchain BqCc bst
 have BqD:=bchain BqD bst
 have BqZ:Below w19.heap.size w19 w19:=Below.refl _ _
 have H8:Hid (_=_):=hwZ
 have HYZ:Hid (YZ=w18.heap.size):=hYZ
 clear hwZ hYZ bn nn tt bst ht18 hv18 b18
 go_upto_region 10 with fail
 rw [← H8.out]
 simp only [← HYZ.out]
 clear H8
 have HFw:Hid (Below w.heap.size w w19):=(HS.out _ Bcur).2.2.2.2
 by_cases heA:eA=0
 rotate_left
 ·have g1:(eA == 0)=false:=by simpa using heA
  have g2:(eA != 0)=true:=by simpa using heA
  go_wp2_with fail
  go_ret
  exact⟨rfl,HFw.out⟩
 have geA:(eA != 0)=false:=by simpa using heA
 by_cases heB:eB=0
 rotate_left
 ·have g1:(eB == 0)=false:=by simpa using heB
  have g2:(eB != 0)=true:=by simpa using heB
  go_wp2_with fail
  go_ret
  exact⟨rfl,HFw.out⟩
 have geB:(eB != 0)=false:=by simpa using heB
 by_cases heC:eC=0
 rotate_left
 ·have g1:(eC == 0)=false:=by simpa using heC
  have g2:(eC != 0)=true:=by simpa using heC
  go_wp2_with fail
  go_ret
  exact⟨rfl,HFw.out⟩
 have geC:(eC != 0)=false:=by simpa using heC
 by_cases heD:eD=0
 rotate_left
 ·have g1:(eD == 0)=false:=by simpa using heD
  have g2:(eD != 0)=true:=by simpa using heD
  go_wp2_with fail
  go_ret
  exact⟨rfl,HFw.out⟩
 have geD:(eD != 0)=false:=by simpa using heD
 by_cases heZ:eZ=0
 rotate_left
 ·have g1:(eZ == 0)=false:=by simpa using heZ
  have g2:(eZ != 0)=true:=by simpa using heZ
  go_wp2_with fail
  go_ret
  exact⟨rfl,HFw.out⟩
 have geZ:(eZ != 0)=false:=by simpa using heZ
 obtain⟨f1,f2,f3⟩:=HF0.out heA heB heC heD heZ
 have cs:=rsame_anyB 10000000 Bt Z true _ _ w19 (HVBt.out _ BqBt).2 (HVZ.out _ BqZ).2 f2 f2 f3 ⟨fun _=>f1,fun _=>rfl⟩
 obtain⟨y0,y1,y2,y3,y4,y5,_⟩:=(HVBt.out _ BqBt).1.cells
 obtain⟨z0,z1,z2,z3,z4,z5,_⟩:=(HVZ.out _ BqZ).1.cells
 clear f1 f2 f3
 go_wp2_with fail
 refine cs.mono ?_
 rintro e wz ⟨rfl,bz⟩
 have HF:Hid (Below w.heap.size w wz):=(HS.out _ (Bcur.trans (bz.mono Bcur.size))).2.2.2.2
 clear cs y0 y1 y2 y3 y4 y5 z0 z1 z2 z3 z4 z5
 go_wp2_with fail
 go_ret
 exact⟨rfl,HF.out⟩
section
variable {H:Type} {enc:TypeId × Value→H}
theorem wf_I64 {n:Int} (h:(Lit.int .i64 n).wf=true):I64 n:=by
 simp [Lit.wf,IntKind.min,IntKind.max,IntKind.bits,IntKind.signed] at h
 exact⟨by omega,by omega⟩
theorem cells_term:Tryz.prog.cellsOf 26=6:=by kernel_rfl
theorem cells_branch:Tryz.prog.cellsOf 40=2:=by kernel_rfl
theorem cells_terms:Tryz.prog.cellsOf 23=1:=by kernel_rfl
theorem cells_branches:Tryz.prog.cellsOf 24=1:=by kernel_rfl
theorem cells_cls:Tryz.prog.cellsOf 22=1:=by kernel_rfl
theorem ycells_int:Tryz.prog.cellsOf 3=1:=by kernel_rfl
theorem ycells_str:Tryz.prog.cellsOf 9=1:=by kernel_rfl
theorem open_any {W:World} {fuel:Nat} {cs:List Value} {x:DataW H × List MemPlace} {ts te:TypeId} {k:Nat} (hu:Tryz.prog.underlying ts=some (.slice te)) (hk:Tryz.prog.cellsOf te=k) (hk0:0<k) {T:Type} [Inhabited T] (p:T→List Value→Prop)
  (ih:∀ m,m<fuel→∀ cs x,DataW.trod enc Tryz.prog W 0 (fun _=>true) true m te cs=some x→∃ t,p t cs) (h:DataW.trod enc Tryz.prog W 0 (fun _=>true) true fuel ts cs=some x) :
  ∃ (l:List T) (a:Option Addr) (cap:Nat),cs=[.slice a l.length cap]∧l.length≤cap∧∀ j t,l[j]? = some t→∃ g off cs',a=some ⟨g,off,none⟩∧g<W.heap.size∧p t cs'∧∀ i,i<k→W.cell? ⟨g,off+j*k+i,none⟩=cs'[i]?:=by
 rcases DataW.trod_slice hu h with ⟨rfl,_⟩|⟨a,len,cap,elems,rest,m,rfl,rfl,_,hba,hlc,hcm,hel,hcell,_,_⟩
 ·exact⟨[],none,0,rfl,Nat.le_refl _,fun j t ht=>by simp at ht⟩
 ·have each:∀ i,i<len→∃ (t:T),∃ cs',p t cs'∧cs'.length=k∧∀ j,j<k→W.cell? (a.add (i*k+j))=cs'[j]?:=fun i hi=>by
   have h1:=hcell i hi
   rw [List.getElem?_eq_getElem (by omega),hk] at h1
   obtain⟨cs',h2,h3⟩:=Option.bind_eq_some_iff.1 h1
   obtain⟨t,hp⟩:=ih m (by omega) _ _ h3
   obtain⟨h5,h6,h4⟩:=World.cells?_some h2
   refine⟨t,cs',hp,by first | exact h5 | exact h6 | omega,fun j hj=>?_⟩
   have:=h4 j hj
   rw [Go.Deep.add_add] at this
   exact this
  obtain⟨f,hf⟩:=Go.Deep.choose_lt (p:=fun i t=>∃ cs',p t cs'∧cs'.length=k∧∀ j,j<k→W.cell? (a.add (i*k+j))=cs'[j]?) each
  refine⟨(List.range len).map f,some a,cap,by simp,by simpa using hlc,fun j x hx=>?_⟩
  have hj:j<len:=by
   rcases Nat.lt_or_ge j len with h1|h1
   ·exact h1
   ·rw [List.getElem?_eq_none (by simpa using h1)] at hx;cases hx
  rw [List.getElem?_map,List.getElem?_range hj] at hx
  simp at hx
  subst hx
  obtain⟨cs',hs,hl',hc⟩:=hf j hj
  obtain⟨cs0,_,hl0,hc0⟩:=hf 0 (by omega)
  obtain⟨b,off,spot⟩:=a
  have h0:W.cell? ⟨b,off,spot⟩=some (cs0[0]'(by omega)):=by
   have:=hc0 0 hk0
   rw [List.getElem?_eq_getElem (by omega)] at this
   simpa [Addr.add] using this
  have hspot:spot=none:=World.cell?_spot h0
  subst hspot
  have hb:b<W.heap.size:=World.block_lt_of_cell? _ _ h0
  have e:∀ j',Addr.add ⟨b,off,none⟩ (j*k+j')=⟨b,off+j*k+j',none⟩:=fun j'=>by
   unfold Addr.add
   split
   ·next h9 =>
    have h1:j*k=0:=by omega
    have h2:j'=0:=by omega
    rw [h1,h2];rfl
   ·rw [Nat.add_assoc]
  exact⟨b,off,cs',rfl,hb,hs,fun i hi=>by have:=hc i hi;rw [e] at this;exact this⟩
theorem open_clause1 {W:World} (m:Nat) (cs:List Value) (x:DataW H × List MemPlace) (h:DataW.trod enc Tryz.prog W 0 (fun _=>true) true m 38 cs=some x):∃ c:C,cs=[.int .u32 (c.1.val:Int),.int .u32 (c.2.val:Int)]:=by
 obtain⟨xs,n,rfl,_,hl,hlen,hf⟩:=DataW.trod_struct Tryz.underlying38 h
 rw [Tryz.cellsC] at hl
 match cs,hl with
 | [u0,u1],_ =>
  match xs,hlen with
  | [y0,y1],_ =>
   have e0:DataW.trod enc Tryz.prog W 0 (fun _=>true) true n 36 (([u0,u1].drop 0).take (Tryz.prog.cellsOf 36))=some y0:=hf 0 _ rfl
   have e1:DataW.trod enc Tryz.prog W 0 (fun _=>true) true n 36 (([u0,u1].drop 1).take (Tryz.prog.cellsOf 36))=some y1:=hf 1 _ rfl
   rw [Tryz.cellsU] at e0 e1
   obtain⟨a,i0,_,w0⟩:=DataW.trod_int Tryz.underlying36 e0
   obtain⟨b,i1,_,w1⟩:=DataW.trod_int Tryz.underlying36 e1
   obtain⟨a,rfl⟩:=bounds_wf w0
   obtain⟨b,rfl⟩:=bounds_wf w1
   simp at i0 i1
   subst i0 i1
   exact⟨(a,b),rfl⟩
theorem open_cls {W:World} {fuel:Nat} {cs:List Value} {x:DataW H × List MemPlace} (h:DataW.trod enc Tryz.prog W 0 (fun _=>true) true fuel 22 cs=some x):∃ (l:List C) (v:Value),cs=[v]∧ClRow Tt W l v:=by
 haveI:Inhabited C:=⟨(0,0)⟩
 obtain⟨l,a,cap,rfl,hl,hx⟩:=open_any Tryz.underlying22 Tryz.cellsC (by omega) (fun (c:C) cs=>cs=[.int .u32 (c.1.val:Int),.int .u32 (c.2.val:Int)]) (fun m _=>open_clause1 m) h
 refine⟨l,_,rfl,a,cap,rfl,hl,fun j c hj=>?_⟩
 obtain⟨g,off,cs',ha,hg,rfl,hc⟩:=hx j c hj
 exact⟨g,off,ha,trivial,hg,hc 0 (by omega),hc 1 (by omega)⟩
def TmOf (W:World) (t:Tm) (cs:List Value):Prop:=∃ u0 u1 u2 u3 u4 u5,cs=[u0,u1,u2,u3,u4,u5]∧TmIn Tt W t (.agg #[u0,u1,u2,u3,u4,u5])
instance:Inhabited Tm:=⟨.mk 0 0 ByteArray.empty [] [] []⟩
theorem open_kidsT {W:World} {fuel:Nat} {cs:List Value} {x:DataW H × List MemPlace} (ih:∀ m,m<fuel→∀ cs x,DataW.trod enc Tryz.prog W 0 (fun _=>true) true m 26 cs=some x→∃ t,TmOf W t cs) (h:DataW.trod enc Tryz.prog W 0 (fun _=>true) true fuel 23 cs=some x) :
  ∃ (l:List Tm) (v:Value),cs=[v]∧KdT Tt W (TmIn Tt W) l v:=by
 obtain⟨l,a,cap,rfl,hl,hx⟩:=open_any Tryz.underlying23 cells_term (by omega) (TmOf W) ih h
 refine⟨l,_,rfl,a,cap,rfl,hl,fun j c hj=>?_⟩
 obtain⟨g,off,cs',ha,hg,⟨u0,u1,u2,u3,u4,u5,rfl,ht⟩,hc⟩:=hx j c hj
 exact⟨g,off,u0,u1,u2,u3,u4,u5,ha,trivial,hg,ht,hc 0 (by omega),hc 1 (by omega),hc 2 (by omega),hc 3 (by omega),hc 4 (by omega),hc 5 (by omega)⟩
def BrOf (W:World) (b:List C × List Tm) (cs:List Value):Prop:=∃ vf vk,cs=[vf,vk]∧ClRow Tt W b.1 vf∧KdT Tt W (TmIn Tt W) b.2 vk
theorem open_branch {W:World} {fuel:Nat} (ih:∀ m,m<fuel→∀ cs x,DataW.trod enc Tryz.prog W 0 (fun _=>true) true m 26 cs=some x→∃ t,TmOf W t cs) (cs:List Value) (x:DataW H × List MemPlace) (h:DataW.trod enc Tryz.prog W 0 (fun _=>true) true fuel 40 cs=some x):∃ b,BrOf W b cs:=by
 obtain⟨xs,n,rfl,_,hl,hlen,hf⟩:=DataW.trod_struct Tryz.underlying40 h
 rw [cells_branch] at hl
 match cs,hl with
 | [u0,u1],_ =>
  match xs,hlen with
  | [y0,y1],_ =>
   have e0:DataW.trod enc Tryz.prog W 0 (fun _=>true) true n 22 (([u0,u1].drop 0).take (Tryz.prog.cellsOf 22))=some y0:=hf 0 _ rfl
   have e1:DataW.trod enc Tryz.prog W 0 (fun _=>true) true n 23 (([u0,u1].drop 1).take (Tryz.prog.cellsOf 23))=some y1:=hf 1 _ rfl
   rw [cells_cls] at e0
   rw [cells_terms] at e1
   obtain⟨r,vr,i0,hr⟩:=open_cls e0
   obtain⟨l,vl,i1,hK⟩:=open_kidsT (fun m hm=>ih m (by omega)) e1
   simp at i0 i1
   subst i0 i1
   exact⟨(r,l),_,_,rfl,hr,hK⟩
theorem open_sysT {W:World} {fuel:Nat} {cs:List Value} {x:DataW H × List MemPlace} (ih:∀ m,m<fuel→∀ cs x,DataW.trod enc Tryz.prog W 0 (fun _=>true) true m 26 cs=some x→∃ t,TmOf W t cs) (h:DataW.trod enc Tryz.prog W 0 (fun _=>true) true fuel 24 cs=some x) :
  ∃ (l:List (List C × List Tm)) (v:Value),cs=[v]∧SyT Tt W (TmIn Tt W) l v:=by
 haveI:Inhabited (List C × List Tm):=⟨([],[])⟩
 obtain⟨l,a,cap,rfl,hl,hx⟩:=open_any Tryz.underlying24 cells_branch (by omega) (BrOf W) (fun m hm=>open_branch fun m' hm'=>ih m' (by omega)) h
 refine⟨l,_,rfl,a,cap,rfl,hl,fun j c hj=>?_⟩
 obtain⟨g,off,cs',ha,hg,⟨vf,vk,rfl,hf,hk⟩,hc⟩:=hx j c hj
 exact⟨g,off,vf,vk,ha,trivial,hg,hf,hk,hc 0 (by omega),hc 1 (by omega)⟩
theorem open_tm {W:World}:∀ (fuel:Nat) (cs:List Value) (x:DataW H × List MemPlace),DataW.trod enc Tryz.prog W 0 (fun _=>true) true fuel 26 cs=some x→∃ t,TmOf W t cs:=by
 intro fuel
 induction fuel using Nat.strongRecOn with
 | _ fuel ih =>
  intro cs x h
  obtain⟨xs,n,rfl,_,hl,hlen,hf⟩:=DataW.trod_struct Tryz.underlying26 h
  rw [cells_term] at hl
  match cs,hl with
  | [u0,u1,u2,u3,u4,u5],_ =>
   match xs,hlen with
   | [y0,y1,y2,y3,y4,y5],_ =>
    have e0:DataW.trod enc Tryz.prog W 0 (fun _=>true) true n 3 (([u0,u1,u2,u3,u4,u5].drop 0).take (Tryz.prog.cellsOf 3))=some y0:=hf 0 _ rfl
    have e1:DataW.trod enc Tryz.prog W 0 (fun _=>true) true n 3 (([u0,u1,u2,u3,u4,u5].drop 1).take (Tryz.prog.cellsOf 3))=some y1:=hf 1 _ rfl
    have e2:DataW.trod enc Tryz.prog W 0 (fun _=>true) true n 9 (([u0,u1,u2,u3,u4,u5].drop 2).take (Tryz.prog.cellsOf 9))=some y2:=hf 2 _ rfl
    have e3:DataW.trod enc Tryz.prog W 0 (fun _=>true) true n 22 (([u0,u1,u2,u3,u4,u5].drop 3).take (Tryz.prog.cellsOf 22))=some y3:=hf 3 _ rfl
    have e4:DataW.trod enc Tryz.prog W 0 (fun _=>true) true n 23 (([u0,u1,u2,u3,u4,u5].drop 4).take (Tryz.prog.cellsOf 23))=some y4:=hf 4 _ rfl
    have e5:DataW.trod enc Tryz.prog W 0 (fun _=>true) true n 24 (([u0,u1,u2,u3,u4,u5].drop 5).take (Tryz.prog.cellsOf 24))=some y5:=hf 5 _ rfl
    rw [ycells_int] at e0 e1
    rw [ycells_str] at e2
    rw [cells_cls] at e3
    rw [cells_terms] at e4
    rw [cells_branches] at e5
    obtain⟨k,i0,_,w0⟩:=DataW.trod_int Tryz.underlying3 e0
    obtain⟨nn,i1,_,w1⟩:=DataW.trod_int Tryz.underlying3 e1
    obtain⟨s,i2,_,_⟩:=DataW.trod_string Tryz.underlying9 e2
    obtain⟨r,vr,i3,hr⟩:=open_cls e3
    obtain⟨l,vl,i4,hK⟩:=open_kidsT (fun m hm=>ih m (by omega)) e4
    obtain⟨sy,vs,i5,hS⟩:=open_sysT (fun m hm=>ih m (by omega)) e5
    simp at i0 i1 i2 i3 i4 i5
    subst i0 i1 i2 i3 i4 i5
    exact⟨.mk k nn s r l sy,_,_,_,_,_,_,rfl,.mk _ _ _ _ _ _ _ _ _ (wf_I64 w0) (wf_I64 w1) hr hK hS⟩
theorem open_term1 {W:World} {base:Nat} {v:Value} {d:DataW H} {p:List MemPlace} (hv:Value.okWide Tryz.prog W .any base 26 v) (h:DataW.Trod enc Tryz.prog W 0 (fun _=>true) true 26 v d p):∃ t:Tm,TmIn Tt W t v:=by
 obtain⟨cs,rfl,hsz⟩:=okWide_struct Tryz.underlying26 hv
 obtain⟨fuel,hf⟩:=h
 obtain⟨t,u0,u1,u2,u3,u4,u5,e,hs⟩:=open_tm _ _ _ hf
 have ec:cs=#[u0,u1,u2,u3,u4,u5]:=by
  simp [Value.cells] at e
  rw [← e]
 rw [ec]
 exact⟨t,hs⟩
end
section
variable {H:Type} {enc:TypeId × Value→H}
theorem open_row {W:World} {base:Nat} {v:Value} {d:DataW H} {p:List MemPlace} (hv:Value.okWide Tryz.prog W .any base 22 v) (h:DataW.Trod enc Tryz.prog W 0 (fun _=>true) true 22 v d p):∃ l:List C,ClRow Tt W l v:=by
 obtain⟨a0,len,cap,rfl⟩:=okWide_slice Tryz.underlying22 hv
 obtain⟨fuel,hf⟩:=h
 obtain⟨l,v',e,hs⟩:=open_cls hf
 have ec:Value.slice a0 len cap=v':=by
  simp [Value.cells] at e
  first | exact e | exact e.symm
 rw [ec]
 exact⟨l,hs⟩
end
end Go.Proofs.YtblbhmnahoiecaaGreat
