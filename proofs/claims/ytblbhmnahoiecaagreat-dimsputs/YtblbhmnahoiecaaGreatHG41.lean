/- A part of the proof. -/
import Derived.Test.YtblbhmnahoiecaaGreatHYRpU
import Derived.Test.YtblbhmnahoiecaaGreatHG40
set_option linter.unusedVariables false
set_option linter.unusedSimpArgs false
set_option maxRecDepth 100000
set_option maxHeartbeats 8000000
namespace Go.Proofs.YtblbhmnahoiecaaGreat
open Go.RowKit
open Go.ChangeShapes Go.WideShapes Go.ChangeAt Go.RowKit
theorem wf_I64' {n:Int} (h:(Lit.int .i64 n).wf=true):I64 n:=by
 simp [Lit.wf,IntKind.min,IntKind.max,IntKind.bits,IntKind.signed] at h
 unfold I64
 omega
theorem noT_blk:blk noT<=65:=Nat.le_trans (cap_ge noT).1 noT_cap
theorem ans_cap {o:DOp} (ho:o.len64) (t:Tm):capT (ansD o t)<=65*blk t:=by
 unfold ansD
 split
 ·exact Nat.le_trans (cap_dT ho t 0) (cap_ge t).2
 ·have:=blk_pos t;exact Nat.le_trans noT_cap (by omega)
theorem put_capG {i:Int} {r:List C} {t:Tm}:blk (putT' i r t)<=65*blk t:=by
 unfold putT'
 split
 ·exact Nat.le_trans (cap_ge _).1 (ans_cap (putOp_len i r) t)
 ·have:=blk_pos t;exact Nat.le_trans noT_blk (by omega)
theorem tak_capG {i:Int} {r:List C} {t:Tm}:blk (takT i r t)<=65*blk t:=by
 have hn:blk noT<=65*blk t:=by have:=blk_pos t;exact Nat.le_trans noT_blk (by omega)
 unfold takT
 split
 ·split
  ·split
   ·refine Nat.le_trans (cap_ge _).1 ?_
    rename_i h
    unfold ansD
    rw [if_pos h,if_pos (e_dropR _ _ _)]
    refine Nat.le_trans (cap_dT (dropOp_len i) _ 0) ?_
    exact Nat.le_trans (cap_dT (putOp_len _ _) t 0) (cap_ge t).2
   ·exact hn
  ·exact hn
 ·exact hn
theorem okn_ok {b:Nat} {w w':World} (h:Below w.heap.size w w') {q:Nat} (hq:OkN b w q):OkN b w' q:=hq.same (h.block q hq.lt)
theorem walk_DimsPuts (t:Tm) (v0:Value) (i:Int) (hwi:(Lit.int .i64 i).wf=true) (r:List C) (v2:Value) (w:World) (hv0:TmIn Tt w t v0) (hr:ClRow Tt w r v2) :
  Calls Tryz.prog 3 #[v0,.int .i64 i,v2] w fun e w'=>e=.returned (.bool true)/\Below w.heap.size w w':=by
 have hiI:=wf_I64' hwi
 obtain⟨ar,cr,e2,_⟩:=id hr
 subst e2
 obtain⟨LR,hLR⟩:∃ L,L=r.length:=⟨_,rfl⟩
 obtain⟨rat,rct,kat,kct,sat,sct,rfl,ht⟩:=hv0.form
 obtain⟨X,hX⟩:∃ X,X=w.heap.size:=⟨_,rfl⟩
 obtain⟨w1,hw1⟩:∃ W,W=w.alloc (.cells #[.int .i64 t.kind,.int .i64 t.n,.string t.name,.slice rat t.r.length rct,.slice kat t.kids.length kct,.slice sat t.sys.length sct] 26):=⟨_,rfl⟩
 have b1:Below w.heap.size w w1:=by rw [hw1];exact belowA _ _
 have nt:Six w1 X (.int .i64 t.kind) (.int .i64 t.n) (.string t.name) (.slice rat t.r.length rct) (.slice kat t.kids.length kct) (.slice sat t.sys.length sct):=⟨by rw [hw1,hX];exact heapNew _ _⟩
 have HS:Hid (∀ V,Below w1.heap.size w1 V->Six V X (.int .i64 t.kind) (.int .i64 t.n) (.string t.name) (.slice rat t.r.length rct) (.slice kat t.kids.length kct) (.slice sat t.sys.length sct)/\TmIn Tt V t (.agg #[.int .i64 t.kind,.int .i64 t.n,.string t.name,.slice rat t.r.length rct,.slice kat t.kids.length kct,.slice sat t.sys.length sct])/\Below w.heap.size w V):=fun V q=>⟨nt.blw q,((ht.blw b1).blw q).value,bchain b1 q⟩
 have HLt:Hid (∀ V,Below w1.heap.size w1 V->TmIn (fun q=>q<w.heap.size) V t (.agg #[.int .i64 t.kind,.int .i64 t.n,.string t.name,.slice rat t.r.length rct,.slice kat t.kids.length kct,.slice sat t.sys.length sct])):=fun V q=>hv0.lts.keep (bchain b1 q).size (fun _ h=>h) (fun k hk hs=>(bchain b1 q).block k hk)
 have HR:Hid (∀ V,Below w1.heap.size w1 V->ClRow Tt V r (.slice ar LR cr)):=fun V q=>by rw [hLR];exact (hr.blw b1).blw q
 have HW:Hid (w1=w.alloc (.cells #[.int .i64 t.kind,.int .i64 t.n,.string t.name,.slice rat t.r.length rct,.slice kat t.kids.length kct,.slice sat t.sys.length sct] 26)):=hw1
 have HX:Hid (X=w.heap.size):=hX
 have HX2:Hid (w1.heap.size=X+1):=(by rw [hw1,hX];simp:_=_)
 have HLR:Hid (LR=r.length):=hLR
 have cg:=great13r_any t _ w1 ((ht.blw b1).value) ar LR cr
 simp only [<- hLR]
 clear hw1 hX b1 hv0 ht hr hLR
 go_enter Tryz.func3,Tryz.ntmps3
 go_upto_region 1 with fail
 rw [<- HW.out]
 simp only [<- HX.out]
 clear HW
 obtain⟨y0,y1,y2,y3,y4,y5,_⟩:=nt.cells
 clear nt
 go_wp2_with fail
 refine cg.mono ?_
 rintro e w2 ⟨bg,rfl,hbg,b2⟩
 clear cg y0 y1 y2 y3 y4 y5
 have B2:Below w1.heap.size w1 w2:=b2
 cases bg
 rotate_left
 ·have cw:=works13_any w2
  go_wp2_with fail
  refine cw.mono ?_
  rintro e wz ⟨rfl,bz⟩
  have HF:Hid (Below w.heap.size w wz):=(HS.out _ (B2.trans (bz.mono B2.size))).2.2
  clear cw
  go_wp2_with fail
  go_ret
  exact⟨rfl,HF.out⟩
 have HG:Hid (blk t<=200/\r.length<=12):=(by have:=hbg rfl;rw [<- HLR.out];exact this:blk t<=200/\r.length<=12)
 clear hbg
 have HcA:Hid (blk (putT' i r t)<=13000/\blk (takT i r t)<=13000/\blk (ansD (putOp i (liftFF r i 1).1) t)<=40000):=by
  have h1:=put_capG (i:=i) (r:=r) (t:=t)
  have h2:=tak_capG (i:=i) (r:=r) (t:=t)
  have h3:=Nat.le_trans (cap_ge _).1 (ans_cap (putOp_len i (liftFF r i 1).1) t)
  have h4:=HG.out.1
  exact⟨by omega,by omega,by omega⟩
 obtain⟨A,hA⟩:∃ z,z=putT' i r t:=⟨_,rfl⟩
 obtain⟨Cc,hCc⟩:∃ z,z=takT i r t:=⟨_,rfl⟩
 obtain⟨eA,heA⟩:∃ z,z=putE i r t:=⟨_,rfl⟩
 obtain⟨eC,heC⟩:∃ z,z=takE i r t:=⟨_,rfl⟩
 rw [<- hA,<- hCc] at HcA
 have hTA:Hid (A=putT' i r t/\eA=putE i r t):=⟨hA,heA⟩
 have hTC:Hid (Cc=takT i r t/\eC=takE i r t):=⟨hCc,heC⟩
 clear hA hCc heA heC
 have Bcur:Below w1.heap.size w1 w2:=B2
 have ca:=rCopy_any t _ w2 (HS.out _ Bcur).2.1 (by have:=HG.out.1;omega)
 obtain⟨y0,y1,y2,y3,y4,y5,_⟩:=(HS.out _ Bcur).1.cells
 go_wp2_with fail
 refine ca.mono ?_
 rintro e w10 ⟨v10,rfl,hv10,b10⟩
 clear ca y0 y1 y2 y3 y4 y5
 obtain⟨raO,rcO,kaO,kcO,saO,scO,rfl,ht10⟩:=hv10.form
 obtain⟨YO,hYO⟩:∃ Y,Y=w10.heap.size:=⟨_,rfl⟩
 obtain⟨NO,hNO⟩:∃ Y,Y=w2.heap.size:=⟨_,rfl⟩
 have HNO:Hid (NO=w2.heap.size):=hNO
 obtain⟨w11,hwO⟩:∃ W,W=w10.alloc (.cells #[.int .i64 t.kind,.int .i64 t.n,.string t.name,.slice raO t.r.length rcO,.slice kaO t.kids.length kcO,.slice saO t.sys.length scO] 26):=⟨_,rfl⟩
 have bn:Below w10.heap.size w10 w11:=by rw [hwO];exact belowA _ _
 have nn:Six w11 YO (.int .i64 t.kind) (.int .i64 t.n) (.string t.name) (.slice raO t.r.length rcO) (.slice kaO t.kids.length kcO) (.slice saO t.sys.length scO):=⟨by rw [hwO,hYO];exact heapNew _ _⟩
 rw [<- hNO] at ht10
 have tt:TmTop (fun q=>OkN NO w11 q/\q<YO) w11 t raO rcO kaO kcO saO scO:=(ht10.blw bn).up fun q hq=>⟨okn_ok bn hq,by rw [hYO];exact hq.lt⟩
 have HVO:Hid (∀ V,Below w11.heap.size w11 V->Six V YO (.int .i64 t.kind) (.int .i64 t.n) (.string t.name) (.slice raO t.r.length rcO) (.slice kaO t.kids.length kcO) (.slice saO t.sys.length scO)/\TmIn Tt V t (.agg #[.int .i64 t.kind,.int .i64 t.n,.string t.name,.slice raO t.r.length rcO,.slice kaO t.kids.length kcO,.slice saO t.sys.length scO])/\TmTop (fun q=>OkN NO w11 q/\q<YO) V t raO rcO kaO kcO saO scO):=fun V q=>⟨nn.blw q,(tt.blw q).value.up fun _ _=>trivial,tt.blw q⟩
 have HNOw:Hid (w1.heap.size<=NO):=(by rw [hNO];exact Bcur.size:_)
 have hsNO:NO<=w11.heap.size:=by rw [hNO];exact Nat.le_trans b10.size bn.size
 have hYlO:NO<=YO:=by rw [hNO,hYO];exact b10.size
 have hYwO:YO<w11.heap.size:=nn.lt
 have HYwO:Hid (YO<w11.heap.size):=hYwO
 have bst:Below w2.heap.size w2 w11:=bchain b10 bn
 have Bcur:Below w1.heap.size w1 w11:=Bcur.trans (bst.mono Bcur.size)
 have BqO:Below w11.heap.size w11 w11:=Below.refl _ _
 have H8:Hid (_=_):=hwO
 have HYO:Hid (YO=w10.heap.size):=hYO
 clear hwO hYO hNO bn nn tt bst ht10 hv10 b10
 go_upto_region 4 with fail
 rw [<- H8.out]
 simp only [<- HYO.out]
 clear H8
 have ca:=dput_any t _ w11 (HVO.out _ BqO).2.1 (by have:=HG.out.1;omega) i r _ (HR.out _ Bcur) (by have:=HG.out.2;omega)
 rw [<- hTA.out.1,<- hTA.out.2] at ca
 obtain⟨y0,y1,y2,y3,y4,y5,_⟩:=(HVO.out _ BqO).1.cells
 go_wp2_with fail
 refine ca.mono ?_
 rintro e w12 ⟨v12,rfl,hv12,b12⟩
 clear ca y0 y1 y2 y3 y4 y5
 obtain⟨raA,rcA,kaA,kcA,saA,scA,rfl,ht12⟩:=hv12.form
 obtain⟨YA,hYA⟩:∃ Y,Y=w12.heap.size:=⟨_,rfl⟩
 obtain⟨NA,hNA⟩:∃ Y,Y=w11.heap.size:=⟨_,rfl⟩
 have HNA:Hid (NA=w11.heap.size):=hNA
 obtain⟨w13,hwA⟩:∃ W,W=w12.alloc (.cells #[.int .i64 A.kind,.int .i64 A.n,.string A.name,.slice raA A.r.length rcA,.slice kaA A.kids.length kcA,.slice saA A.sys.length scA] 26):=⟨_,rfl⟩
 have bn:Below w12.heap.size w12 w13:=by rw [hwA];exact belowA _ _
 have nn:Six w13 YA (.int .i64 A.kind) (.int .i64 A.n) (.string A.name) (.slice raA A.r.length rcA) (.slice kaA A.kids.length kcA) (.slice saA A.sys.length scA):=⟨by rw [hwA,hYA];exact heapNew _ _⟩
 rw [<- hNA] at ht12
 have tt:TmTop (fun q=>OkN NA w13 q/\q<YA) w13 A raA rcA kaA kcA saA scA:=(ht12.blw bn).up fun q hq=>⟨okn_ok bn hq,by rw [hYA];exact hq.lt⟩
 have HVA:Hid (∀ V,Below w13.heap.size w13 V->Six V YA (.int .i64 A.kind) (.int .i64 A.n) (.string A.name) (.slice raA A.r.length rcA) (.slice kaA A.kids.length kcA) (.slice saA A.sys.length scA)/\TmIn Tt V A (.agg #[.int .i64 A.kind,.int .i64 A.n,.string A.name,.slice raA A.r.length rcA,.slice kaA A.kids.length kcA,.slice saA A.sys.length scA])/\TmTop (fun q=>OkN NA w13 q/\q<YA) V A raA rcA kaA kcA saA scA):=fun V q=>⟨nn.blw q,(tt.blw q).value.up fun _ _=>trivial,tt.blw q⟩
 have HNAw:Hid (w1.heap.size<=NA):=(by rw [hNA];exact Bcur.size:_)
 have hsNA:NA<=w13.heap.size:=by rw [hNA];exact Nat.le_trans b12.size bn.size
 have hYlA:NA<=YA:=by rw [hNA,hYA];exact b12.size
 have hYwA:YA<w13.heap.size:=nn.lt
 have HYwA:Hid (YA<w13.heap.size):=hYwA
 have bst:Below w11.heap.size w11 w13:=bchain b12 bn
 have Bcur:Below w1.heap.size w1 w13:=Bcur.trans (bst.mono Bcur.size)
 have BqO:=bchain BqO bst
 have BqA:Below w13.heap.size w13 w13:=Below.refl _ _
 have H8:Hid (_=_):=hwA
 have HYA:Hid (YA=w12.heap.size):=hYA
 clear hwA hYA hNA bn nn tt bst ht12 hv12 b12
 go_upto_region 5 with fail
 rw [<- H8.out]
 simp only [<- HYA.out]
 clear H8
 have ca:=rputD_any t _ w13 (HS.out _ Bcur).2.1 (by have:=HG.out.1;omega) i hiI r _ (HR.out _ Bcur) (by have:=HG.out.2;omega)
 rw [<- hTA.out.1,<- hTA.out.2] at ca
 obtain⟨y0,y1,y2,y3,y4,y5,_⟩:=(HS.out _ Bcur).1.cells
 go_wp2_with fail
 refine ca.mono ?_
 rintro e w14 ⟨v14,rfl,hv14,b14⟩
 clear ca y0 y1 y2 y3 y4 y5
 obtain⟨raB,rcB,kaB,kcB,saB,scB,rfl,ht14⟩:=hv14.form
 obtain⟨YB,hYB⟩:∃ Y,Y=w14.heap.size:=⟨_,rfl⟩
 obtain⟨NB,hNB⟩:∃ Y,Y=w13.heap.size:=⟨_,rfl⟩
 have HNB:Hid (NB=w13.heap.size):=hNB
 obtain⟨w15,hwB⟩:∃ W,W=w14.alloc (.cells #[.int .i64 A.kind,.int .i64 A.n,.string A.name,.slice raB A.r.length rcB,.slice kaB A.kids.length kcB,.slice saB A.sys.length scB] 26):=⟨_,rfl⟩
 have bn:Below w14.heap.size w14 w15:=by rw [hwB];exact belowA _ _
 have nn:Six w15 YB (.int .i64 A.kind) (.int .i64 A.n) (.string A.name) (.slice raB A.r.length rcB) (.slice kaB A.kids.length kcB) (.slice saB A.sys.length scB):=⟨by rw [hwB,hYB];exact heapNew _ _⟩
 have tt:TmTop Tt w15 A raB rcB kaB kcB saB scB:=(ht14.blw bn).up fun _ _=>trivial
 have HVB:Hid (∀ V,Below w15.heap.size w15 V->Six V YB (.int .i64 A.kind) (.int .i64 A.n) (.string A.name) (.slice raB A.r.length rcB) (.slice kaB A.kids.length kcB) (.slice saB A.sys.length scB)/\TmIn Tt V A (.agg #[.int .i64 A.kind,.int .i64 A.n,.string A.name,.slice raB A.r.length rcB,.slice kaB A.kids.length kcB,.slice saB A.sys.length scB])):=fun V q=>⟨nn.blw q,(tt.blw q).value⟩
 have HNBw:Hid (w1.heap.size<=NB):=(by rw [hNB];exact Bcur.size:_)
 have hsNB:NB<=w15.heap.size:=by rw [hNB];exact Nat.le_trans b14.size bn.size
 have hYlB:NB<=YB:=by rw [hNB,hYB];exact b14.size
 have hYwB:YB<w15.heap.size:=nn.lt
 have HYwB:Hid (YB<w15.heap.size):=hYwB
 have bst:Below w13.heap.size w13 w15:=bchain b14 bn
 have Bcur:Below w1.heap.size w1 w15:=Bcur.trans (bst.mono Bcur.size)
 have BqO:=bchain BqO bst
 have BqA:=bchain BqA bst
 have BqB:Below w15.heap.size w15 w15:=Below.refl _ _
 have H8:Hid (_=_):=hwB
 have HYB:Hid (YB=w14.heap.size):=hYB
 clear hwB hYB hNB bn nn tt bst ht14 hv14 b14
 go_upto_region 6 with fail
 rw [<- H8.out]
 simp only [<- HYB.out]
 clear H8
 have ca:=dtake_any t _ w15 (HVO.out _ BqO).2.1 (by have:=HG.out.1;omega) i r _ (HR.out _ Bcur) (by have:=HG.out.2;omega) HcA.out.2.2
 rw [<- hTC.out.1,<- hTC.out.2] at ca
 obtain⟨y0,y1,y2,y3,y4,y5,_⟩:=(HVO.out _ BqO).1.cells
 go_wp2_with fail
 refine ca.mono ?_
 rintro e w16 ⟨v16,rfl,hv16,b16⟩
 clear ca y0 y1 y2 y3 y4 y5
 obtain⟨raC,rcC,kaC,kcC,saC,scC,rfl,ht16⟩:=hv16.form
 obtain⟨YC,hYC⟩:∃ Y,Y=w16.heap.size:=⟨_,rfl⟩
 obtain⟨NC,hNC⟩:∃ Y,Y=w15.heap.size:=⟨_,rfl⟩
 have HNC:Hid (NC=w15.heap.size):=hNC
 obtain⟨w17,hwC⟩:∃ W,W=w16.alloc (.cells #[.int .i64 Cc.kind,.int .i64 Cc.n,.string Cc.name,.slice raC Cc.r.length rcC,.slice kaC Cc.kids.length kcC,.slice saC Cc.sys.length scC] 26):=⟨_,rfl⟩
 have bn:Below w16.heap.size w16 w17:=by rw [hwC];exact belowA _ _
 have nn:Six w17 YC (.int .i64 Cc.kind) (.int .i64 Cc.n) (.string Cc.name) (.slice raC Cc.r.length rcC) (.slice kaC Cc.kids.length kcC) (.slice saC Cc.sys.length scC):=⟨by rw [hwC,hYC];exact heapNew _ _⟩
 rw [<- hNC] at ht16
 have tt:TmTop (fun q=>OkN NC w17 q/\q<YC) w17 Cc raC rcC kaC kcC saC scC:=(ht16.blw bn).up fun q hq=>⟨okn_ok bn hq,by rw [hYC];exact hq.lt⟩
 have HVC:Hid (∀ V,Below w17.heap.size w17 V->Six V YC (.int .i64 Cc.kind) (.int .i64 Cc.n) (.string Cc.name) (.slice raC Cc.r.length rcC) (.slice kaC Cc.kids.length kcC) (.slice saC Cc.sys.length scC)/\TmIn Tt V Cc (.agg #[.int .i64 Cc.kind,.int .i64 Cc.n,.string Cc.name,.slice raC Cc.r.length rcC,.slice kaC Cc.kids.length kcC,.slice saC Cc.sys.length scC])/\TmTop (fun q=>OkN NC w17 q/\q<YC) V Cc raC rcC kaC kcC saC scC):=fun V q=>⟨nn.blw q,(tt.blw q).value.up fun _ _=>trivial,tt.blw q⟩
 have HNCw:Hid (w1.heap.size<=NC):=(by rw [hNC];exact Bcur.size:_)
 have HNCA:Hid (NA<=NC):=(by rw [hNC,HNA.out];exact BqO.size:_)
 have hsNC:NC<=w17.heap.size:=by rw [hNC];exact Nat.le_trans b16.size bn.size
 have hYlC:NC<=YC:=by rw [hNC,hYC];exact b16.size
 have hYwC:YC<w17.heap.size:=nn.lt
 have HYwC:Hid (YC<w17.heap.size):=hYwC
 have bst:Below w15.heap.size w15 w17:=bchain b16 bn
 have Bcur:Below w1.heap.size w1 w17:=Bcur.trans (bst.mono Bcur.size)
 have BqO:=bchain BqO bst
 have BqA:=bchain BqA bst
 have BqB:=bchain BqB bst
 have BqC:Below w17.heap.size w17 w17:=Below.refl _ _
 have H8:Hid (_=_):=hwC
 have HYC:Hid (YC=w16.heap.size):=hYC
 clear hwC hYC hNC bn nn tt bst ht16 hv16 b16
 go_upto_region 7 with fail
 rw [<- H8.out]
 simp only [<- HYC.out]
 clear H8
 have ca:=rtakeD_any t _ w17 (HS.out _ Bcur).2.1 (by have:=HG.out.1;omega) i hiI r _ (HR.out _ Bcur) (by have:=HG.out.2;omega)
 rw [<- hTC.out.1,<- hTC.out.2] at ca
 obtain⟨y0,y1,y2,y3,y4,y5,_⟩:=(HS.out _ Bcur).1.cells
 go_wp2_with fail
 refine ca.mono ?_
 rintro e w18 ⟨v18,rfl,hv18,b18⟩
 clear ca y0 y1 y2 y3 y4 y5
 obtain⟨raD,rcD,kaD,kcD,saD,scD,rfl,ht18⟩:=hv18.form
 obtain⟨YD,hYD⟩:∃ Y,Y=w18.heap.size:=⟨_,rfl⟩
 obtain⟨ND,hND⟩:∃ Y,Y=w17.heap.size:=⟨_,rfl⟩
 have HND:Hid (ND=w17.heap.size):=hND
 obtain⟨w19,hwD⟩:∃ W,W=w18.alloc (.cells #[.int .i64 Cc.kind,.int .i64 Cc.n,.string Cc.name,.slice raD Cc.r.length rcD,.slice kaD Cc.kids.length kcD,.slice saD Cc.sys.length scD] 26):=⟨_,rfl⟩
 have bn:Below w18.heap.size w18 w19:=by rw [hwD];exact belowA _ _
 have nn:Six w19 YD (.int .i64 Cc.kind) (.int .i64 Cc.n) (.string Cc.name) (.slice raD Cc.r.length rcD) (.slice kaD Cc.kids.length kcD) (.slice saD Cc.sys.length scD):=⟨by rw [hwD,hYD];exact heapNew _ _⟩
 have tt:TmTop Tt w19 Cc raD rcD kaD kcD saD scD:=(ht18.blw bn).up fun _ _=>trivial
 have HVD:Hid (∀ V,Below w19.heap.size w19 V->Six V YD (.int .i64 Cc.kind) (.int .i64 Cc.n) (.string Cc.name) (.slice raD Cc.r.length rcD) (.slice kaD Cc.kids.length kcD) (.slice saD Cc.sys.length scD)/\TmIn Tt V Cc (.agg #[.int .i64 Cc.kind,.int .i64 Cc.n,.string Cc.name,.slice raD Cc.r.length rcD,.slice kaD Cc.kids.length kcD,.slice saD Cc.sys.length scD])):=fun V q=>⟨nn.blw q,(tt.blw q).value⟩
 have HNDw:Hid (w1.heap.size<=ND):=(by rw [hND];exact Bcur.size:_)
 have hsND:ND<=w19.heap.size:=by rw [hND];exact Nat.le_trans b18.size bn.size
 have hYlD:ND<=YD:=by rw [hND,hYD];exact b18.size
 have hYwD:YD<w19.heap.size:=nn.lt
 have HYwD:Hid (YD<w19.heap.size):=hYwD
 have bst:Below w17.heap.size w17 w19:=bchain b18 bn
 have Bcur:Below w1.heap.size w1 w19:=Bcur.trans (bst.mono Bcur.size)
 have BqO:=bchain BqO bst
 have BqA:=bchain BqA bst
 have BqB:=bchain BqB bst
 have BqC:=bchain BqC bst
 have BqD:Below w19.heap.size w19 w19:=Below.refl _ _
 have H8:Hid (_=_):=hwD
 have HYD:Hid (YD=w18.heap.size):=hYD
 clear hwD hYD hND bn nn tt bst ht18 hv18 b18
 go_upto_region 8 with fail
 rw [<- H8.out]
 simp only [<- HYD.out]
 clear H8
 have gA:(eA != eA)=false:=by simp
 have gC:(eC != eC)=false:=by simp
 have cs:=rsame_any (blk A) A A true _ _ w19 (HVA.out _ BqA).2.1 (HVB.out _ BqB).2 (Nat.le_refl _) (by have:=HcA.out.1;omega) ⟨fun _=>rfl,fun _=>rfl⟩
 obtain⟨y0,y1,y2,y3,y4,y5,_⟩:=(HVA.out _ BqA).1.cells
 obtain⟨z0,z1,z2,z3,z4,z5,_⟩:=(HVB.out _ BqB).1.cells
 go_wp2_with fail
 refine cs.mono ?_
 rintro e w20 ⟨rfl,bst⟩
 clear cs y0 y1 y2 y3 y4 y5 z0 z1 z2 z3 z4 z5
 have Bcur:Below w1.heap.size w1 w20:=Bcur.trans (bst.mono Bcur.size)
 have BqO:=bchain BqO bst
 have BqA:=bchain BqA bst
 have BqB:=bchain BqB bst
 have BqC:=bchain BqC bst
 have BqD:=bchain BqD bst
 clear bst
 have cs:=rsame_any (blk Cc) Cc Cc true _ _ w20 (HVC.out _ BqC).2.1 (HVD.out _ BqD).2 (Nat.le_refl _) (by have:=HcA.out.2.1;omega) ⟨fun _=>rfl,fun _=>rfl⟩
 obtain⟨y0,y1,y2,y3,y4,y5,_⟩:=(HVC.out _ BqC).1.cells
 obtain⟨z0,z1,z2,z3,z4,z5,_⟩:=(HVD.out _ BqD).1.cells
 go_wp2_with fail
 refine cs.mono ?_
 rintro e w22 ⟨rfl,bst⟩
 clear cs y0 y1 y2 y3 y4 y5 z0 z1 z2 z3 z4 z5
 have Bcur:Below w1.heap.size w1 w22:=Bcur.trans (bst.mono Bcur.size)
 have BqO:=bchain BqO bst
 have BqA:=bchain BqA bst
 have BqB:=bchain BqB bst
 have BqC:=bchain BqC bst
 have BqD:=bchain BqD bst
 clear bst
 have hNA:NA=w11.heap.size:=HNA.out
 have hNX:X<NA:=by have h1:=HX2.out;have h2:=HNAw.out;omega
 have hNC:NA<=NC:=HNCA.out
 have hNO:YO<NA:=by rw [hNA];exact HYwO.out
 have hwX:w.heap.size<=NA:=by have:=HX.out;omega
 have HOw:Hid (∀ V,Below NA w22 V->Six V X (.int .i64 t.kind) (.int .i64 t.n) (.string t.name) (.slice rat t.r.length rct) (.slice kat t.kids.length kct) (.slice sat t.sys.length sct)/\TmIn Tt V t (.agg #[.int .i64 t.kind,.int .i64 t.n,.string t.name,.slice rat t.r.length rct,.slice kat t.kids.length kct,.slice sat t.sys.length sct])/\Six V YO (.int .i64 t.kind) (.int .i64 t.n) (.string t.name) (.slice raO t.r.length rcO) (.slice kaO t.kids.length kcO) (.slice saO t.sys.length scO)/\TmIn Tt V t (.agg #[.int .i64 t.kind,.int .i64 t.n,.string t.name,.slice raO t.r.length rcO,.slice kaO t.kids.length kcO,.slice saO t.sys.length scO])/\Below w.heap.size w V):=fun V q=>by
  have h1:=(HS.out _ Bcur).1
  have h2:=(HVO.out _ BqO).1
  refine⟨⟨(q.block X hNX).trans h1.blk⟩,(HLt.out _ Bcur).keep q.size (fun _ _=>trivial) (fun k hk hs=>q.block k (by omega)),⟨(q.block YO hNO).trans h2.blk⟩,((HVO.out _ BqO).2.2.value).keep q.size (fun _ _=>trivial) (fun k hk hs=>q.block k (by have:=hk.2;omega)),((HS.out _ Bcur).2.2).trans (q.mono hwX)⟩
 obtain⟨wa,hwa⟩:∃ W,W=w22:=⟨_,rfl⟩
 rw [<- hwa] at Bcur HOw BqO BqA BqB BqC BqD ⊢
 have HA3:Hid (wa.cell? ⟨YA,3,none⟩=some (.slice raA A.r.length rcA)):=(HVA.out _ BqA).1.cells.2.2.2.1
 have HAr:Hid (ClN (OkN NA wa) wa raA A.r.length):=((HVA.out _ BqA).2.2.up (fun q hq=>okn_ok BqA hq.1)).row.cln
 have HC5:Hid (wa.cell? ⟨YC,5,none⟩=some (.slice saC Cc.sys.length scC)):=(HVC.out _ BqC).1.cells.2.2.2.2.2.1
 have HCs:Hid (∀ j,j<Cc.sys.length->∃ g off fa n c,saC=some ⟨g,off,none⟩/\OkN NA wa g/\g≠YC/\wa.cell? ⟨g,off+j*2,none⟩=some (.slice fa n c)):=fun j hj=>by
  obtain⟨b,hb⟩:=someL (l:=Cc.sys) (k:=j) hj
  obtain⟨g,off,fa,fc,kb,kbc,hsa,hok,h21,_,_⟩:=(HVC.out _ BqC).2.2.sys.at hb
  have hg:OkN NC wa g:=okn_ok BqC hok.1
  exact⟨g,off,fa,_,fc,hsa,hg.mono hNC,by have:=hok.2;omega,h21.c0⟩
 obtain⟨RA,hRA⟩:∃ z,z=A.r.length:=⟨_,rfl⟩
 obtain⟨MC,hMC⟩:∃ z,z=Cc.sys.length:=⟨_,rfl⟩
 rw [<- hRA] at HA3 HAr
 rw [<- hMC] at HC5 HCs
 have hRAb:RA<=100000:=by have h1:=(blk_lens A).1;have h2:=HcA.out.1;omega
 have hMCb:MC<=100000:=by have h1:=(blk_lens Cc).2.2.2;have h2:=HcA.out.2.1;omega
 have hNAa:NA<=wa.heap.size:=Nat.le_trans (by rw [hNA];exact Nat.le_refl _) BqO.size
 clear hRA hMC BqO BqA BqB BqC BqD hwa hYwO hYwA hYwB hYwC hYwD hNO hNX
 have x3:=HA3.out
 have x5:=HC5.out
 go_wp2_with fail
 clear x3
 go_loopw [75] (fun u wr=>∃ k:Nat,k<=RA/\u=.int .i64 k/\Sp NA wa wr) (fun u _=>RA - (intOf u).toNat)
 case atStart=>exact⟨0,Nat.zero_le _,rfl,Sp.refl _ _⟩
 case round =>
  obtain⟨wo,hwo⟩:∃ wo,wo=wr:=⟨_,rfl⟩
  subst hwo
  obtain⟨k,hk,rfl,hs⟩:=hrel
  by_cases hlt:k<RA
  ·have hkI:(k:Int) < (RA:Int):=by omega
   have x3:=hs.sl HA3.out
   obtain⟨g,off,x,y,rfl,hg,hgl,c0,c1⟩:=(HAr.out.sp hs) k hlt
   have f0:=hg.soft (off+k*2)
   have hp:=fun m=>hs.put hg.1 c0 m
   clear hg c1
   go_wp2_with fail
   go_roundw
   case rel=>exact⟨k+1,by omega,by go_num,hp _⟩
   case measure=>simp [intOf];omega
  ·have hkI:¬ (k:Int) < (RA:Int):=by omega
   have x5:=hs.sl HC5.out
   have HL0:Hid (∀ j,j<MC->∃ g off fa n c,saC=some ⟨g,off,none⟩/\OkN NA wo g/\g≠YC/\wo.cell? ⟨g,off+j*2,none⟩=some (.slice fa n c)):=fun j hj=>by
    obtain⟨g,off,fa,n,c,h1,h2,h3,h4⟩:=HCs.out j hj
    exact⟨g,off,fa,n,c,h1,h2.sp hs,h3,hs.sl h4⟩
   have HBo:Hid (Below NA wa wo):=hs.below hNAa
   have HX5:Hid (wo.cell? ⟨YC,5,none⟩=some (.slice saC MC scC)):=x5
   clear hs hk hlt
   go_wp2_with fail
   clear x5 hkI
   go_loopw [91] (fun u wr=>∃ k:Nat,k<=MC/\u=.int .i64 k/\Below NA wa wr/\wr.cell? ⟨YC,5,none⟩=some (.slice saC MC scC)/\∀ j,j<MC->∃ g off fa n c,saC=some ⟨g,off,none⟩/\OkN NA wr g/\g≠YC/\wr.cell? ⟨g,off+j*2,none⟩=some (.slice fa n c)) (fun u _=>MC - (intOf u).toNat)
   case atStart=>exact⟨0,Nat.zero_le _,rfl,HBo.out,HX5.out,HL0.out⟩
   case round =>
    obtain⟨wp,hwp⟩:∃ wp,wp=wr:=⟨_,rfl⟩
    subst hwp
    obtain⟨k,hk,rfl,hbp,x5,hcs⟩:=hrel
    by_cases hlt:k<MC
    ·have hkI:(k:Int) < (MC:Int):=by omega
     obtain⟨g,off,fa,n,c,hsa,hg,hgY,c0⟩:=hcs k hlt
     subst hsa
     have f0:=hg.soft (off+k*2)
     obtain⟨ws,hws⟩:∃ W,W=wp.setCell ⟨g,off+k*2,none⟩ (.slice none 0 0):=⟨_,rfl⟩
     have ks:Kn (fun q=>q≠g) wp ws:=by rw [hws];exact kn_set _ _ _ _
     have HBs:Hid (Below NA wa ws):=hbp.trans (ks.below (fun q hq=>by have:=hg.1;omega) (by have:=hbp.size;omega))
     have H5s:Hid (ws.cell? ⟨YC,5,none⟩=some (.slice (some ⟨g,off,none⟩) MC scC)):=by
      rw [hws];exact (World.cell?_setCell_other _ _ _ _ (fun e=>hgY (by injection e))).trans x5
     have HCs2:Hid (∀ j,j<MC->∃ g' off' fa n c,some (⟨g,off,none⟩:Addr)=some ⟨g',off',none⟩/\OkN NA ws g'/\g'≠YC/\ws.cell? ⟨g',off' + j*2,none⟩=some (.slice fa n c)):=fun j hj=>by
      obtain⟨g',off',fa',n',c',h1,h2,h3,h4⟩:=hcs j hj
      have e':g=g'/\off=off':=by simpa using h1
      obtain⟨rfl,rfl⟩:=e'
      have hok:OkN NA ws g:=by
       obtain⟨q1,cs,ty,q2⟩:=hg
       exact⟨q1,_,ty,by rw [hws];exact set_blk q2 _⟩
      by_cases hjk:j=k
      ·subst hjk
       exact⟨g,off,none,0,0,rfl,hok,hgY,by rw [hws];exact World.cell?_setCell_same' _ _ _ (by rw [c0];rfl)⟩
      ·refine⟨g,off,fa',n',c',rfl,hok,hgY,?_⟩
       rw [hws]
       exact (World.cell?_setCell_other _ _ _ _ (fun e=>hjk (by injection e with _ e2 _;omega))).trans h4
     have Hws:Hid (_=_):=hws
     clear hws ks hcs hg hbp
     go_wp2_with fail
     rw [<- Hws.out]
     go_roundw
     case rel=>exact⟨k+1,by omega,by go_num,HBs.out,H5s.out,HCs2.out⟩
     case measure=>simp [intOf];omega
    ·have hkI:¬ (k:Int) < (MC:Int):=by omega
     obtain⟨s1,t1,s2,t2,bw⟩:=HOw.out wp hbp
     have HBw:Hid (Below w.heap.size w wp):=bw
     have cs:=rsame_any (blk t) t t true _ _ wp t2 t1 (Nat.le_refl _) (by have:=HG.out.1;omega) ⟨fun _=>rfl,fun _=>rfl⟩
     obtain⟨y0,y1,y2,y3,y4,y5,_⟩:=s2.cells
     obtain⟨z0,z1,z2,z3,z4,z5,_⟩:=s1.cells
     clear x5 hcs hbp s1 s2 t1 t2 bw
     go_wp2_with fail
     refine cs.mono ?_
     rintro e wq ⟨rfl,bq⟩
     clear cs y0 y1 y2 y3 y4 y5 z0 z1 z2 z3 z4 z5
     have HBq:Hid (Below w.heap.size w wq):=HBw.out.trans (bq.mono HBw.out.size)
     have cw:=works13_any wq
     go_wp2_with fail
     refine cw.mono ?_
     rintro e wz ⟨rfl,bz⟩
     have HF:Hid (Below w.heap.size w wz):=HBq.out.trans (bz.mono HBq.out.size)
     clear cw
     go_wp2_with fail
     go_ret
     exact⟨rfl,HF.out⟩
section
variable {H:Type} {enc:TypeId × Value->H}
theorem wf_I64 {n:Int} (h:(Lit.int .i64 n).wf=true):I64 n:=by
 simp [Lit.wf,IntKind.min,IntKind.max,IntKind.bits,IntKind.signed] at h
 exact⟨by omega,by omega⟩
theorem cells_term:Tryz.prog.cellsOf 26=6:=by kernel_rfl
theorem cells_branch:Tryz.prog.cellsOf 40=2:=by kernel_rfl
theorem cells_terms:Tryz.prog.cellsOf 23=1:=by kernel_rfl
theorem cells_branches:Tryz.prog.cellsOf 24=1:=by kernel_rfl
theorem cells_cls:Tryz.prog.cellsOf 22=1:=by kernel_rfl
theorem ycells_int:Tryz.prog.cellsOf 3=1:=by kernel_rfl
theorem ycells_str:Tryz.prog.cellsOf 9=1:=by kernel_rfl
theorem open_any {W:World} {fuel:Nat} {cs:List Value} {x:DataW H × List MemPlace} {ts te:TypeId} {k:Nat} (hu:Tryz.prog.underlying ts=some (.slice te)) (hk:Tryz.prog.cellsOf te=k) (hk0:0<k) {T:Type} [Inhabited T] (p:T->List Value->Prop)
  (ih:∀ m,m<fuel->∀ cs x,DataW.trod enc Tryz.prog W 0 (fun _=>true) true m te cs=some x->∃ t,p t cs) (h:DataW.trod enc Tryz.prog W 0 (fun _=>true) true fuel ts cs=some x) :
  ∃ (l:List T) (a:Option Addr) (cap:Nat),cs=[.slice a l.length cap]/\l.length<=cap/\∀ j t,l[j]? = some t->∃ g off cs',a=some ⟨g,off,none⟩/\g<W.heap.size/\p t cs'/\∀ i,i<k->W.cell? ⟨g,off+j*k+i,none⟩=cs'[i]?:=by
 rcases DataW.trod_slice hu h with ⟨rfl,_⟩|⟨a,len,cap,elems,rest,m,rfl,rfl,_,hba,hlc,hcm,hel,hcell,_,_⟩
 ·exact⟨[],none,0,rfl,Nat.le_refl _,fun j t ht=>by simp at ht⟩
 ·have each:∀ i,i<len->∃ (t:T),∃ cs',p t cs'/\cs'.length=k/\∀ j,j<k->W.cell? (a.add (i*k+j))=cs'[j]?:=fun i hi=>by
   have h1:=hcell i hi
   rw [List.getElem?_eq_getElem (by omega),hk] at h1
   obtain⟨cs',h2,h3⟩:=Option.bind_eq_some_iff.1 h1
   obtain⟨t,hp⟩:=ih m (by omega) _ _ h3
   obtain⟨h5,h6,h4⟩:=World.cells?_some h2
   refine⟨t,cs',hp,by first | exact h5 | exact h6 | omega,fun j hj=>?_⟩
   have:=h4 j hj
   rw [Go.Deep.add_add] at this
   exact this
  obtain⟨f,hf⟩:=Go.Deep.choose_lt (p:=fun i t=>∃ cs',p t cs'/\cs'.length=k/\∀ j,j<k->W.cell? (a.add (i*k+j))=cs'[j]?) each
  refine⟨(List.range len).map f,some a,cap,by simp,by simpa using hlc,fun j x hx=>?_⟩
  have hj:j<len:=by
   rcases Nat.lt_or_ge j len with h1|h1
   ·exact h1
   ·rw [List.getElem?_eq_none (by simpa using h1)] at hx;cases hx
  rw [List.getElem?_map,List.getElem?_range hj] at hx
  simp at hx
  subst hx
  obtain⟨cs',hs,hl',hc⟩:=hf j hj
  obtain⟨cs0,_,hl0,hc0⟩:=hf 0 (by omega)
  obtain⟨b,off,spot⟩:=a
  have h0:W.cell? ⟨b,off,spot⟩=some (cs0[0]'(by omega)):=by
   have:=hc0 0 hk0
   rw [List.getElem?_eq_getElem (by omega)] at this
   simpa [Addr.add] using this
  have hspot:spot=none:=World.cell?_spot h0
  subst hspot
  have hb:b<W.heap.size:=World.block_lt_of_cell? _ _ h0
  have e:∀ j',Addr.add ⟨b,off,none⟩ (j*k+j')=⟨b,off+j*k+j',none⟩:=fun j'=>by
   unfold Addr.add
   split
   ·next h9 =>
    have h1:j*k=0:=by omega
    have h2:j'=0:=by omega
    rw [h1,h2];rfl
   ·rw [Nat.add_assoc]
  exact⟨b,off,cs',rfl,hb,hs,fun i hi=>by have:=hc i hi;rw [e] at this;exact this⟩
theorem open_clause1 {W:World} (m:Nat) (cs:List Value) (x:DataW H × List MemPlace) (h:DataW.trod enc Tryz.prog W 0 (fun _=>true) true m 38 cs=some x):∃ c:C,cs=[.int .u32 (c.1.val:Int),.int .u32 (c.2.val:Int)]:=by
 obtain⟨xs,n,rfl,_,hl,hlen,hf⟩:=DataW.trod_struct Tryz.underlying38 h
 rw [Tryz.cellsC] at hl
 match cs,hl with
 | [u0,u1],_ =>
  match xs,hlen with
  | [y0,y1],_ =>
   have e0:DataW.trod enc Tryz.prog W 0 (fun _=>true) true n 36 (([u0,u1].drop 0).take (Tryz.prog.cellsOf 36))=some y0:=hf 0 _ rfl
   have e1:DataW.trod enc Tryz.prog W 0 (fun _=>true) true n 36 (([u0,u1].drop 1).take (Tryz.prog.cellsOf 36))=some y1:=hf 1 _ rfl
   rw [Tryz.cellsU] at e0 e1
   obtain⟨a,i0,_,w0⟩:=DataW.trod_int Tryz.underlying36 e0
   obtain⟨b,i1,_,w1⟩:=DataW.trod_int Tryz.underlying36 e1
   obtain⟨a,rfl⟩:=bounds_wf w0
   obtain⟨b,rfl⟩:=bounds_wf w1
   simp at i0 i1
   subst i0 i1
   exact⟨(a,b),rfl⟩
theorem open_cls {W:World} {fuel:Nat} {cs:List Value} {x:DataW H × List MemPlace} (h:DataW.trod enc Tryz.prog W 0 (fun _=>true) true fuel 22 cs=some x):∃ (l:List C) (v:Value),cs=[v]/\ClRow Tt W l v:=by
 haveI:Inhabited C:=⟨(0,0)⟩
 obtain⟨l,a,cap,rfl,hl,hx⟩:=open_any Tryz.underlying22 Tryz.cellsC (by omega) (fun (c:C) cs=>cs=[.int .u32 (c.1.val:Int),.int .u32 (c.2.val:Int)]) (fun m _=>open_clause1 m) h
 refine⟨l,_,rfl,a,cap,rfl,hl,fun j c hj=>?_⟩
 obtain⟨g,off,cs',ha,hg,rfl,hc⟩:=hx j c hj
 exact⟨g,off,ha,trivial,hg,hc 0 (by omega),hc 1 (by omega)⟩
def TmOf (W:World) (t:Tm) (cs:List Value):Prop:=∃ u0 u1 u2 u3 u4 u5,cs=[u0,u1,u2,u3,u4,u5]/\TmIn Tt W t (.agg #[u0,u1,u2,u3,u4,u5])
instance:Inhabited Tm:=⟨.mk 0 0 ByteArray.empty [] [] []⟩
theorem open_kidsT {W:World} {fuel:Nat} {cs:List Value} {x:DataW H × List MemPlace} (ih:∀ m,m<fuel->∀ cs x,DataW.trod enc Tryz.prog W 0 (fun _=>true) true m 26 cs=some x->∃ t,TmOf W t cs) (h:DataW.trod enc Tryz.prog W 0 (fun _=>true) true fuel 23 cs=some x) :
  ∃ (l:List Tm) (v:Value),cs=[v]/\KdT Tt W (TmIn Tt W) l v:=by
 obtain⟨l,a,cap,rfl,hl,hx⟩:=open_any Tryz.underlying23 cells_term (by omega) (TmOf W) ih h
 refine⟨l,_,rfl,a,cap,rfl,hl,fun j c hj=>?_⟩
 obtain⟨g,off,cs',ha,hg,⟨u0,u1,u2,u3,u4,u5,rfl,ht⟩,hc⟩:=hx j c hj
 exact⟨g,off,u0,u1,u2,u3,u4,u5,ha,trivial,hg,ht,hc 0 (by omega),hc 1 (by omega),hc 2 (by omega),hc 3 (by omega),hc 4 (by omega),hc 5 (by omega)⟩
def BrOf (W:World) (b:List C × List Tm) (cs:List Value):Prop:=∃ vf vk,cs=[vf,vk]/\ClRow Tt W b.1 vf/\KdT Tt W (TmIn Tt W) b.2 vk
theorem open_branch {W:World} {fuel:Nat} (ih:∀ m,m<fuel->∀ cs x,DataW.trod enc Tryz.prog W 0 (fun _=>true) true m 26 cs=some x->∃ t,TmOf W t cs) (cs:List Value) (x:DataW H × List MemPlace) (h:DataW.trod enc Tryz.prog W 0 (fun _=>true) true fuel 40 cs=some x):∃ b,BrOf W b cs:=by
 obtain⟨xs,n,rfl,_,hl,hlen,hf⟩:=DataW.trod_struct Tryz.underlying40 h
 rw [cells_branch] at hl
 match cs,hl with
 | [u0,u1],_ =>
  match xs,hlen with
  | [y0,y1],_ =>
   have e0:DataW.trod enc Tryz.prog W 0 (fun _=>true) true n 22 (([u0,u1].drop 0).take (Tryz.prog.cellsOf 22))=some y0:=hf 0 _ rfl
   have e1:DataW.trod enc Tryz.prog W 0 (fun _=>true) true n 23 (([u0,u1].drop 1).take (Tryz.prog.cellsOf 23))=some y1:=hf 1 _ rfl
   rw [cells_cls] at e0
   rw [cells_terms] at e1
   obtain⟨r,vr,i0,hr⟩:=open_cls e0
   obtain⟨l,vl,i1,hK⟩:=open_kidsT (fun m hm=>ih m (by omega)) e1
   simp at i0 i1
   subst i0 i1
   exact⟨(r,l),_,_,rfl,hr,hK⟩
theorem open_sysT {W:World} {fuel:Nat} {cs:List Value} {x:DataW H × List MemPlace} (ih:∀ m,m<fuel->∀ cs x,DataW.trod enc Tryz.prog W 0 (fun _=>true) true m 26 cs=some x->∃ t,TmOf W t cs) (h:DataW.trod enc Tryz.prog W 0 (fun _=>true) true fuel 24 cs=some x) :
  ∃ (l:List (List C × List Tm)) (v:Value),cs=[v]/\SyT Tt W (TmIn Tt W) l v:=by
 haveI:Inhabited (List C × List Tm):=⟨([],[])⟩
 obtain⟨l,a,cap,rfl,hl,hx⟩:=open_any Tryz.underlying24 cells_branch (by omega) (BrOf W) (fun m hm=>open_branch fun m' hm'=>ih m' (by omega)) h
 refine⟨l,_,rfl,a,cap,rfl,hl,fun j c hj=>?_⟩
 obtain⟨g,off,cs',ha,hg,⟨vf,vk,rfl,hf,hk⟩,hc⟩:=hx j c hj
 exact⟨g,off,vf,vk,ha,trivial,hg,hf,hk,hc 0 (by omega),hc 1 (by omega)⟩
theorem open_tm {W:World}:∀ (fuel:Nat) (cs:List Value) (x:DataW H × List MemPlace),DataW.trod enc Tryz.prog W 0 (fun _=>true) true fuel 26 cs=some x->∃ t,TmOf W t cs:=by
 intro fuel
 induction fuel using Nat.strongRecOn with
 | _ fuel ih =>
  intro cs x h
  obtain⟨xs,n,rfl,_,hl,hlen,hf⟩:=DataW.trod_struct Tryz.underlying26 h
  rw [cells_term] at hl
  match cs,hl with
  | [u0,u1,u2,u3,u4,u5],_ =>
   match xs,hlen with
   | [y0,y1,y2,y3,y4,y5],_ =>
    have e0:DataW.trod enc Tryz.prog W 0 (fun _=>true) true n 3 (([u0,u1,u2,u3,u4,u5].drop 0).take (Tryz.prog.cellsOf 3))=some y0:=hf 0 _ rfl
    have e1:DataW.trod enc Tryz.prog W 0 (fun _=>true) true n 3 (([u0,u1,u2,u3,u4,u5].drop 1).take (Tryz.prog.cellsOf 3))=some y1:=hf 1 _ rfl
    have e2:DataW.trod enc Tryz.prog W 0 (fun _=>true) true n 9 (([u0,u1,u2,u3,u4,u5].drop 2).take (Tryz.prog.cellsOf 9))=some y2:=hf 2 _ rfl
    have e3:DataW.trod enc Tryz.prog W 0 (fun _=>true) true n 22 (([u0,u1,u2,u3,u4,u5].drop 3).take (Tryz.prog.cellsOf 22))=some y3:=hf 3 _ rfl
    have e4:DataW.trod enc Tryz.prog W 0 (fun _=>true) true n 23 (([u0,u1,u2,u3,u4,u5].drop 4).take (Tryz.prog.cellsOf 23))=some y4:=hf 4 _ rfl
    have e5:DataW.trod enc Tryz.prog W 0 (fun _=>true) true n 24 (([u0,u1,u2,u3,u4,u5].drop 5).take (Tryz.prog.cellsOf 24))=some y5:=hf 5 _ rfl
    rw [ycells_int] at e0 e1
    rw [ycells_str] at e2
    rw [cells_cls] at e3
    rw [cells_terms] at e4
    rw [cells_branches] at e5
    obtain⟨k,i0,_,w0⟩:=DataW.trod_int Tryz.underlying3 e0
    obtain⟨nn,i1,_,w1⟩:=DataW.trod_int Tryz.underlying3 e1
    obtain⟨s,i2,_,_⟩:=DataW.trod_string Tryz.underlying9 e2
    obtain⟨r,vr,i3,hr⟩:=open_cls e3
    obtain⟨l,vl,i4,hK⟩:=open_kidsT (fun m hm=>ih m (by omega)) e4
    obtain⟨sy,vs,i5,hS⟩:=open_sysT (fun m hm=>ih m (by omega)) e5
    simp at i0 i1 i2 i3 i4 i5
    subst i0 i1 i2 i3 i4 i5
    exact⟨.mk k nn s r l sy,_,_,_,_,_,_,rfl,.mk _ _ _ _ _ _ _ _ _ (wf_I64 w0) (wf_I64 w1) hr hK hS⟩
theorem open_term1 {W:World} {base:Nat} {v:Value} {d:DataW H} {p:List MemPlace} (hv:Value.okWide Tryz.prog W .any base 26 v) (h:DataW.Trod enc Tryz.prog W 0 (fun _=>true) true 26 v d p):∃ t:Tm,TmIn Tt W t v:=by
 obtain⟨cs,rfl,hsz⟩:=okWide_struct Tryz.underlying26 hv
 obtain⟨fuel,hf⟩:=h
 obtain⟨t,u0,u1,u2,u3,u4,u5,e,hs⟩:=open_tm _ _ _ hf
 have ec:cs=#[u0,u1,u2,u3,u4,u5]:=by
  simp [Value.cells] at e
  rw [<- e]
 rw [ec]
 exact⟨t,hs⟩
end
end Go.Proofs.YtblbhmnahoiecaaGreat
