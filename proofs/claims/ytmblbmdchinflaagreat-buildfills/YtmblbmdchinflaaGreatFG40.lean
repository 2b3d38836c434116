/- The chapter's examples. -/
import Derived.Test.YtmblbmdchinflaaGreatFYFl
import Derived.Test.YtmblbmdchinflaaGreatFYBdI
import Derived.Test.YtmblbmdchinflaaGreatFG33
import Derived.Test.YtmblbmdchinflaaGreatEG20
import Derived.Test.YtmblbmdchinflaaGreatEYLfD
import Derived.Test.YtmblbmdchinflaaGreatFG32
import Derived.Test.YtmblbmdchinflaaGreatFG35
set_option linter.unusedVariables false
set_option linter.unusedSimpArgs false
set_option maxRecDepth 100000
set_option maxHeartbeats 8000000
namespace Go.Proofs.YtmblbmdchinflaaGreat
open Go.RowKit
theorem mfill0_any (hLA:LAll) (t:Tm) (v1:Value) (a:Tm) (v2:Value) (w:World) (h1:TmIn Tt w t v1) (h2:TmIn Tt w a v2) (hb1:blk t≤150) (hb2:blk a≤150) :
  Calls Tryz.prog 10 #[v1,v2,.slice none 0 0] w fun e w'=>∃ v',e=.returned (.tuple #[v',.int .i64 (fillE t a [])])∧TmIn (fun q=>w.heap.size≤q) w' (fillT t a []) v'∧Below w.heap.size w w' :=
 mfill_any hLA t v1 a v2 [] _ w h1 h2 (sy_nil0 w) hb1 hb2 (by decide +kernel)
def xBs:Tm:=.mk 20 0 ⟨#[]⟩ [] [] []
def xCr:Tm:=.mk 19 0 ⟨#[]⟩ [] [] []
theorem x15_1:runE wU [] xBs=0:=by decide +kernel
theorem x15_2:(runT wU [] xBs).kind=14∧(runT wU [] xBs).r=[negB 0]∧(runT wU [] xBs).kids.length=2∧((runT wU [] xBs).kids[0]?).map Tm.kind=some 3:=by decide +kernel
theorem x15_3:fillE xCr xBs []=0:=by decide +kernel
theorem x15_4:(fillT xCr xBs []).kind=15∧(fillT xCr xBs []).sys.length=1∧((fillT xCr xBs []).sys[0]?).map Prod.fst=some [negB 0]:=by decide +kernel
theorem x15_5:rightN 0 0 idAll=0:=by decide +kernel
theorem x15_6:negB 0=((0,1):C):=by decide +kernel
theorem x15_7:blk wU≤150∧blk xBs≤150∧blk xCr≤150:=by decide +kernel
theorem xBs_in (w:World):TmIn Tt w xBs (.agg #[.int .i64 20,.int .i64 0,.string ⟨#[]⟩,.slice none 0 0,.slice none 0 0,.slice none 0 0]) :=
 .mk _ _ _ _ _ _ _ _ _ ⟨by decide,by decide⟩ ⟨by decide,by decide⟩ (cl_nil0 w) (kd_nil0 w) (sy_nil0 w)
theorem xCr_in (w:World):TmIn Tt w xCr (.agg #[.int .i64 19,.int .i64 0,.string ⟨#[]⟩,.slice none 0 0,.slice none 0 0,.slice none 0 0]) :=
 .mk _ _ _ _ _ _ _ _ _ ⟨by decide,by decide⟩ ⟨by decide,by decide⟩ (cl_nil0 w) (kd_nil0 w) (sy_nil0 w)
theorem rowd_in (w:World) (g:Nat) (h:w.heap[g]? = some (.cells #[.int .u32 0,.int .u32 1] 48 (0,0))):ClRow Tt w [((0,1):C)] (.slice (some ⟨g,0,none⟩) 1 1):=by
 refine⟨_,_,rfl,Nat.le_refl _,fun j x hx=>?_⟩
 have hj:j=0:=by have:=some_lt hx;simp at this;omega
 subst hj
 simp only [List.getElem?_cons_zero,Option.some.injEq] at hx
 subst hx
 refine⟨g,0,rfl,trivial,(Array.getElem?_eq_some_iff.1 h).1,?_,?_⟩ <;> (unfold World.cell?; simp [h])
theorem works15_of (hId:∀ w:World,Calls Tryz.prog 26 #[] w fun e w'=>∃ v',e=.returned v'∧TmIn (fun q=>w.heap.size≤q) w' idAll v'∧Below w.heap.size w w') (w:World):Calls Tryz.prog 6 #[] w fun e w'=>e=.returned (.bool true)∧Below w.heap.size w w':=by
 have hLA:LAll:=fun s hs N=>lf_any hs N
 have c1:=run_any hLA wU _ [] _ xBs _ w (wU_in w) (xBs_in w) (cl_nil0 w) x15_7.1 x15_7.2.1 (by simp)
 rw [x15_1] at c1
 obtain⟨Y1,hY1⟩:∃ t,t=runT wU [] xBs:=⟨_,rfl⟩
 have q1:=x15_2
 rw [← hY1] at c1 q1
 obtain⟨Y2,hY2⟩:∃ t,t=fillT xCr xBs []:=⟨_,rfl⟩
 have q2:=x15_4
 rw [← hY2] at q2
 obtain⟨k1,k2,k3,k4⟩:=q1
 obtain⟨k5,k6,k7⟩:=q2
 obtain⟨K0,hK0,k4⟩:=Option.map_eq_some_iff.1 k4
 obtain⟨S0,hS0,k7⟩:=Option.map_eq_some_iff.1 k7
 rw [x15_6] at k2 k7
 clear hY1
 go_enter Tryz.func6,Tryz.ntmps6
 go_upto_region 1 with fail
 go_wp2_with fail
 refine c1.mono ?_
 rintro e w1 ⟨v1,rfl,t1,b1⟩
 clear c1
 obtain⟨ra,rc,ka,kc,sa,sc,rfl,ht⟩:=t1.tt.form
 rw [k1,k2,k3]
 simp only [List.length_cons,List.length_nil,Nat.zero_add]
 obtain⟨w2,hw2⟩:∃ W,W=w1.alloc (.cells #[.int .i64 14,.int .i64 Y1.n,.string Y1.name,.slice ra 1 rc,.slice ka 2 kc,.slice sa Y1.sys.length sc] 26):=⟨_,rfl⟩
 have b2:Below w1.heap.size w1 w2:=by rw [hw2];exact belowA _ _
 obtain⟨X,hX⟩:∃ X,X=w1.heap.size:=⟨_,rfl⟩
 have x1:Six w2 X (.int .i64 14) (.int .i64 Y1.n) (.string Y1.name) (.slice ra 1 rc) (.slice ka 2 kc) (.slice sa Y1.sys.length sc):=⟨by rw [hw2,hX];exact heapNew _ _⟩
 have HX1:Hid (∀ V,Below w2.heap.size w2 V→Six V X (.int .i64 14) (.int .i64 Y1.n) (.string Y1.name) (.slice ra 1 rc) (.slice ka 2 kc) (.slice sa Y1.sys.length sc)∧CRow V (.slice ra 1 rc) [((0,1):C)]):=fun V q=>⟨x1.blw q,by
  have h:=((ht.blw b2).blw q).row
  rw [k2] at h
  exact h.row⟩
 obtain⟨g,off,ra1,rc1,ka1,kc1,sa1,sc1,rfl,_,h61,_⟩:=ht.kids.at hK0
 have c0:=(h61.blw b2)
 have HC:Hid (∀ V,Below w2.heap.size w2 V→V.cell? ⟨g,off,none⟩=some (.int .i64 3)):=fun V q=>by
  obtain⟨_,u0,_⟩:=c0.blw q
  rw [k4] at u0
  simpa using u0
 have B2:=bchain b1 b2
 have HBB:Hid (∀ V,Below w2.heap.size w2 V→Below w.heap.size w V):=fun V q=>bchain B2 q
 have Hw2:Hid (_=_):=hw2
 have HX:Hid (X=w1.heap.size):=hX
 have c2:=mfill0_any hLA xCr _ xBs _ w2 (xCr_in w2) (xBs_in w2) x15_7.2.2 x15_7.2.1
 rw [x15_3,← hY2] at c2
 clear hw2 hX h61 c0 ht t1 x1 b1 b2 hK0 k4 k1 k2 k3 B2 hY2
 go_wp2_with fail
 rw [← Hw2.out]
 simp only [← HX.out]
 clear Hw2
 refine c2.mono ?_
 rintro e w3 ⟨v3,rfl,t3,b3⟩
 clear c2
 obtain⟨rb,rd,kb,kd,sb,sd,rfl,hu⟩:=t3.tt.form
 rw [k5,k6]
 obtain⟨w4,hw4⟩:∃ W,W=w3.alloc (.cells #[.int .i64 15,.int .i64 Y2.n,.string Y2.name,.slice rb Y2.r.length rd,.slice kb Y2.kids.length kd,.slice sb 1 sd] 26):=⟨_,rfl⟩
 have b4:Below w3.heap.size w3 w4:=by rw [hw4];exact belowA _ _
 obtain⟨Y,hY⟩:∃ X,X=w3.heap.size:=⟨_,rfl⟩
 have x2:Six w4 Y (.int .i64 15) (.int .i64 Y2.n) (.string Y2.name) (.slice rb Y2.r.length rd) (.slice kb Y2.kids.length kd) (.slice sb 1 sd):=⟨by rw [hw4,hY];exact heapNew _ _⟩
 obtain⟨g2,off2,fa,fc,ka2,kc2,rfl,_,h21,hF,_⟩:=hu.sys.at hS0
 have d0:=(h21.blw b4).c0
 rw [k7] at d0 hF
 simp only [List.length_cons,List.length_nil,Nat.zero_add,Nat.zero_mul,Nat.add_zero] at d0 hF
 have B4:=bchain b3 b4
 have HX2:Hid (∀ V,Below w4.heap.size w4 V→Six V Y (.int .i64 15) (.int .i64 Y2.n) (.string Y2.name) (.slice rb Y2.r.length rd) (.slice kb Y2.kids.length kd) (.slice (some ⟨g2,off2,none⟩) 1 sd)∧CRow V (.slice fa 1 fc) [((0,1):C)]∧V.cell? ⟨g2,off2,none⟩=some (.slice fa 1 fc)):=fun V q=>⟨x2.blw q,((hF.row).below b4).below q,(Cs2.blw (h21.blw b4) q).c0 |> fun u=>by rw [k7] at u;simpa using u⟩
 have Hw4:Hid (_=_):=hw4
 have HY:Hid (Y=w3.heap.size):=hY
 clear hw4 hY h21 hF hu t3 x2 b3 b4 hS0 k7 k5 k6 d0
 go_upto_region 3 with fail
 rw [← Hw4.out]
 simp only [← HY.out]
 clear Hw4
 obtain⟨w5,hw5⟩:∃ W,W=w4.alloc (.cells #[.int .u32 0,.int .u32 1] 48):=⟨_,rfl⟩
 have b5:Below w4.heap.size w4 w5:=by rw [hw5];exact belowA _ _
 have m5:w5.heap[w4.heap.size]? = some (.cells #[.int .u32 0,.int .u32 1] 48 (0,0)):=by rw [hw5];exact heapNew _ _
 have c3:=same_any [((0,1):C)] [((0,1):C)] _ _ w5 ((HX1.out w5 (bchain B4 b5)).2) (rowd_in w5 w4.heap.size m5).row (by simp)
 rw [decide_eq_true rfl] at c3
 obtain⟨y0,y1,y2,y3,y4,y5,_⟩:=(HX1.out w4 B4).1.cells
 have Hw5:Hid (_=_):=hw5
 clear hw5 m5
 go_wp2_with fail
 rw [← Hw5.out]
 clear Hw5
 refine c3.mono ?_
 rintro e w6 ⟨rfl,b6⟩
 clear c3 y0 y1 y2 y3 y4 y5
 have b46:=bchain b5 b6
 have B6:=bchain B4 b46
 obtain⟨w7,hw7⟩:∃ W,W=w6.alloc (.cells #[.int .u32 0,.int .u32 1] 48):=⟨_,rfl⟩
 have b7:Below w6.heap.size w6 w7:=by rw [hw7];exact belowA _ _
 have m7:w7.heap[w6.heap.size]? = some (.cells #[.int .u32 0,.int .u32 1] 48 (0,0)):=by rw [hw7];exact heapNew _ _
 have c4:=same_any [((0,1):C)] [((0,1):C)] _ _ w7 ((HX2.out w7 (bchain b46 b7)).2.1) (rowd_in w7 w6.heap.size m7).row (by simp)
 rw [decide_eq_true rfl] at c4
 obtain⟨y0,y1,y2,y3,y4,y5,_⟩:=(HX1.out w6 B6).1.cells
 obtain⟨z0,z1,z2,z3,z4,z5,_⟩:=(HX2.out w6 b46).1.cells
 have d0:=(HX2.out w6 b46).2.2
 have d1:=HC.out w6 B6
 have Hw7:Hid (_=_):=hw7
 clear hw7 m7
 go_wp2_with fail
 rw [← Hw7.out]
 clear Hw7
 refine c4.mono ?_
 rintro e w8 ⟨rfl,b8⟩
 clear c4 y0 y1 y2 y3 y4 y5 z0 z1 z2 z3 z4 z5 d0 d1
 have B8:=bchain B6 (bchain b7 b8)
 have c5:=hId w8
 go_wp2_with fail
 refine c5.mono ?_
 rintro e w9 ⟨v9,rfl,t9,b9⟩
 clear c5
 have c6:=rightT_any 0 0 idAll v9 w9 t9.tt id_blk
 rw [x15_5] at c6
 go_wp2_with fail
 refine c6.mono ?_
 rintro e w10 ⟨rfl,b10⟩
 clear c6
 have hF:=HBB.out w10 (bchain B8 (bchain b9 b10))
 go_wp2_with fail
 go_ret
 exact⟨rfl,hF⟩
theorem take_capT {r:List C} {t:Tm}:capT (takT 0 r t)≤capT t:=by
 have h2:=cap_ans (putOp_len 0 (liftFF r 0 1).1) t
 have h0:=noT_cap
 have hp:65≤capT t:=by rw [cap_eq];omega
 unfold takT
 split
 ·split
  ·split
   ·have h5:=cap_ans (dropOp_len 0) (ansD (putOp 0 (liftFF r 0 1).1) t)
    omega
   ·omega
  ·omega
 ·omega
theorem line_capT {r:List C} {t:Tm}:capT (lineT r t)≤65*blk t:=by
 have h1:=take_capT (r:=r) (t:=dimsT 1 2 t)
 have h2:=dims_blk (fr:=1) (by_:=2) (t:=t)
 have h3:=(cap_ge (dimsT 1 2 t)).2
 unfold lineT
 omega
end Go.Proofs.YtmblbmdchinflaaGreat
