/- The chapter's examples. -/
import Derived.Test.YtmblbmdchinflaaGreatEYBdF
import Derived.Test.YtmblbmdchinflaaGreatEYBdI
import Derived.Test.YtmblbmdchinflaaGreatEG34
import Derived.Test.YtmblbmdchinflaaGreatEG20
import Derived.Test.YtmblbmdchinflaaGreatEYLfD
import Derived.Deep.RegionHeld3
import Derived.Test.YtmblbmdchinflaaGreatProg
import Derived.Test.YtmblbmdchinflaaGreatEG27
set_option linter.unusedVariables false
set_option linter.unusedSimpArgs false
set_option maxRecDepth 100000
set_option maxHeartbeats 8000000
namespace Go.Proofs.YtmblbmdchinflaaGreat
open Go.RowKit
def xBs:Tm:=.mk 20 0 ⟨#[]⟩ [] [] []
def xCr:Tm:=.mk 19 0 ⟨#[]⟩ [] [] []
theorem x15_1:runE wU [] xBs=0:=by decide +kernel
theorem x15_2:(runT wU [] xBs).kind=14∧(runT wU [] xBs).r=[negB 0]∧(runT wU [] xBs).kids.length=2∧((runT wU [] xBs).kids[0]?).map Tm.kind=some 3:=by decide +kernel
theorem x15_3:fillE xCr xBs []=0:=by decide +kernel
theorem x15_4:(fillT xCr xBs []).kind=15∧(fillT xCr xBs []).sys.length=1∧((fillT xCr xBs []).sys[0]?).map Prod.fst=some [negB 0]:=by decide +kernel
theorem x15_5:rightN 0 0 idAll=0:=by decide +kernel
theorem x15_6:negB 0=((0,1):C):=by decide +kernel
theorem x15_7:blk wU≤150∧blk xBs≤150∧blk xCr≤150:=by decide +kernel
theorem xBs_in (w:World):TmIn Tt w xBs (.agg #[.int .i64 20,.int .i64 0,.string ⟨#[]⟩,.slice none 0 0,.slice none 0 0,.slice none 0 0]) :=
 .mk _ _ _ _ _ _ _ _ _ ⟨by decide,by decide⟩ ⟨by decide,by decide⟩ (cl_nil0 w) (kd_nil0 w) (sy_nil0 w)
theorem xCr_in (w:World):TmIn Tt w xCr (.agg #[.int .i64 19,.int .i64 0,.string ⟨#[]⟩,.slice none 0 0,.slice none 0 0,.slice none 0 0]) :=
 .mk _ _ _ _ _ _ _ _ _ ⟨by decide,by decide⟩ ⟨by decide,by decide⟩ (cl_nil0 w) (kd_nil0 w) (sy_nil0 w)
theorem rowd_in (w:World) (g:Nat) (h:w.heap[g]? = some (.cells #[.int .u32 0,.int .u32 1] 48 (0,0))):ClRow Tt w [((0,1):C)] (.slice (some ⟨g,0,none⟩) 1 1):=by
 refine⟨_,_,rfl,Nat.le_refl _,fun j x hx=>?_⟩
 have hj:j=0:=by have:=some_lt hx;simp at this;omega
 subst hj
 simp only [List.getElem?_cons_zero,Option.some.injEq] at hx
 subst hx
 refine⟨g,0,rfl,trivial,(Array.getElem?_eq_some_iff.1 h).1,?_,?_⟩ <;> (unfold World.cell?; simp [h])
theorem works15_of (hId:∀ w:World,Calls Tryz.prog 26 #[] w fun e w'=>∃ v',e=.returned v'∧TmIn (fun q=>w.heap.size≤q) w' idAll v'∧Below w.heap.size w w') (w:World):Calls Tryz.prog 6 #[] w fun e w'=>e=.returned (.bool true)∧Below w.heap.size w w':=by
 have hLA:LAll:=fun s hs N=>lf_any hs N
 have c1:=run_any hLA wU _ [] _ xBs _ w (wU_in w) (xBs_in w) (cl_nil0 w) x15_7.1 x15_7.2.1 (by simp)
 rw [x15_1] at c1
 obtain⟨Y1,hY1⟩:∃ t,t=runT wU [] xBs:=⟨_,rfl⟩
 have q1:=x15_2
 rw [← hY1] at c1 q1
 obtain⟨Y2,hY2⟩:∃ t,t=fillT xCr xBs []:=⟨_,rfl⟩
 have q2:=x15_4
 rw [← hY2] at q2
 obtain⟨k1,k2,k3,k4⟩:=q1
 obtain⟨k5,k6,k7⟩:=q2
 obtain⟨K0,hK0,k4⟩:=Option.map_eq_some_iff.1 k4
 obtain⟨S0,hS0,k7⟩:=Option.map_eq_some_iff.1 k7
 rw [x15_6] at k2 k7
 clear hY1
 go_enter Tryz.func6,Tryz.ntmps6
 go_upto_region 1 with fail
 go_wp2_with fail
 refine c1.mono ?_
 rintro e w1 ⟨v1,rfl,t1,b1⟩
 clear c1
 obtain⟨ra,rc,ka,kc,sa,sc,rfl,ht⟩:=t1.tt.form
 rw [k1,k2,k3]
 simp only [List.length_cons,List.length_nil,Nat.zero_add]
 obtain⟨w2,hw2⟩:∃ W,W=w1.alloc (.cells #[.int .i64 14,.int .i64 Y1.n,.string Y1.name,.slice ra 1 rc,.slice ka 2 kc,.slice sa Y1.sys.length sc] 26):=⟨_,rfl⟩
 have b2:Below w1.heap.size w1 w2:=by rw [hw2];exact belowA _ _
 obtain⟨X,hX⟩:∃ X,X=w1.heap.size:=⟨_,rfl⟩
 have x1:Six w2 X (.int .i64 14) (.int .i64 Y1.n) (.string Y1.name) (.slice ra 1 rc) (.slice ka 2 kc) (.slice sa Y1.sys.length sc):=⟨by rw [hw2,hX];exact heapNew _ _⟩
 have HX1:Hid (∀ V,Below w2.heap.size w2 V→Six V X (.int .i64 14) (.int .i64 Y1.n) (.string Y1.name) (.slice ra 1 rc) (.slice ka 2 kc) (.slice sa Y1.sys.length sc)∧CRow V (.slice ra 1 rc) [((0,1):C)]):=fun V q=>⟨x1.blw q,by
  have h:=((ht.blw b2).blw q).row
  rw [k2] at h
  exact h.row⟩
 obtain⟨g,off,ra1,rc1,ka1,kc1,sa1,sc1,rfl,_,h61,_⟩:=ht.kids.at hK0
 have c0:=(h61.blw b2)
 have HC:Hid (∀ V,Below w2.heap.size w2 V→V.cell? ⟨g,off,none⟩=some (.int .i64 3)):=fun V q=>by
  obtain⟨_,u0,_⟩:=c0.blw q
  rw [k4] at u0
  simpa using u0
 have B2:=bchain b1 b2
 have HBB:Hid (∀ V,Below w2.heap.size w2 V→Below w.heap.size w V):=fun V q=>bchain B2 q
 have Hw2:Hid (_=_):=hw2
 have HX:Hid (X=w1.heap.size):=hX
 have c2:=mfill0_any hLA xCr _ xBs _ w2 (xCr_in w2) (xBs_in w2) x15_7.2.2 x15_7.2.1
 rw [x15_3,← hY2] at c2
 clear hw2 hX h61 c0 ht t1 x1 b1 b2 hK0 k4 k1 k2 k3 B2 hY2
 go_wp2_with fail
 rw [← Hw2.out]
 simp only [← HX.out]
 clear Hw2
 refine c2.mono ?_
 rintro e w3 ⟨v3,rfl,t3,b3⟩
 clear c2
 obtain⟨rb,rd,kb,kd,sb,sd,rfl,hu⟩:=t3.tt.form
 rw [k5,k6]
 obtain⟨w4,hw4⟩:∃ W,W=w3.alloc (.cells #[.int .i64 15,.int .i64 Y2.n,.string Y2.name,.slice rb Y2.r.length rd,.slice kb Y2.kids.length kd,.slice sb 1 sd] 26):=⟨_,rfl⟩
 have b4:Below w3.heap.size w3 w4:=by rw [hw4];exact belowA _ _
 obtain⟨Y,hY⟩:∃ X,X=w3.heap.size:=⟨_,rfl⟩
 have x2:Six w4 Y (.int .i64 15) (.int .i64 Y2.n) (.string Y2.name) (.slice rb Y2.r.length rd) (.slice kb Y2.kids.length kd) (.slice sb 1 sd):=⟨by rw [hw4,hY];exact heapNew _ _⟩
 obtain⟨g2,off2,fa,fc,ka2,kc2,rfl,_,h21,hF,_⟩:=hu.sys.at hS0
 have d0:=(h21.blw b4).c0
 rw [k7] at d0 hF
 simp only [List.length_cons,List.length_nil,Nat.zero_add,Nat.zero_mul,Nat.add_zero] at d0 hF
 have B4:=bchain b3 b4
 have HX2:Hid (∀ V,Below w4.heap.size w4 V→Six V Y (.int .i64 15) (.int .i64 Y2.n) (.string Y2.name) (.slice rb Y2.r.length rd) (.slice kb Y2.kids.length kd) (.slice (some ⟨g2,off2,none⟩) 1 sd)∧CRow V (.slice fa 1 fc) [((0,1):C)]∧V.cell? ⟨g2,off2,none⟩=some (.slice fa 1 fc)):=fun V q=>⟨x2.blw q,((hF.row).below b4).below q,(Cs2.blw (h21.blw b4) q).c0 |> fun u=>by rw [k7] at u;simpa using u⟩
 have Hw4:Hid (_=_):=hw4
 have HY:Hid (Y=w3.heap.size):=hY
 clear hw4 hY h21 hF hu t3 x2 b3 b4 hS0 k7 k5 k6 d0
 go_upto_region 3 with fail
 rw [← Hw4.out]
 simp only [← HY.out]
 clear Hw4
 obtain⟨w5,hw5⟩:∃ W,W=w4.alloc (.cells #[.int .u32 0,.int .u32 1] 48):=⟨_,rfl⟩
 have b5:Below w4.heap.size w4 w5:=by rw [hw5];exact belowA _ _
 have m5:w5.heap[w4.heap.size]? = some (.cells #[.int .u32 0,.int .u32 1] 48 (0,0)):=by rw [hw5];exact heapNew _ _
 have c3:=same_any [((0,1):C)] [((0,1):C)] _ _ w5 ((HX1.out w5 (bchain B4 b5)).2) (rowd_in w5 w4.heap.size m5).row (by simp)
 rw [decide_eq_true rfl] at c3
 obtain⟨y0,y1,y2,y3,y4,y5,_⟩:=(HX1.out w4 B4).1.cells
 have Hw5:Hid (_=_):=hw5
 clear hw5 m5
 go_wp2_with fail
 rw [← Hw5.out]
 clear Hw5
 refine c3.mono ?_
 rintro e w6 ⟨rfl,b6⟩
 clear c3 y0 y1 y2 y3 y4 y5
 have b46:=bchain b5 b6
 have B6:=bchain B4 b46
 obtain⟨w7,hw7⟩:∃ W,W=w6.alloc (.cells #[.int .u32 0,.int .u32 1] 48):=⟨_,rfl⟩
 have b7:Below w6.heap.size w6 w7:=by rw [hw7];exact belowA _ _
 have m7:w7.heap[w6.heap.size]? = some (.cells #[.int .u32 0,.int .u32 1] 48 (0,0)):=by rw [hw7];exact heapNew _ _
 have c4:=same_any [((0,1):C)] [((0,1):C)] _ _ w7 ((HX2.out w7 (bchain b46 b7)).2.1) (rowd_in w7 w6.heap.size m7).row (by simp)
 rw [decide_eq_true rfl] at c4
 obtain⟨y0,y1,y2,y3,y4,y5,_⟩:=(HX1.out w6 B6).1.cells
 obtain⟨z0,z1,z2,z3,z4,z5,_⟩:=(HX2.out w6 b46).1.cells
 have d0:=(HX2.out w6 b46).2.2
 have d1:=HC.out w6 B6
 have Hw7:Hid (_=_):=hw7
 clear hw7 m7
 go_wp2_with fail
 rw [← Hw7.out]
 clear Hw7
 refine c4.mono ?_
 rintro e w8 ⟨rfl,b8⟩
 clear c4 y0 y1 y2 y3 y4 y5 z0 z1 z2 z3 z4 z5 d0 d1
 have B8:=bchain B6 (bchain b7 b8)
 have c5:=hId w8
 go_wp2_with fail
 refine c5.mono ?_
 rintro e w9 ⟨v9,rfl,t9,b9⟩
 clear c5
 have c6:=rightT_any 0 0 idAll v9 w9 t9.tt id_blk
 rw [x15_5] at c6
 go_wp2_with fail
 refine c6.mono ?_
 rintro e w10 ⟨rfl,b10⟩
 clear c6
 have hF:=HBB.out w10 (bchain B8 (bchain b9 b10))
 go_wp2_with fail
 go_ret
 exact⟨rfl,hF⟩
theorem take_capT {r:List C} {t:Tm}:capT (takT 0 r t)≤capT t:=by
 have h2:=cap_ans (putOp_len 0 (liftFF r 0 1).1) t
 have h0:=noT_cap
 have hp:65≤capT t:=by rw [cap_eq];omega
 unfold takT
 split
 ·split
  ·split
   ·have h5:=cap_ans (dropOp_len 0) (ansD (putOp 0 (liftFF r 0 1).1) t)
    omega
   ·omega
  ·omega
 ·omega
theorem line_capT {r:List C} {t:Tm}:capT (lineT r t)≤65*blk t:=by
 have h1:=take_capT (r:=r) (t:=dimsT 1 2 t)
 have h2:=dims_blk (fr:=1) (by_:=2) (t:=t)
 have h3:=(cap_ge (dimsT 1 2 t)).2
 unfold lineT
 omega
theorem al_cap {line a:Tm} {phi E r:List C} (h1:blk line≤150) (h2:blk a≤150):capT (alT line phi a E r)≤20000:=by
 have h3:=jnA_len (liftFF phi 0 1).1 E
 have h4:=line_capT (r:=r) (t:=line)
 have h5:=both_blk (vs:=0) (ds:=1) (t:=a)
 have h7:=(cap_ge (bothT 0 1 a)).2
 rw [cap_eq]
 unfold alT alJ
 simp [capL,capS]
 have h6:ByteArray.size ⟨#[]⟩=0:=rfl
 omega
theorem along_cap {line a:Tm} {phi E r:List C} (h1:blk line≤150) (h2:blk a≤150):capT (alongT line phi a E r)≤20000:=by
 have h0:capT zeroT≤65:=by rw [cap_eq];simp [zeroT,capL,capS];exact Nat.le_refl 65
 have h3:=al_cap (phi:=phi) (E:=E) (r:=r) h1 h2
 unfold alongT
 split
 ·split
  ·unfold doneT;split <;> omega
  ·omega
 ·omega
theorem take_al {T:Tm} (hc:capT T≤20000) {r:List C} (hr:r=[top0]∨r=[]) (h0:takE 0 r T=0) (V:World) (v vr:Value) (hv:TmIn Tt V T v) (hvr:ClRow Tt V r vr) :
  Calls Tryz.prog 11 #[v,.int .i64 0,vr] V fun e w'=>∃ v',e=.returned (.tuple #[v',.int .i64 0])∧TmIn (fun q=>V.heap.size≤q∧q<w'.heap.size) w' (takT 0 r T) v'∧Below V.heap.size V w':=by
 have hb:=(cap_ge T).1
 have h1:=(cap_ge (ansD (putOp 0 (liftFF r 0 1).1) T)).1
 have h2:=cap_ans (putOp_len 0 (liftFF r 0 1).1) T
 have hl:r.length≤40000:=by rcases hr with rfl | rfl <;> simp
 have cc:=dtake_any T v V hv (by omega) 0 r vr hvr hl (by omega)
 rw [h0] at cc
 refine cc.mono ?_
 rintro e w' ⟨v',rfl,ht,hb'⟩
 exact⟨v',rfl,ht.up fun q h=>⟨h.1,by obtain⟨_,cs,ty,h2⟩:=h;exact (Array.getElem?_eq_some_iff.1 h2).1⟩,hb'⟩
theorem tm_r {X:Tm} {w:World} {a c e:Option Addr} {b d f:Nat} (h:TmIn Tt w X (.agg #[.int .i64 X.kind,.int .i64 X.n,.string X.name,.slice a X.r.length b,.slice c X.kids.length d,.slice e X.sys.length f])):CRow w (.slice a X.r.length b) X.r:=by
 obtain⟨ra,rc,ka,kc,sa,sc,he,ht⟩:=h.form
 simp at he
 obtain⟨⟨rfl,rfl⟩,_,_⟩:=he
 exact ht.row.row
def cntU (listed:Array Bool):Nat→Nat
 | 0=>0
 | m+1=>cntU listed m+if listed.getD m true=false then 1 else 0
theorem getD_set {l:Array Bool} {i j:Nat} (hi:i<l.size):(l.setIfInBounds i true).getD j true=if j=i then true else l.getD j true:=by
 unfold Array.getD
 by_cases hj:j<l.size
 ·have hj':j<(l.setIfInBounds i true).size:=by simpa using hj
  rw [dif_pos hj',dif_pos hj]
  by_cases e:j=i
  ·subst e;rw [if_pos rfl];simp
  ·rw [if_neg e]
   show (l.setIfInBounds i true)[j]=l[j]
   rw [Array.getElem_setIfInBounds hj,if_neg (fun h=>e h.symm)]
 ·have hj':¬ j<(l.setIfInBounds i true).size:=by simpa using hj
  rw [dif_neg hj',dif_neg hj]
  split <;> rfl
theorem cntU_zero {l:Array Bool}:∀ {m:Nat},cntU l m=0→∀ j,j<m→l.getD j true=true
 | 0,_,j,hj=>by omega
 | m+1,h,j,hj=>by
  unfold cntU at h
  by_cases e:l.getD m true=false
  ·rw [if_pos e] at h;omega
  ·rcases Nat.lt_or_ge j m with q|q
   ·exact cntU_zero (by omega) j q
   ·obtain rfl:j=m:=by omega
    simpa using e
theorem cntU_all {l:Array Bool}:∀ {m:Nat},(∀ j,j<m→l.getD j true=true)→cntU l m=0
 | 0,_=>rfl
 | m+1,h=>by
  unfold cntU
  rw [cntU_all (fun j hj=>h j (by omega)),h m (by omega)]
  rfl
theorem cntU_high {l:Array Bool} {i:Nat} (hi:i<l.size):∀ {m:Nat},m≤i→cntU (l.setIfInBounds i true) m=cntU l m
 | 0,_=>rfl
 | m+1,h=>by
  have e:(l.setIfInBounds i true).getD m true=l.getD m true:=by rw [getD_set hi,if_neg (by omega)]
  unfold cntU
  rw [cntU_high hi (by omega),e]
theorem cntU_set {l:Array Bool} {i:Nat} (hi:i<l.size) (hf:l.getD i true=false):∀ {m:Nat},i<m→cntU l m=cntU (l.setIfInBounds i true) m+1
 | 0,h=>by omega
 | m+1,h=>by
  rcases Nat.lt_or_ge i m with q|q
  ·have e:(l.setIfInBounds i true).getD m true=l.getD m true:=by rw [getD_set hi,if_neg (by omega)]
   have e2:=cntU_set hi hf q
   unfold cntU
   rw [e,e2];omega
  ·obtain rfl:i=m:=by omega
   have e:(l.setIfInBounds i true).getD i true=true:=by rw [getD_set hi,if_pos rfl]
   have e2:=cntU_high hi (Nat.le_refl i)
   unfold cntU
   rw [e,e2,hf]
   rfl
theorem least_false {l:Array Bool}:∀ {m:Nat},cntU l m≠0→∃ i,i<m∧l.getD i true=false∧∀ j,j<i→l.getD j true=true
 | 0,h=>absurd rfl h
 | m+1,h=>by
  by_cases e:cntU l m=0
  ·refine⟨m,by omega,?_,cntU_zero e⟩
   unfold cntU at h
   rw [e] at h
   by_cases q:l.getD m true=false
   ·exact q
   ·rw [if_neg q] at h;exact absurd rfl h
  ·obtain⟨i,h1,h2,h3⟩:=least_false e
   exact⟨i,by omega,h2,h3⟩
def slv (ops:Array Oper) (i:Nat) (a:Act):Value:=match (ops[i]?).bind (·.dst) with
  | some d=>a.tmps.getD d undef
  | none=>undef
def regChk (ops:Array Oper) (m:Nat):Bool :=
  decide (m≤ops.size) && (List.range ops.size).all fun i=>match ops[i]? with
    | none=>false
    | some o => o.guard.isNone && (o.after.all fun e => !Region.binds .any e || decide (e.on < i)) &&
        (if i<m then (match o.dst with
          | none=>true
          | some d=>(List.range i).all fun j=>match (ops[j]?).bind (·.dst) with
            | some d'=>decide (d'≠d)
            | none=>true)
         else (List.range m).all fun j=>o.after.any fun e=>Region.binds .any e && decide (e.on=j))
theorem ready_iff {md:Region.Mode} {ops:Array Oper} {listed:Array Bool} {i:Nat} (hi:i∈Region.ready md ops listed):i<ops.size∧listed.getD i true=false∧∃ o,ops[i]? = some o∧∀ e∈o.after,Region.binds md e=true→listed.getD e.on false=true:=by
 unfold Region.ready at hi
 rw [List.mem_filter] at hi
 obtain⟨h1,h2⟩:=hi
 rw [List.mem_range] at h1
 rw [Bool.and_eq_true] at h2
 refine⟨h1,by simpa using h2.1,ops[i],by simp [h1],fun e he hb=>?_⟩
 have h3:=h2.2
 rw [Array.getElem?_eq_getElem h1] at h3
 simp only [Option.map_some,Option.getD_some,Array.all_eq_true] at h3
 obtain⟨k,hk,rfl⟩:=Array.mem_iff_getElem.1 he
 have:=h3 k hk
 rw [hb] at this
 simpa using this
theorem ready_of {md:Region.Mode} {ops:Array Oper} {listed:Array Bool} {i:Nat} {o:Oper} (ho:ops[i]? = some o) (h1:listed.getD i true=false) (h2:∀ e∈o.after,Region.binds md e=true→listed.getD e.on false=true):i∈Region.ready md ops listed:=by
 have hlt:=(Array.getElem?_eq_some_iff.1 ho).1
 unfold Region.ready
 rw [List.mem_filter,List.mem_range]
 refine⟨hlt,?_⟩
 rw [h1,ho]
 simp only [Bool.not_false,Bool.true_and,Option.map_some,Option.getD_some,Array.all_eq_true]
 intro k hk
 by_cases hb:Region.binds md o.after[k]=true
 ·rw [h2 _ (Array.getElem_mem hk) hb];simp
 ·simp at hb;rw [hb];rfl
theorem chk_at {ops:Array Oper} {m i:Nat} {o:Oper} (hc:regChk ops m=true) (ho:ops[i]? = some o):o.guard=none∧(∀ e∈o.after,Region.binds .any e=true→e.on<i) ∧
  (i<m→∀ d,o.dst=some d→∀ j oj,j<i→ops[j]? = some oj→oj.dst≠some d)∧(m≤i→∀ j,j<m→∃ e∈o.after,Region.binds .any e=true∧e.on=j):=by
 unfold regChk at hc
 rw [Bool.and_eq_true,List.all_eq_true] at hc
 have h:=hc.2 i (List.mem_range.2 (Array.getElem?_eq_some_iff.1 ho).1)
 rw [ho] at h
 simp only [Bool.and_eq_true] at h
 obtain⟨⟨h1,h2⟩,h3⟩:=h
 refine⟨by simpa using h1,fun e he hb=>?_,fun hi=>?_,fun hi j hj=>?_⟩
 ·obtain⟨k,hk,rfl⟩:=Array.mem_iff_getElem.1 he
  have:=(Array.all_eq_true.1 h2) k hk
  rw [hb] at this
  simpa using this
 ·rw [if_pos hi] at h3
  intro d hd j oj hj hoj e
  rw [hd] at h3
  have:=(List.all_eq_true.1 h3) j (List.mem_range.2 hj)
  rw [hoj] at this
  simp [e] at this
 ·rw [if_neg (by omega)] at h3
  have:=(List.all_eq_true.1 h3) j (List.mem_range.2 hj)
  obtain⟨k,hk,he⟩:=Array.any_eq_true.1 this
  rw [Bool.and_eq_true] at he
  exact⟨_,Array.getElem_mem hk,he.1,by simpa using he.2⟩
def upto (ops:Array Oper) (m:Nat) (l:Array Bool):Prop:=l.size=ops.size∧(∀ i,i<m→l.getD i true=true)∧∀ i,m≤i→i<ops.size→l.getD i true=false
theorem region_inv {γ:Type} {P:Program} {ops:Array Oper} {Q:Exit→Act→World→Prop} (m:Nat) (F:Nat→Value→γ→World→Prop) (Sh:Act→Prop) (Base:γ→World→Prop) (Ch:γ→World→γ→World→Prop)
  (hchk:regChk ops m=true)
  (hSz:∀ a,Sh a→∀ i o d,i<m→ops[i]? = some o→o.dst=some d→d<a.tmps.size)
  (hSh:∀ a i o v,i<m→ops[i]? = some o→Sh a→Sh (a.put o.dst v))
  (stab:∀ i v G w G' w',Ch G w G' w'→F i v G w→F i v G' w')
  (step:∀ i,i<m→∀ o,ops[i]? = some o→∀ a G w,Base G w→Sh a→(∀ e∈o.after,Region.binds .any e=true→F e.on (slv ops e.on a) G w)→o.wp P a w (fun a' w'=>∃ v G',a'=a.put o.dst v∧(o.dst=none→v=undef)∧Base G' w'∧Ch G w G' w'∧F i v G' w') Q)
  (hend:∀ l a G w,upto ops m l→Base G w→Sh a→(∀ i,i<m→F i (slv ops i a) G w)→wpAny P .any ops Q (ops.size - m) l a w) :
  ∀ (c:Nat) (l:Array Bool) (a:Act) (G:γ) (w:World),cntU l m=c→l.size=ops.size→(∀ i,m≤i→i<ops.size→l.getD i true=false)→Base G w→Sh a→(∀ i,i<m→l.getD i true=true→F i (slv ops i a) G w)→wpAny P .any ops Q (ops.size - m+c) l a w:=by
 have hm:m≤ops.size:=by
  unfold regChk at hchk
  rw [Bool.and_eq_true] at hchk
  simpa using hchk.1
 intro c
 induction c with
 | zero=>intro l a G w h1 h2 h3 h4 h5 h6;exact hend l a G w ⟨h2,cntU_zero h1,h3⟩ h4 h5 fun i hi=>h6 i hi (cntU_zero h1 i hi)
 | succ c ih =>
  intro l a G w h1 h2 h3 h4 h5 h6
  refine⟨fun hr=>?_,fun i hi=>?_⟩
  ·exfalso
   obtain⟨i,g1,g2,g3⟩:=least_false (l:=l) (m:=m) (by omega)
   have ho:ops[i]? = some ops[i]:=Array.getElem?_eq_getElem (by omega)
   obtain⟨_,c2,_⟩:=chk_at hchk ho
   have:=ready_of (md:=.any) ho g2 fun e he hb=>by
    have hlt:=c2 e he hb
    have:=g3 _ hlt
    unfold Array.getD at this ⊢
    rw [dif_pos (by omega)] at this ⊢
    exact this
   rw [hr] at this
   cases this
  ·obtain⟨g1,g2,o,ho,g3⟩:=ready_iff hi
   obtain⟨c1,c2,c3,c4⟩:=chk_at hchk ho
   have him:i<m:=by
    rcases Nat.lt_or_ge i m with q|q
    ·exact q
    ·have:cntU l m=0:=cntU_all fun j hj=>by
      obtain⟨e,e1,e2,e3⟩:=c4 q j hj
      have:=g3 e e1 e2
      rw [e3] at this
      unfold Array.getD at this ⊢
      rw [dif_pos (by omega)] at this ⊢
      exact this
     omega
   have hlt:∀ e∈o.after,Region.binds .any e=true→e.on<m∧l.getD e.on true=true:=fun e he hb=>by
    have q1:=c2 e he hb
    have q2:=g3 e he hb
    refine⟨by omega,?_⟩
    unfold Array.getD at q2 ⊢
    rw [dif_pos (by omega)] at q2 ⊢
    exact q2
   have st:=step i him o ho a G w h4 h5 fun e he hb=>h6 _ (hlt e he hb).1 (hlt e he hb).2
   unfold wpOp
   rw [ho]
   have hw:Region.wanted o (yielded ops a.tmps)=true:=by unfold Region.wanted;rw [c1]
   dsimp only
   rw [if_pos hw]
   refine .inl (Oper.wp_mono (fun a' w' h=>?_) st)
   obtain⟨v,G',rfl,bu,b1,b2,b3⟩:=h
   have hcu:=cntU_set (by omega) g2 him
   refine ih _ _ G' _ (by omega) (by simpa using h2) (fun j hj1 hj2=>?_) b1 (hSh a i o v him ho h5) (fun j hj hlj=>?_)
   ·rw [getD_set (by omega),if_neg (by omega)];exact h3 j hj1 hj2
   ·rw [getD_set (by omega)] at hlj
    by_cases e:j=i
    ·subst e
     have:slv ops j (a.put o.dst v)=v:=by
      unfold slv
      rw [ho]
      cases hd:o.dst with
      | none=>simp only [Option.bind_some,hd];exact (bu hd).symm
      | some d =>
       have hdl:=hSz a h5 j o d him ho hd
       simp only [Option.bind_some,hd]
       simp [Act.put,Array.getD,hdl]
     rw [this]
     exact b3
    ·rw [if_neg e] at hlj
     have hoj:ops[j]? = some ops[j]:=Array.getElem?_eq_getElem (by omega)
     obtain⟨_,_,c3',_⟩:=chk_at hchk hoj
     have:slv ops j (a.put o.dst v)=slv ops j a:=by
      unfold slv
      rw [hoj]
      cases hd:o.dst with
      | none=>rfl
      | some d =>
      cases hd':(ops[j]).dst with
      | none=>simp only [Option.bind_some,hd']
      | some d' =>
      have hne:d≠d':=fun q=>by
       rcases Nat.lt_or_ge j i with z|z
       ·exact c3 him d hd j _ z hoj (by rw [hd',q])
       ·exact c3' hj d' hd' i o (by omega) ho (by rw [hd,q])
      simp only [Option.bind_some,hd']
      show (a.tmps.setIfInBounds d v).getD d' undef=a.tmps.getD d' undef
      unfold Array.getD
      by_cases hz:d' < a.tmps.size
      ·have hz':d' < (a.tmps.setIfInBounds d v).size:=by simpa using hz
       rw [dif_pos hz',dif_pos hz]
       show (a.tmps.setIfInBounds d v)[d']=a.tmps[d']
       rw [Array.getElem_setIfInBounds hz,if_neg hne]
      ·have hz':¬ d' < (a.tmps.setIfInBounds d v).size:=by simpa using hz
       rw [dif_neg hz',dif_neg hz]
     rw [this]
     exact stab j _ G w G' w' b2 (h6 j hj hlj)
theorem region_invL {γ:Type} {P:Program} {ops:Array Oper} {Q:Exit→Act→World→Prop} (m:Nat) (F:Nat→Value→γ→World→Prop) (Sh:Act→Prop) (Base:Array Bool→γ→World→Prop) (Ch:γ→World→γ→World→Prop)
  (hchk:regChk ops m=true)
  (hSz:∀ a,Sh a→∀ i o d,i<m→ops[i]? = some o→o.dst=some d→d<a.tmps.size)
  (hSh:∀ a i o v,i<m→ops[i]? = some o→Sh a→Sh (a.put o.dst v))
  (stab:∀ i v G w G' w',Ch G w G' w'→F i v G w→F i v G' w')
  (step:∀ i,i<m→∀ o,ops[i]? = some o→∀ l a G w,i<l.size→l.getD i true=false→Base l G w→Sh a→(∀ e∈o.after,Region.binds .any e=true→F e.on (slv ops e.on a) G w)→o.wp P a w (fun a' w'=>∃ v G',a'=a.put o.dst v∧(o.dst=none→v=undef)∧Base (l.setIfInBounds i true) G' w'∧Ch G w G' w'∧F i v G' w') Q)
  (hend:∀ l a G w,upto ops m l→Base l G w→Sh a→(∀ i,i<m→F i (slv ops i a) G w)→wpAny P .any ops Q (ops.size - m) l a w) :
  ∀ (c:Nat) (l:Array Bool) (a:Act) (G:γ) (w:World),cntU l m=c→l.size=ops.size→(∀ i,m≤i→i<ops.size→l.getD i true=false)→Base l G w→Sh a→(∀ i,i<m→l.getD i true=true→F i (slv ops i a) G w)→wpAny P .any ops Q (ops.size - m+c) l a w:=by
 have hm:m≤ops.size:=by
  unfold regChk at hchk
  rw [Bool.and_eq_true] at hchk
  simpa using hchk.1
 intro c
 induction c with
 | zero=>intro l a G w h1 h2 h3 h4 h5 h6;exact hend l a G w ⟨h2,cntU_zero h1,h3⟩ h4 h5 fun i hi=>h6 i hi (cntU_zero h1 i hi)
 | succ c ih =>
  intro l a G w h1 h2 h3 h4 h5 h6
  refine⟨fun hr=>?_,fun i hi=>?_⟩
  ·exfalso
   obtain⟨i,g1,g2,g3⟩:=least_false (l:=l) (m:=m) (by omega)
   have ho:ops[i]? = some ops[i]:=Array.getElem?_eq_getElem (by omega)
   obtain⟨_,c2,_⟩:=chk_at hchk ho
   have:=ready_of (md:=.any) ho g2 fun e he hb=>by
    have hlt:=c2 e he hb
    have:=g3 _ hlt
    unfold Array.getD at this ⊢
    rw [dif_pos (by omega)] at this ⊢
    exact this
   rw [hr] at this
   cases this
  ·obtain⟨g1,g2,o,ho,g3⟩:=ready_iff hi
   obtain⟨c1,c2,c3,c4⟩:=chk_at hchk ho
   have him:i<m:=by
    rcases Nat.lt_or_ge i m with q|q
    ·exact q
    ·have:cntU l m=0:=cntU_all fun j hj=>by
      obtain⟨e,e1,e2,e3⟩:=c4 q j hj
      have:=g3 e e1 e2
      rw [e3] at this
      unfold Array.getD at this ⊢
      rw [dif_pos (by omega)] at this ⊢
      exact this
     omega
   have hlt:∀ e∈o.after,Region.binds .any e=true→e.on<m∧l.getD e.on true=true:=fun e he hb=>by
    have q1:=c2 e he hb
    have q2:=g3 e he hb
    refine⟨by omega,?_⟩
    unfold Array.getD at q2 ⊢
    rw [dif_pos (by omega)] at q2 ⊢
    exact q2
   have st:=step i him o ho l a G w (by omega) g2 h4 h5 fun e he hb=>h6 _ (hlt e he hb).1 (hlt e he hb).2
   unfold wpOp
   rw [ho]
   have hw:Region.wanted o (yielded ops a.tmps)=true:=by unfold Region.wanted;rw [c1]
   dsimp only
   rw [if_pos hw]
   refine .inl (Oper.wp_mono (fun a' w' h=>?_) st)
   obtain⟨v,G',rfl,bu,b1,b2,b3⟩:=h
   have hcu:=cntU_set (by omega) g2 him
   refine ih _ _ G' _ (by omega) (by simpa using h2) (fun j hj1 hj2=>?_) b1 (hSh a i o v him ho h5) (fun j hj hlj=>?_)
   ·rw [getD_set (by omega),if_neg (by omega)];exact h3 j hj1 hj2
   ·rw [getD_set (by omega)] at hlj
    by_cases e:j=i
    ·subst e
     have:slv ops j (a.put o.dst v)=v:=by
      unfold slv
      rw [ho]
      cases hd:o.dst with
      | none=>simp only [Option.bind_some,hd];exact (bu hd).symm
      | some d =>
       have hdl:=hSz a h5 j o d him ho hd
       simp only [Option.bind_some,hd]
       simp [Act.put,Array.getD,hdl]
     rw [this]
     exact b3
    ·rw [if_neg e] at hlj
     have hoj:ops[j]? = some ops[j]:=Array.getElem?_eq_getElem (by omega)
     obtain⟨_,_,c3',_⟩:=chk_at hchk hoj
     have:slv ops j (a.put o.dst v)=slv ops j a:=by
      unfold slv
      rw [hoj]
      cases hd:o.dst with
      | none=>rfl
      | some d =>
      cases hd':(ops[j]).dst with
      | none=>simp only [Option.bind_some,hd']
      | some d' =>
      have hne:d≠d':=fun q=>by
       rcases Nat.lt_or_ge j i with z|z
       ·exact c3 him d hd j _ z hoj (by rw [hd',q])
       ·exact c3' hj d' hd' i o (by omega) ho (by rw [hd,q])
      simp only [Option.bind_some,hd']
      show (a.tmps.setIfInBounds d v).getD d' undef=a.tmps.getD d' undef
      unfold Array.getD
      by_cases hz:d' < a.tmps.size
      ·have hz':d' < (a.tmps.setIfInBounds d v).size:=by simpa using hz
       rw [dif_pos hz',dif_pos hz]
       show (a.tmps.setIfInBounds d v)[d']=a.tmps[d']
       rw [Array.getElem_setIfInBounds hz,if_neg hne]
      ·have hz':¬ d' < (a.tmps.setIfInBounds d v).size:=by simpa using hz
       rw [dif_neg hz',dif_neg hz]
     rw [this]
     exact stab j _ G w G' w' b2 (h6 j hj hlj)
def OkG (g:Nat) (G:List Nat) (q:Nat):Prop:=g<q∧q ∉ G
def ChG (g:Nat) (G:List Nat) (w:World) (G':List Nat) (w':World):Prop:=Kn (Ng g) w w'∧(G'=G∨G'=w.heap.size :: G)
theorem okg_st {g:Nat} {G G':List Nat} {w:World} {q:Nat} (h:OkG g G q) (hq:q<w.heap.size) (hG:G'=G∨G'=w.heap.size :: G):OkG g G' q:=by
 refine⟨h.1,?_⟩
 rcases hG with rfl|rfl
 ·exact h.2
 ·intro e
  rcases List.mem_cons.1 e with e|e
  ·omega
  ·exact h.2 e
theorem tm_st {g:Nat} {G G':List Nat} {w w':World} {t:Tm} {v:Value} (h:TmIn (OkG g G) w t v) (c:ChG g G w G' w'):TmIn (OkG g G') w' t v :=
 ((h.lt' (ok':=fun q=>OkG g G' q∧q<w.heap.size) fun q h1 h2=>⟨okg_st h1 h2 c.2,h2⟩).kn c.1 fun q hq=>by have:=hq.1.1;show q≠g;omega).up fun q hq=>hq.1
theorem kd_st {g:Nat} {G G':List Nat} {w w':World} {l:List Tm} {v:Value} (h:KdT (OkG g G) w (TmIn (OkG g G) w) l v) (c:ChG g G w G' w'):KdT (OkG g G') w' (TmIn (OkG g G') w') l v :=
 ((h.ltA (ok':=fun q=>OkG g G' q∧q<w.heap.size) fun q h1 h2=>⟨okg_st h1 h2 c.2,h2⟩).kn c.1 fun q hq=>by have:=hq.1.1;show q≠g;omega).all (Nat.le_refl _) (fun q hq=>hq.1) (fun _ _ _=>rfl)
theorem cl_st {g:Nat} {G G':List Nat} {w w':World} {l:List C} {v:Value} (h:ClRow (OkG g G) w l v) (c:ChG g G w G' w'):ClRow (OkG g G') w' l v :=
 (h.lt' (ok':=fun q=>OkG g G' q∧q<w.heap.size) fun q h1 h2=>⟨okg_st h1 h2 c.2,h2⟩).keep c.1.size (fun q hq=>hq.1) (fun q hq hs=>c.1.block q (by have:=hq.1.1;show q≠g;omega) hs)
theorem ch_refl (g:Nat) (G:List Nat) (w:World):ChG g G w G w:=⟨Kn.refl _ _,.inl rfl⟩
theorem ch_of {g:Nat} {G:List Nat} {w w':World} (h:Kn (Ng g) w w'):ChG g G w G w':=⟨h,.inl rfl⟩
def BaG (g:Nat) (w0:World) (G:List Nat) (w:World):Prop:=Mk w g 0∧Kn (Ng g) w0 w∧∀ o,o∈G→w0.heap.size≤o∧o<w.heap.size
theorem ba_kn {g:Nat} {w0 w w':World} {G:List Nat} (h:BaG g w0 G w) (hk:Kn (Ng g) w w') (hM:Mk w' g 0):BaG g w0 G w':=⟨hM,h.2.1.trans hk,fun o e=>⟨(h.2.2 o e).1,by have:=(h.2.2 o e).2;have:=hk.size;omega⟩⟩
theorem ba_blw {g:Nat} {w0 w w':World} {G:List Nat} (h:BaG g w0 G w) (hb:Below w.heap.size w w'):BaG g w0 G w':=ba_kn h (Kn.of_below hb) (h.1.blw hb)
theorem okg_new {g:Nat} {w0 w:World} {G:List Nat} (h:BaG g w0 G w) (hg:g<w0.heap.size):OkG g G w.heap.size:=by
 refine⟨by have:=h.2.1.size;omega,fun e=>?_⟩
 have:=(h.2.2 _ e).2
 omega
theorem okg_ge {g:Nat} {w0 w:World} {G:List Nat} (h:BaG g w0 G w) (hg:g<w0.heap.size) {q:Nat} (hq:w.heap.size≤q):OkG g G q:=by
 refine⟨by have:=h.2.1.size;omega,fun e=>?_⟩
 have:=(h.2.2 _ e).2
 omega
theorem slot_put {a:Array Value} {d k:Nat} (h:k≠d) (v:Value):(a.setIfInBounds d v)[k]? = a[k]?:=Array.getElem?_setIfInBounds_ne (fun e=>h e.symm)
theorem tail_one {P:Program} {ops:Array Oper} {Q:Exit→Act→World→Prop} {m:Nat} {l:Array Bool} {a:Act} {w:World} {o:Oper} (hc:regChk ops m=true) (hs:ops.size=m+1) (ho:ops[m]? = some o) (hl:upto ops m l) (h:o.wp P a w (fun a' w'=>Q .normal a' w') Q):wpAny P .any ops Q 1 l a w:=by
 obtain⟨c1,c2,_,_⟩:=chk_at hc ho
 have hm:l.getD m true=false:=hl.2.2 m (Nat.le_refl _) (by omega)
 have hr:m∈Region.ready .any ops l:=ready_of ho hm fun e he hb=>by
  have q1:=c2 e he hb
  have q2:=hl.2.1 _ q1
  unfold Array.getD at q2 ⊢
  rw [dif_pos (by have:=hl.1;omega)] at q2 ⊢
  exact q2
 refine⟨fun h0=>(by rw [h0] at hr;cases hr),fun i hi=>?_⟩
 obtain⟨g1,g2,_⟩:=ready_iff hi
 obtain rfl:i=m:=by
  rcases Nat.lt_or_ge i m with q|q
  ·have:=hl.2.1 i q;rw [g2] at this;cases this
  ·omega
 unfold wpOp
 rw [ho]
 dsimp only
 rw [if_pos (by unfold Region.wanted;rw [c1])]
 refine .inl (Oper.wp_mono (fun a' w' h=>⟨?_,h⟩) h)
 refine List.eq_nil_iff_forall_not_mem.2 fun j hj=>?_
 obtain⟨p1,p2,_⟩:=ready_iff hj
 rw [getD_set (by have:=hl.1;omega)] at p2
 by_cases e:j=i
 ·rw [if_pos e] at p2;cases p2
 ·rw [if_neg e] at p2
  have:=hl.2.1 j (by omega)
  rw [p2] at this;cases this
def OkZ (g lo:Nat) (G:Option Nat) (q:Nat):Prop:=lo≤q∧g<q∧G≠some q
def PS (g lo:Nat) (T:Tm) (G:Option Nat) (w:World) (o:Nat):Prop:=∃ ra rc ka kc sa sc,Six w o (.int .i64 T.kind) (.int .i64 T.n) (.string T.name) (.slice ra T.r.length rc) (.slice ka T.kids.length kc) (.slice sa T.sys.length sc)∧TmIn (OkZ g lo G) w T (.agg #[.int .i64 T.kind,.int .i64 T.n,.string T.name,.slice ra T.r.length rc,.slice ka T.kids.length kc,.slice sa T.sys.length sc])
def ChS (g lo:Nat) (T:Tm) (G:Option Nat) (w:World) (G':Option Nat) (w':World):Prop:=Kn (fun q=>q≠g∧G≠some q) w w'∧(G'=G∨(G=none∧G'=some w.heap.size))∧∀ o,G=some o→o<w.heap.size→w'.heap[o]? = w.heap[o]?∨PS g lo T G' w' o
def BaS (g k:Nat) (w0:World) (l:Array Bool) (G:Option Nat) (w:World):Prop:=(l.getD 12 true=false→Mk w g 0)∧Kn (Ng g) w0 w∧(∀ o,G=some o→w0.heap.size≤o∧o<w.heap.size)∧(l.getD k true=false→G=none)
theorem okz_st {g lo:Nat} {G G':Option Nat} {w:World} {q:Nat} (h:OkZ g lo G q) (hq:q<w.heap.size) (hG:G'=G∨(G=none∧G'=some w.heap.size)):OkZ g lo G' q∧G≠some q∧q<w.heap.size:=by
 refine⟨⟨h.1,h.2.1,?_⟩,h.2.2,hq⟩
 rcases hG with rfl|⟨_,rfl⟩
 ·exact h.2.2
 ·intro e;injection e with e;omega
theorem tm_ss {g lo L:Nat} {T:Tm} {G G':Option Nat} {w w':World} {t:Tm} {v:Value} (h:TmIn (OkZ g lo G) w t v) (c:ChS g L T G w G' w'):TmIn (OkZ g lo G') w' t v :=
 ((h.lt' (ok':=fun q=>OkZ g lo G' q∧G≠some q∧q<w.heap.size) fun q h1 h2=>okz_st h1 h2 c.2.1).kn c.1 fun q hq=>⟨by have:=hq.1.2.1;show q≠g;omega,hq.2.1⟩).up fun q hq=>hq.1
theorem kd_ss {g lo L:Nat} {T:Tm} {G G':Option Nat} {w w':World} {l:List Tm} {v:Value} (h:KdT (OkZ g lo G) w (TmIn (OkZ g lo G) w) l v) (c:ChS g L T G w G' w'):KdT (OkZ g lo G') w' (TmIn (OkZ g lo G') w') l v :=
 ((h.ltA (ok':=fun q=>OkZ g lo G' q∧G≠some q∧q<w.heap.size) fun q h1 h2=>okz_st h1 h2 c.2.1).kn c.1 fun q hq=>⟨by have:=hq.1.2.1;show q≠g;omega,hq.2.1⟩).all (Nat.le_refl _) (fun q hq=>hq.1) (fun _ _ _=>rfl)
theorem ps_ss {g L:Nat} {T:Tm} {G G':Option Nat} {w w':World} {o:Nat} (h:PS g L T G w o) (c:ChS g L T G w G' w') (hG:G=some o):PS g L T G' w' o:=by
 obtain⟨ra,rc,ka,kc,sa,sc,hs,ht⟩:=h
 rcases c.2.2 o hG hs.lt with e|e
 ·exact⟨ra,rc,ka,kc,sa,sc,⟨e.trans hs.blk⟩,tm_ss ht c⟩
 ·exact e
theorem six_ss {g L:Nat} {T:Tm} {G G':Option Nat} {w w':World} {o:Nat} (h:∃ u0 u1 u2 u3 u4 u5,Six w o u0 u1 u2 u3 u4 u5) (c:ChS g L T G w G' w') (hG:G=some o):∃ u0 u1 u2 u3 u4 u5,Six w' o u0 u1 u2 u3 u4 u5:=by
 obtain⟨u0,u1,u2,u3,u4,u5,hs⟩:=h
 rcases c.2.2 o hG hs.lt with e|⟨ra,rc,ka,kc,sa,sc,e,_⟩
 ·exact⟨_,_,_,_,_,_,⟨e.trans hs.blk⟩⟩
 ·exact⟨_,_,_,_,_,_,e⟩
theorem chs_kn {g L:Nat} {T:Tm} {G:Option Nat} {w w':World} (h:Kn (Ng g) w w') (hg:∀ o,G=some o→g≠o):ChS g L T G w G w':=⟨h.sub fun q hq=>hq.1,.inl rfl,fun o e hlt=>.inl (h.block o (fun q=>hg o e q.symm) hlt)⟩
theorem getD_true {l:Array Bool} {i k:Nat} (h:(l.setIfInBounds i true).getD k true=false):l.getD k true=false:=by
 by_cases e:k=i
 ·subst e
  unfold Array.getD at h ⊢
  by_cases q:k<l.size
  ·rw [dif_pos (by simpa using q)] at h;simp at h
  ·rw [dif_neg (by simpa using q)] at h;cases h
 ·by_cases q:i<l.size
  ·rw [getD_set q,if_neg e] at h;exact h
  ·unfold Array.getD at h ⊢
   rw [Array.setIfInBounds,dif_neg q] at h;exact h
theorem mk_ls {g i:Nat} {w w':World} {l:Array Bool} (h:l.getD 12 true=false→Mk w g 0) (hb:Below w.heap.size w w'):(l.setIfInBounds i true).getD 12 true=false→Mk w' g 0:=fun e=>(h (getD_true e)).blw hb
theorem bas_kn {g k i:Nat} {w0 w w':World} {l:Array Bool} {G:Option Nat} (h:BaS g k w0 l G w) (hk:Kn (Ng g) w w') (hM:(l.setIfInBounds i true).getD 12 true=false→Mk w' g 0):BaS g k w0 (l.setIfInBounds i true) G w':=⟨hM,h.2.1.trans hk,fun o e=>⟨(h.2.2.1 o e).1,by have:=(h.2.2.1 o e).2;have:=hk.size;omega⟩,fun e=>h.2.2.2 (getD_true e)⟩
theorem okz_ge {g k:Nat} {w0 w:World} {l:Array Bool} {G:Option Nat} (h:BaS g k w0 l G w) (hg:g<w0.heap.size) {lo q:Nat} (hlo:lo≤w0.heap.size) (hq:w.heap.size≤q):OkZ g lo G q:=by
 have:=h.2.1.size
 refine⟨by omega,by omega,fun e=>?_⟩
 have:=(h.2.2.1 _ e).2
 omega
end Go.Proofs.YtmblbmdchinflaaGreat
