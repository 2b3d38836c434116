/- Formulas in the places of dimensions: what is refused ahead; Put. -/
import Derived.Test.YtblbhmnahoiecaaGreatGG30
import Derived.Test.YtblbhmnahoiecaaGreatGG15
set_option linter.unusedVariables false
set_option linter.unusedSimpArgs false
set_option maxRecDepth 100000
set_option maxHeartbeats 4000000
namespace Go.Proofs.YtblbhmnahoiecaaGreat
open Go.RowKit
def dimF (i:Int):List C × Int:=if isDimB i then ([posB i.toNat],0) else ([],2)
theorem dim_any (i:Int) (w:World):Calls Tryz.prog 100 #[.int .i64 i] w fun e w'=>∃ v,e=.returned (.tuple #[v,.int .i64 (dimF i).2])∧OwnsC w' w.heap.size v (dimF i).1∧Below w.heap.size w w':=by
 have hH:=has_all i w
 cases hd:isDimB i
 ·have H:Hid (dimF i=([],2)):=by unfold dimF;exact if_neg (by simp [hd])
  rw [hd] at hH
  go_enter Tryz.func100,Tryz.ntmps100
  go_wp2_with (go_at_call 104;refine hH.mono ?_;rintro e w' ⟨rfl,rfl⟩)
  go_ret2
  rw [H.out]
  exact⟨_,rfl,World.ownsRow_nil _ _ _ _,Below.refl _ _⟩
 ·have H:Hid (dimF i=([posB i.toNat],0)):=by unfold dimF;exact if_pos hd
  rw [hd] at hH
  have hi:0≤i∧i<24:=by simpa [isDimB] using hd
  obtain⟨k,rfl⟩:∃ k:Nat,i=(k:Int):=⟨i.toNat,by omega⟩
  have hk:k<24:=by omega
  have hW:=with0 k hk w
  rw [Int.toNat_natCast] at H
  clear hd hi
  go_enter Tryz.func100,Tryz.ntmps100
  go_wp2_with (first
   | (go_at_call 104;refine hH.mono ?_;rintro e w1 ⟨rfl,hw1⟩;subst hw1)
   | (go_at_call 149;refine hW.mono ?_;rintro e w2 ⟨rfl,hw2⟩;subst hw2))
  go_ret2
  rw [H.out]
  exact⟨_,rfl,own_one1 _ (posB k) _ (Nat.le_refl _),below_alloc _ _⟩
def wrD (i:Int) (r:List C) (t:Tm):Int:=if wrongN true 0 0 t=0 then (if isDimB i=true∧rightF r=true then 0 else 2) else ((wrongN true 0 0 t:Nat):Int)
theorem wrD_ok {i:Int} {r:List C} {t:Tm} (h:wrD i r t=0):(0≤i∧i<24)∧rightF r=true∧wrongN true 0 0 t=0:=by
 unfold wrD at h
 split at h
 ·rename_i h1
  split at h
  ·rename_i h2;exact⟨by simpa [isDimB] using h2.1,h2.2,h1⟩
  ·cases h
 ·omega
theorem dwrong_any (t:Tm) (v:Value) (w:World) (hv:TmIn Tt w t v) (hb:blk t≤20000) (i:Int) (r:List C) (vr:Value) (hr:ClRow Tt w r vr) (hrl:r.length≤40000):Calls Tryz.prog 39 #[v,.int .i64 i,vr] w fun e w'=>e=.returned (.int .i64 (wrD i r t))∧Below w.heap.size w w':=by
 obtain⟨ra,rc,ka,kc,sa,sc,rfl,ht⟩:=hv.form
 obtain⟨w1,hw1⟩:∃ W,W=w.alloc (.cells #[.int .i64 t.kind,.int .i64 t.n,.string t.name,.slice ra t.r.length rc,.slice ka t.kids.length kc,.slice sa t.sys.length sc] 26):=⟨_,rfl⟩
 have b1:Below w.heap.size w w1:=by rw [hw1];exact belowA _ _
 obtain⟨_,y0,y1,y2,y3,y4,y5⟩:Cs6 w1 w.heap.size 0 t ra rc ka kc sa sc:=by rw [hw1];exact cs6_new w t ra rc ka kc sa sc
 simp only [Nat.zero_add] at y1 y2 y3 y4 y5
 have cc:=formed_any t _ w1 (ht.blw b1).value hb
 have HA:Hid (wrD i r t=if wrongN true 0 0 t=0 then (if isDimB i=true∧rightF r=true then 0 else 2) else ((wrongN true 0 0 t:Nat):Int)):=(rfl:_=_)
 obtain⟨f,hf⟩:∃ f,f=wrongN true 0 0 t:=⟨_,rfl⟩
 rw [← hf] at cc HA
 have HW:Hid (_=_):=hw1
 have Hr:Hid (∀ V,Below w.heap.size w V→FRow V vr r):=fun V q=>(hr.blw q).frow
 obtain⟨va,vc,rfl,_⟩:=id hr
 obtain⟨LR,hLR⟩:∃ L,L=r.length:=⟨_,rfl⟩
 rw [← hLR] at Hr
 simp only [← hLR]
 have HLR:Hid (r.length≤100000):=(by omega:_≤_)
 have HB1:Hid (Below w.heap.size w w1):=b1
 have HD:Hid ((dimF i).2=if isDimB i then 0 else 2):=(by unfold dimF;split <;> rfl:_=_)
 clear hw1 hf hv ht hr hLR
 go_enter Tryz.func39,Tryz.ntmps39
 go_upto_region 1 with fail
 rw [← HW.out]
 clear HW
 go_wp2_with fail
 refine cc.mono ?_
 rintro e w2 ⟨rfl,b2⟩
 have b12:=bchain b1 b2
 clear cc y0 y1 y2 y3 y4 y5
 by_cases h0:f=0
 ·subst h0
  have cd:=dim_any i w2
  rw [if_pos rfl] at HA
  go_wp2_with fail
  refine cd.mono ?_
  rintro e w3 ⟨v3,rfl,hO3,b3⟩
  clear cd
  obtain⟨a3,c3,rfl⟩:=OwnsC.len hO3
  rw [HD.out]
  generalize (dimF i).1.length=L3
  have b13:=bchain b12 b3
  cases hi:isDimB i
  ·have Hz:Hid (wrD i r t=2):=(by rw [HA.out,hi];exact if_neg (by simp):_=_)
   simp only [Bool.false_eq_true,if_false]
   go_wp2_with fail
   go_ret
   exact⟨by rw [Hz.out];rfl,b13⟩
  ·have cr:=fright_any r _ w3 (Hr.out w3 b13) HLR.out
   simp only [if_true]
   cases hq:rightF r
   ·have Hz:Hid (wrD i r t=2):=(by rw [HA.out,hi,hq];exact if_neg (by simp):_=_)
    rw [hq] at cr
    go_wp2_with fail
    refine cr.mono ?_
    rintro e w4 ⟨rfl,b4⟩
    have b14:=bchain b13 b4
    clear cr
    go_wp2_with fail
    go_ret
    exact⟨by rw [Hz.out];rfl,b14⟩
   ·have Hz:Hid (wrD i r t=0):=(by rw [HA.out,hi,hq];exact if_pos ⟨rfl,rfl⟩:_=_)
    rw [hq] at cr
    go_wp2_with fail
    refine cr.mono ?_
    rintro e w4 ⟨rfl,b4⟩
    have b14:=bchain b13 b4
    clear cr
    go_wp2_with fail
    go_ret
    exact⟨by rw [Hz.out];rfl,b14⟩
 ·have h1:((f:Int) == 0)=false:=by simp;omega
  have Hz:Hid (wrD i r t=(f:Int)):=(by rw [HA.out,if_neg h0]:_=_)
  go_wp2_with fail
  go_ret
  exact⟨by rw [Hz.out];rfl,b12⟩
theorem keepD {n X ob:Nat} {w4 w5:World} {T:Tm} {v:Value} (h:TmIn (OkN n w4) w4 T v) (hk:Kn (fun q=>q≠ob) w4 w5) (ho:ob<n) (hX:X≤n):TmIn (OkN X w5) w5 T v :=
 h.keep hk.size (fun q hq=>(hq.same (hk.block q (by have:=hq.1;omega) hq.lt)).mono (by omega)) (fun q hq hs=>hk.block q (by have:=hq.1;omega) hs)
def putE (i:Int) (r:List C) (t:Tm):Int:=if wrD i r t=0 then eT (putOp i r) t 0 else wrD i r t
def putT' (i:Int) (r:List C) (t:Tm):Tm:=if wrD i r t=0 then ansD (putOp i r) t else noT
theorem dput_any (t:Tm) (v:Value) (w:World) (hv:TmIn Tt w t v) (hb:blk t≤20000) (i:Int) (r:List C) (vr:Value) (hr:ClRow Tt w r vr) (hrl:r.length≤40000):Calls Tryz.prog 10 #[v,.int .i64 i,vr] w fun e w'=>∃ v',e=.returned (.tuple #[v',.int .i64 (putE i r t)])∧TmIn (OkN w.heap.size w') w' (putT' i r t) v'∧Below w.heap.size w w':=by
 obtain⟨ra,rc,ka,kc,sa,sc,rfl,ht⟩:=hv.form
 obtain⟨w1,hw1⟩:∃ W,W=(w.alloc (.cells #[.int .i64 t.kind,.int .i64 t.n,.string t.name,.slice ra t.r.length rc,.slice ka t.kids.length kc,.slice sa t.sys.length sc] 26)).alloc (.cells #[.int .i64 0,.int .i64 0,.string ⟨#[]⟩,.slice none 0 0,.slice none 0 0,.slice none 0 0] 26):=⟨_,rfl⟩
 have b1:Below w.heap.size w w1:=by rw [hw1];exact bchain (belowA _ _) (belowA _ _)
 obtain⟨X,hX⟩:∃ X,X=w.heap.size:=⟨_,rfl⟩
 have s1:w1.heap.size=X+2:=by rw [hw1,hX];simp
 have x1:Six w1 X (.int .i64 t.kind) (.int .i64 t.n) (.string t.name) (.slice ra t.r.length rc) (.slice ka t.kids.length kc) (.slice sa t.sys.length sc):=⟨by rw [hX,hw1];exact (Below.heap_alloc _ _ _ (by simp)).trans (heapNew w _)⟩
 have x2:Six w1 (X+1) (.int .i64 0) (.int .i64 0) (.string ⟨#[]⟩) (.slice none 0 0) (.slice none 0 0) (.slice none 0 0):=⟨by
  rw [hX,hw1];have:=heapNew (w.alloc (.cells #[.int .i64 t.kind,.int .i64 t.n,.string t.name,.slice ra t.r.length rc,.slice ka t.kids.length kc,.slice sa t.sys.length sc] 26)) (.cells #[.int .i64 0,.int .i64 0,.string ⟨#[]⟩,.slice none 0 0,.slice none 0 0,.slice none 0 0] 26);rwa [World.size_alloc] at this⟩
 have HC:Hid (∀ W,Below w1.heap.size w1 W→Six W X (.int .i64 t.kind) (.int .i64 t.n) (.string t.name) (.slice ra t.r.length rc) (.slice ka t.kids.length kc) (.slice sa t.sys.length sc)):=fun W q=>x1.blw q
 have HZ:Hid (∀ W,Below w1.heap.size w1 W→Six W (X+1) (.int .i64 0) (.int .i64 0) (.string ⟨#[]⟩) (.slice none 0 0) (.slice none 0 0) (.slice none 0 0)):=fun W q=>x2.blw q
 have HT:Hid (∀ W,Below w1.heap.size w1 W→TmIn Tt W t (.agg #[.int .i64 t.kind,.int .i64 t.n,.string t.name,.slice ra t.r.length rc,.slice ka t.kids.length kc,.slice sa t.sys.length sc])):=fun W q=>((ht.blw b1).blw q).value
 have HB:Hid (∀ W,Below w1.heap.size w1 W→Below X w W):=fun W q=>by rw [hX];exact bchain b1 q
 have HXs:Hid (X=w.heap.size):=hX
 have Hs1:Hid (w1.heap.size=X+2):=s1
 have HW:Hid (_=_):=hw1
 have HR:Hid (∀ W,Below w1.heap.size w1 W→ClRow Tt W r vr):=fun W q=>(hr.blw b1).blw q
 have cw:=dwrong_any t _ w1 (HT.out w1 (Below.refl _ _)) hb i r vr (HR.out w1 (Below.refl _ _)) hrl
 have HE:Hid (putE i r t=(if wrD i r t=0 then eT (putOp i r) t 0 else wrD i r t)∧putT' i r t=(if wrD i r t=0 then ansD (putOp i r) t else noT)):=⟨rfl,rfl⟩
 have HOk:Hid (wrD i r t=0→0≤i∧i≤1000000):=fun h=>by have:=(wrD_ok h).1;omega
 obtain⟨e0,he0⟩:∃ e,e=wrD i r t:=⟨_,rfl⟩
 rw [← he0] at cw HE HOk
 obtain⟨va,vc,rfl,_⟩:=id hr
 obtain⟨LR,hLR⟩:∃ L,L=r.length:=⟨_,rfl⟩
 rw [← hLR] at cw HR
 simp only [← hLR]
 rw [← hX]
 have Hrl:Hid (r.length≤40000):=hrl
 have Hbt:Hid (blk t≤40000):=(by omega:blk t≤40000)
 clear he0 hw1 hX s1 x1 x2 hv ht b1 hr hLR
 go_enter Tryz.func10,Tryz.ntmps10
 go_upto_region 1 with fail
 rw [← HW.out]
 simp only [← HXs.out]
 clear HW
 obtain⟨y0,y1,y2,y3,y4,y5,_⟩:=(HC.out w1 (Below.refl _ _)).cells
 go_wp2_with fail
 refine cw.mono ?_
 rintro e w2 ⟨rfl,b2⟩
 clear cw y0 y1 y2 y3 y4 y5
 have hsz:=Hs1.out
 by_cases hz:e0=0
 ·subst hz
  have hok:=HOk.out rfl
  have cP:Hid (∀ V,Below w1.heap.size w1 V→Calls Tryz.prog 40 #[.int .i64 i,.slice va LR vc] V fun e w'=>∃ fV cV,e=.returned (.agg #[fV,cV])∧RowC (putOp i r).fn fV w'∧RowC (putOp i r).fc cV w'∧Below V.heap.size V w'):=fun V q=>putting_any i r _ V (HR.out V q) Hrl.out hok
  have cT:Hid (∀ V fV cV,Below w1.heap.size w1 V→RowC (putOp i r).fn fV V→RowC (putOp i r).fc cV V→Calls Tryz.prog 41 #[.agg #[fV,cV],.agg #[.int .i64 t.kind,.int .i64 t.n,.string t.name,.slice ra t.r.length rc,.slice ka t.kids.length kc,.slice sa t.sys.length sc]] V fun e w'=>∃ v',e=.returned (.tuple #[v',.int .i64 (eT (putOp i r) t 0)])∧TmIn (OkN V.heap.size w') w' (ansD (putOp i r) t) v'∧Below V.heap.size V w'):=fun V fV cV q h1 h2=>dterm_any t _ V (HT.out V q) h1 h2 Hbt.out
  obtain⟨er,her⟩:∃ e,e=eT (putOp i r) t 0:=⟨_,rfl⟩
  obtain⟨T,hT⟩:∃ T,T=ansD (putOp i r) t:=⟨_,rfl⟩
  rw [← her,← hT] at cT
  have Hf:Hid (putE i r t=er∧putT' i r t=T):=⟨by rw [HE.out.1,if_pos rfl,her],by rw [HE.out.2,if_pos rfl,hT]⟩
  clear her hT HE HOk
  go_upto_region 4 with fail
  refine wp_region_held_drew (S:=fun V=>Below X w V∧Six V X (.int .i64 t.kind) (.int .i64 t.n) (.string t.name) (.slice ra t.r.length rc) (.slice ka t.kids.length kc) (.slice sa t.sys.length sc)) (by kernel_rfl) ⟨(HB.out w2 b2).drew,⟨(HC.out w2 b2).blk⟩⟩ (fun hS=>?_)
  obtain⟨wd,hwd⟩:∃ V,V=w2.drew:=⟨_,rfl⟩
  have hbd:Below w1.heap.size w1 wd:=by rw [hwd];exact b2.drew
  rw [← hwd] at hS ⊢
  clear hwd b2
  refine wpAnyH_take (i:=0) (v:=.int .i64 i) rfl (by kernel_rfl) (by kernel_rfl) (by kernel_rfl) (fun _ _ _ h=>h) (Or.inl ⟨by rfl,fun w hS=>by go_simp⟩) hS ?_
  try simp only [Act.put,List.getElem_toArray,List.getElem_cons_zero,List.getElem_cons_succ,List.setIfInBounds_toArray,List.set_cons_zero,List.set_cons_succ]
  refine wpAnyH_take (i:=1) (v:=.slice va LR vc) rfl (by kernel_rfl) (by kernel_rfl) (by kernel_rfl) (fun _ _ _ h=>h) (Or.inl ⟨by rfl,fun w hS=>by go_simp⟩) hS ?_
  try simp only [Act.put,List.getElem_toArray,List.getElem_cons_zero,List.getElem_cons_succ,List.setIfInBounds_toArray,List.set_cons_zero,List.set_cons_succ]
  refine wpAnyH_take (i:=3) (v:=.agg #[.int .i64 t.kind,.int .i64 t.n,.string t.name,.slice ra t.r.length rc,.slice ka t.kids.length kc,.slice sa t.sys.length sc]) rfl (by kernel_rfl) (by kernel_rfl) (by kernel_rfl) (fun _ _ _ h=>h) (Or.inl ⟨by rfl,fun w hS=>by obtain⟨y0,y1,y2,y3,y4,y5,_⟩:=hS.2.cells;go_simp⟩) hS ?_
  try simp only [Act.put,List.getElem_toArray,List.getElem_cons_zero,List.getElem_cons_succ,List.setIfInBounds_toArray,List.set_cons_zero,List.set_cons_succ]
  refine wpAnyH_ready (rs:=[2]) (by kernel_rfl) (by simp) ?_
  refine ready_cons rfl (fun KK hKK=>?_) AllReadyH.nil
  refine⟨?_⟩
  have cc:=cP.out wd hbd
  go_simp
  refine cc.mono ?_
  rintro e w3 ⟨fV,cV,rfl,hF,hC,hbq⟩
  have hbd:Below w1.heap.size w1 w3:=hbd.trans (hbq.mono hbd.size)
  clear cc hbq
  refine hKK.out _ _ ⟨HB.out w3 hbd,HC.out w3 hbd⟩ (fun hS=>?_)
  clear hKK KK
  try simp only [Act.put,List.getElem_toArray,List.getElem_cons_zero,List.getElem_cons_succ,List.setIfInBounds_toArray,List.set_cons_zero,List.set_cons_succ]
  refine wpAnyH_ready (rs:=[4]) (by kernel_rfl) (by simp) ?_
  refine ready_cons rfl (fun KK hKK=>?_) AllReadyH.nil
  refine⟨?_⟩
  have cc:=cT.out w3 fV cV hbd hF hC
  go_simp
  refine cc.mono ?_
  rintro e w4 ⟨v3,rfl,hv3,hb3⟩
  obtain⟨ra2,rc2,ka2,kc2,sa2,sc2,rfl,ht2⟩:=hv3.form
  have htv:=ht2.value
  have hn3:=hbd.size
  have hbd:Below w1.heap.size w1 w4:=hbd.trans (hb3.mono hbd.size)
  clear cc ht2 hv3
  refine hKK.out _ _ ⟨HB.out w4 hbd,HC.out w4 hbd⟩ (fun hS=>?_)
  clear hKK KK
  try simp only [Act.put,List.getElem_toArray,List.getElem_cons_zero,List.getElem_cons_succ,List.setIfInBounds_toArray,List.set_cons_zero,List.set_cons_succ]
  refine wpAnyH_take (i:=5) (v:=.agg #[.int .i64 T.kind,.int .i64 T.n,.string T.name,.slice ra2 T.r.length rc2,.slice ka2 T.kids.length kc2,.slice sa2 T.sys.length sc2]) rfl (by kernel_rfl) (by kernel_rfl) (by kernel_rfl) (fun _ _ _ h=>h) (Or.inl ⟨by rfl,fun w hS=>by go_simp⟩) hS ?_
  try simp only [Act.put,List.getElem_toArray,List.getElem_cons_zero,List.getElem_cons_succ,List.setIfInBounds_toArray,List.set_cons_zero,List.set_cons_succ]
  refine wpAnyH_take (i:=6) (v:=.int .i64 er) rfl (by kernel_rfl) (by kernel_rfl) (by kernel_rfl) (fun _ _ _ h=>h) (Or.inl ⟨by rfl,fun w hS=>by go_simp⟩) hS ?_
  try simp only [Act.put,List.getElem_toArray,List.getElem_cons_zero,List.getElem_cons_succ,List.setIfInBounds_toArray,List.set_cons_zero,List.set_cons_succ]
  have zz:=HZ.out w4 hbd
  have zz2:=zz.set6 (.int .i64 T.kind) (.int .i64 T.n) (.string T.name) (.slice ra2 T.r.length rc2) (.slice ka2 T.kids.length kc2) (.slice sa2 T.sys.length sc2)
  obtain⟨o0,o1,o2,o3,o4,o5,ff⟩:=zz.cells
  have f0:=ff 0
  have f1:=ff 1
  have f2:=ff 2
  have f3:=ff 3
  have f4:=ff 4
  have f5:=ff 5
  obtain⟨w5,hwz⟩:∃ W,W=(((((w4.setCell ⟨X+1,0,none⟩ (.int .i64 T.kind)).setCell ⟨X+1,1,none⟩ (.int .i64 T.n)).setCell ⟨X+1,2,none⟩ (.string T.name)).setCell ⟨X+1,3,none⟩ (.slice ra2 T.r.length rc2)).setCell ⟨X+1,4,none⟩ (.slice ka2 T.kids.length kc2)).setCell ⟨X+1,5,none⟩ (.slice sa2 T.sys.length sc2):=⟨_,rfl⟩
  rw [← hwz] at zz2
  have kz:Kn (fun q=>q≠X+1) w4 w5:=by rw [hwz];exact kn_set6 _ _ _ _ _ _ _ _
  have HTm:Hid (TmIn (OkN X w5) w5 T (.agg #[.int .i64 T.kind,.int .i64 T.n,.string T.name,.slice ra2 T.r.length rc2,.slice ka2 T.kids.length kc2,.slice sa2 T.sys.length sc2])):=keepD htv kz (by omega) (by omega)
  have hS5:Below X w w5∧Six w5 X (.int .i64 t.kind) (.int .i64 t.n) (.string t.name) (.slice ra t.r.length rc) (.slice ka t.kids.length kc) (.slice sa t.sys.length sc):=⟨(HB.out w4 hbd).trans (kz.below (fun q hq=>by omega) (by have:=(HB.out w4 hbd).size;have:=HXs.out;omega)),(HC.out w4 hbd).kn kz (by omega)⟩
  have Hwz:Hid (_=_):=hwz
  clear hwz ff zz kz htv
  refine wpAnyH_ready (rs:=[7]) (by kernel_rfl) (by simp) ?_
  refine ready_cons rfl (fun KK hKK=>?_) AllReadyH.nil
  refine⟨?_⟩
  go_simp
  rw [← Hwz.out]
  refine hKK.out _ _ hS5 (fun hS=>?_)
  clear hKK KK
  try simp only [Act.put,List.getElem_toArray,List.getElem_cons_zero,List.getElem_cons_succ,List.setIfInBounds_toArray,List.set_cons_zero,List.set_cons_succ]
  refine wpAnyH_take (i:=8) (v:=.int .i64 er) rfl (by kernel_rfl) (by kernel_rfl) (by kernel_rfl) (fun _ _ _ h=>h) (Or.inl ⟨by rfl,fun w hS=>by go_simp⟩) hS ?_
  try simp only [Act.put,List.getElem_toArray,List.getElem_cons_zero,List.getElem_cons_succ,List.setIfInBounds_toArray,List.set_cons_zero,List.set_cons_succ]
  obtain⟨h0,h1,h2,h3,h4,h5,_⟩:=zz2.cells
  refine wpAnyH_done (by kernel_rfl) ?_ _
  go_wp2_with fail
  exact bodyPost_ret (v:=.tuple #[.agg #[.int .i64 T.kind,.int .i64 T.n,.string T.name,.slice ra2 T.r.length rc2,.slice ka2 T.kids.length kc2,.slice sa2 T.sys.length sc2],.int .i64 (er)]) (by simp only [results,Tryz.results10];simp [go_sem,h0,h1,h2,h3,h4,h5]) rfl ⟨_,by rw [Hf.out.1],by rw [Hf.out.2];exact HTm.out,hS.1⟩
 ·skip
  have Hf:Hid (putE i r t=e0∧putT' i r t=noT):=⟨by rw [HE.out.1,if_neg hz],by rw [HE.out.2,if_neg hz]⟩
  have hz1:(e0 == 0)=false:=by simpa using hz
  clear HE HOk
  have zz:=HZ.out w2 b2
  have zz2:=zz.set6 (.int .i64 0) (.int .i64 0) (.string ⟨#[]⟩) (.slice none 0 0) (.slice none 0 0) (.slice none 0 0)
  obtain⟨o0,o1,o2,o3,o4,o5,ff⟩:=zz.cells
  have f0:=ff 0
  have f1:=ff 1
  have f2:=ff 2
  have f3:=ff 3
  have f4:=ff 4
  have f5:=ff 5
  obtain⟨h0,h1,h2,h3,h4,h5,_⟩:=zz2.cells
  obtain⟨wz,hwz⟩:∃ W,W=(((((w2.setCell ⟨X+1,0,none⟩ (.int .i64 0)).setCell ⟨X+1,1,none⟩ (.int .i64 0)).setCell ⟨X+1,2,none⟩ (.string ⟨#[]⟩)).setCell ⟨X+1,3,none⟩ (.slice none 0 0)).setCell ⟨X+1,4,none⟩ (.slice none 0 0)).setCell ⟨X+1,5,none⟩ (.slice none 0 0):=⟨_,rfl⟩
  rw [← hwz] at h0 h1 h2 h3 h4 h5
  have kz:Kn (fun q=>q≠X+1) w2 wz:=by rw [hwz];exact kn_set6 _ _ _ _ _ _ _ _
  have bz:Below X w wz:=(HB.out w2 b2).trans (kz.below (fun q hq=>by omega) (by have:=(HB.out w2 b2).size;have:=HXs.out;omega))
  have Hwz:Hid (_=_):=hwz
  clear hwz ff zz zz2 kz
  go_wp2_with fail
  rw [← Hwz.out]
  exact bodyPost_ret (v:=.tuple #[.agg #[.int .i64 0,.int .i64 0,.string ⟨#[]⟩,.slice none 0 0,.slice none 0 0,.slice none 0 0],.int .i64 (e0)]) (by simp only [results,Tryz.results10];simp [go_sem,h0,h1,h2,h3,h4,h5]) rfl ⟨_,by rw [Hf.out.1],by rw [Hf.out.2];exact noT_in _ _,bz⟩
def capT:Tm→Nat:=Tm.fold fun _ _ s r ks sys=>1+max r.length 64+s.size+ks.sum+(sys.map fun b=>1+max b.1.length 64+b.2.sum).sum
def capL (l:List Tm):Nat:=(l.map capT).sum
def capS (l:List (List C × List Tm)):Nat:=(l.map fun b=>1+max b.1.length 64+capL b.2).sum
theorem cap_eq (t:Tm):capT t=1+max t.r.length 64+t.name.size+capL t.kids+capS t.sys:=by
 unfold capT;rw [fold_mk];simp only [List.map_map,Function.comp_def];rfl
def DOp.len64 (o:DOp):Prop:=∀ l bd,(o.fn l bd).1.length≤max l.length 64∧(o.fc l bd).1.length≤max l.length 64
theorem capK_le {o:DOp} {k:Int} {bd:Nat}:∀ (l:List Tm) (k0:Nat),(∀ x∈l,∀ d,capT (dT o x d)≤capT x)→((l.zipIdx k0).map fun p=>capT (dT o p.1 (bd+bdK k p.2))).sum≤(l.map capT).sum
 | [],_,_=>by simp
 | x :: l,k0,h=>by
  have h1:=h x (by simp) (bd+bdK k k0)
  have h2:=capK_le (o:=o) (k:=k) (bd:=bd) l (k0+1) (fun y hy=>h y (List.mem_cons_of_mem _ hy))
  simp only [List.zipIdx_cons,List.map_cons,List.sum_cons]
  omega
theorem capM_le {o:DOp} {d:Nat}:∀ (l:List Tm),(∀ x∈l,∀ d,capT (dT o x d)≤capT x)→capL (l.map fun x=>dT o x d)≤capL l
 | [],_=>by simp [capL]
 | x :: l,h=>by
  have h1:=h x (by simp) d
  have h2:=capM_le (o:=o) (d:=d) l (fun y hy=>h y (List.mem_cons_of_mem _ hy))
  unfold capL at h2 ⊢
  simp only [List.map_cons,List.sum_cons]
  omega
theorem capB_le {o:DOp} (ho:o.len64) {k:Int} {bd:Nat}:∀ (l:List (List C × List Tm)),(∀ b∈l,∀ x∈b.2,∀ d,capT (dT o x d)≤capT x)→capS (dS o k l bd)≤capS l
 | [],_=>by simp [capS,dS]
 | b :: l,h=>by
  have h2:=capB_le ho (k:=k) (bd:=bd) l (fun y hy=>h y (List.mem_cons_of_mem _ hy))
  have h1:=(ho b.1 bd).2
  have h3:=capM_le (o:=o) (d:=bd+moreK k) b.2 (h b (by simp))
  have e:capS (b :: l)=(1+max b.1.length 64+capL b.2) + capS l:=by simp [capS]
  rw [e]
  unfold dS at h2 ⊢
  rw [List.filter_cons]
  split
  ·have e2:∀ m,capS (dB o k b bd :: m)=(1+max (o.fc b.1 bd).1.length 64+capL (b.2.map fun x=>dT o x (bd+moreK k))) + capS m:=fun m=>by simp [capS,dB]
   rw [List.map_cons,e2]
   omega
  ·omega
theorem cap_d {o:DOp} (ho:o.len64):∀ (n:Nat) (t:Tm) (bd:Nat),blk t≤n→capT (dT o t bd)≤capT t
 | 0,t,bd,hn=>by have:=blk_pos t;omega
 | n+1,t,bd,hn=>by
  have h1:(ownP o t.kind t.r bd).1.length≤max t.r.length 64:=by
   unfold ownP
   split
   ·exact (ho _ _).2
   ·exact (ho _ _).1
  have h2:capL (dK o t.kind t.kids bd)≤capL t.kids:=by
   have:=capK_le (o:=o) (k:=t.kind) (bd:=bd) t.kids 0 (fun x hx d=>cap_d ho n x d (by have:=blk_kid hx;omega))
   unfold capL dK
   rw [List.map_map]
   exact this
  have h3:=capB_le ho (k:=t.kind) (bd:=bd) t.sys (fun b hb x hx d=>cap_d ho n x d (by have:=blk_sub hb hx;omega))
  have e:=cap_eq (dT o t bd)
  rw [d_eq o t bd] at e ⊢
  rw [e,cap_eq t]
  show 1+max (ownP o t.kind t.r bd).1.length 64+t.name.size+capL (dK o t.kind t.kids bd) + capS (dS o t.kind t.sys bd)≤_
  omega
theorem cap_dT {o:DOp} (ho:o.len64) (t:Tm) (bd:Nat):capT (dT o t bd)≤capT t:=cap_d ho _ t bd (Nat.le_refl _)
theorem capL_ge:∀ (l:List Tm),(∀ x∈l,blk x≤capT x∧capT x≤65*blk x)→blkL l≤capL l∧capL l≤65*blkL l
 | [],_=>by simp [capL,blkL]
 | x :: l,h=>by
  have h1:=h x (by simp)
  have h2:=capL_ge l (fun y hy=>h y (List.mem_cons_of_mem _ hy))
  unfold capL blkL at h2 ⊢
  simp only [List.map_cons,List.sum_cons]
  omega
theorem capS_ge:∀ (l:List (List C × List Tm)),(∀ b∈l,∀ x∈b.2,blk x≤capT x∧capT x≤65*blk x)→blkS l≤capS l∧capS l≤65*blkS l
 | [],_=>by simp [capS,blkS]
 | b :: l,h=>by
  have h1:=capL_ge b.2 (h b (by simp))
  have h2:=capS_ge l (fun y hy=>h y (List.mem_cons_of_mem _ hy))
  unfold capS blkS at h2 ⊢
  simp only [List.map_cons,List.sum_cons]
  omega
theorem cap_ge':∀ (n:Nat) (t:Tm),blk t≤n→blk t≤capT t∧capT t≤65*blk t
 | 0,t,hn=>by have:=blk_pos t;omega
 | n+1,t,hn=>by
  have h2:=capL_ge t.kids (fun x hx=>cap_ge' n x (by have:=blk_kid hx;omega))
  have h3:=capS_ge t.sys (fun b hb x hx=>cap_ge' n x (by have:=blk_sub hb hx;omega))
  rw [cap_eq,blk_eq]
  omega
theorem cap_ge (t:Tm):blk t≤capT t∧capT t≤65*blk t:=cap_ge' _ t (Nat.le_refl _)
theorem noT_cap:capT noT≤65:=by
 rw [cap_eq]
 simp [noT,capL,capS]
 exact Nat.le_refl 65
theorem putOp_len (i:Int) (r:List C):(putOp i r).len64:=fun l bd=>by
 refine⟨?_,?_⟩ <;> (show (putRow _ i r l bd).1.length≤_;unfold putRow;split)
 ·split
  ·have:=putF_len l (i+bd) (liftFF r 0 bd).1;omega
  ·simp
 ·simp;omega
 ·split
  ·have:=rightA_len (ptA_right l (i+bd) (liftFF r 0 bd).1);omega
  ·simp
 ·simp;omega
theorem cap_ans {o:DOp} (ho:o.len64) (t:Tm):capT (ansD o t)≤capT t:=by
 unfold ansD
 split
 ·exact cap_dT ho t 0
 ·have h1:=noT_cap
  have h2:65≤capT t:=by rw [cap_eq];omega
  omega
end Go.Proofs.YtblbhmnahoiecaaGreat
