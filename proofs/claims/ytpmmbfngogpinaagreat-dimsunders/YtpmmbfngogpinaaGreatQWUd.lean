/- The document's small words of layer 13. The document's Swap and Where: 1 at each dimension of a set, then 0 at each of another one. The document's Under. Formulas in the places of dimensions: Take. The chapter's examples, of formulas in the places of dimensions; how great is too great. How a term that came in lies in memory. What a term is where a clause is so: as the document has it. -/
import Derived.Test.YtpmmbfngogpinaaGreatQDnM
import Derived.Deep.RegionHeld
import Derived.Deep.DeepCutAuto
import Derived.Deep.CutBlock
import Derived.Test.YtpmmbfngogpinaaGreatQYDnP
import Derived.Test.YtpmmbfngogpinaaGreatQDmF
import Derived.Test.YtpmmbfngogpinaaGreatQYRRight
import Derived.Test.YtpmmbfngogpinaaGreatQFEU
import Derived.Test.YtpmmbfngogpinaaGreatQYBulk
import Derived.ProofKit
import Derived.OpenShut
import Derived.Lib.SmallJoins
import Derived.Deep.Slices
import Derived.Deep.Strs
import Derived.Test.YtpmmbfngogpinaaGreatQY1
import Derived.Test.YtpmmbfngogpinaaGreatQYRCopy
import Derived.Deep.SlicePairs
set_option linter.unusedVariables false
set_option linter.unusedSimpArgs false
namespace Go.Proofs.YtpmmbfngogpinaaGreat
open Go.RowKit
set_option maxRecDepth 100000 in
set_option maxHeartbeats 2000000 in
theorem rsingle_any (c:C) (w:World):Calls Tryz.prog 51 #[clV c] w fun e w'=>e=.returned (.bool (singleC c))∧Below w.heap.size w w':=by
 have hA:=At.made w c 38
 have hB:=below_alloc w (.cells #[.int .u32 (c.1.val:Int),.int .u32 (c.2.val:Int)] 38)
 obtain⟨w1,hw1⟩:∃ W,W=w.alloc (.cells #[.int .u32 (c.1.val:Int),.int .u32 (c.2.val:Int)] 38):=⟨_,rfl⟩
 rw [← hw1] at hA hB
 have c1:=refcright_any c w1
 have HS:Hid (singleC c=(rightC c && !clashC c)):=(rfl:_=_)
 obtain⟨y0,y1,_⟩:=id hA
 have HA:Hid (At w1 w.heap.size c):=hA
 have HW:Hid (_=_):=hw1
 clear hw1 hA
 show Calls Tryz.prog 51 #[.agg #[.int .u32 (c.1.val:Int),.int .u32 (c.2.val:Int)]] w _
 go_enter Tryz.func51,Tryz.ntmps51
 go_upto_region 1 with fail
 rw [← HW.out]
 clear HW
 go_wp2_with fail
 refine c1.mono ?_
 rintro e w2 ⟨rfl,g2⟩
 have b2:=g2.below
 clear c1 y0 y1 g2
 have hB2:=chain hB b2
 cases hr:rightC c
 ·have HE:Hid (singleC c=false):=(by rw [HS.out,hr];rfl:_=_)
  go_wp2_with fail
  go_ret
  exact⟨by rw [HE.out];rfl,hB2⟩
 ·obtain⟨y0,y1,_⟩:=HA.out.below b2
  have c2:=refclash_any c w2
  go_wp2_with fail
  refine c2.mono ?_
  rintro e w3 ⟨rfl,b3⟩
  clear c2 y0 y1
  have hB3:=chain hB2 b3
  cases hl:clashC c
  ·have HE:Hid (singleC c=true):=(by rw [HS.out,hr,hl];rfl:_=_)
   go_wp2_with fail
   go_ret
   exact⟨by rw [HE.out];rfl,hB3⟩
  ·have HE:Hid (singleC c=false):=(by rw [HS.out,hr,hl];rfl:_=_)
   go_wp2_with fail
   go_ret
   exact⟨by rw [HE.out];rfl,hB3⟩
set_option maxRecDepth 100000 in
set_option maxHeartbeats 2000000 in
theorem rdone_any (t:Tm) (v:Value) (w:World) (hv:TmIn Tt w t v) (hk:0≤t.kind):Calls Tryz.prog 38 #[v] w fun e w'=>e=.returned (.tuple #[v,.int .i64 0])∧Below w.heap.size w w':=by
 obtain⟨ra,rc,ka,kc,sa,sc,rfl,ht⟩:=hv.form
 obtain⟨w1,hw1⟩:∃ W,W=(w.alloc (.cells #[.int .i64 t.kind,.int .i64 t.n,.string t.name,.slice ra t.r.length rc,.slice ka t.kids.length kc,.slice sa t.sys.length sc] 26)).alloc (.cells #[.int .i64 0,.int .i64 0,.string ⟨#[]⟩,.slice none 0 0,.slice none 0 0,.slice none 0 0] 26):=⟨_,rfl⟩
 have b1:Below w.heap.size w w1:=by rw [hw1];exact bchain (belowA _ _) (belowA _ _)
 obtain⟨X,hX⟩:∃ X,X=w.heap.size:=⟨_,rfl⟩
 have x1:Six w1 X (.int .i64 t.kind) (.int .i64 t.n) (.string t.name) (.slice ra t.r.length rc) (.slice ka t.kids.length kc) (.slice sa t.sys.length sc):=⟨by rw [hX,hw1];exact (Below.heap_alloc _ _ _ (by simp)).trans (heapNew w _)⟩
 have x2:Six w1 (X+1) (.int .i64 0) (.int .i64 0) (.string ⟨#[]⟩) (.slice none 0 0) (.slice none 0 0) (.slice none 0 0):=⟨by
  rw [hX,hw1];have:=heapNew (w.alloc (.cells #[.int .i64 t.kind,.int .i64 t.n,.string t.name,.slice ra t.r.length rc,.slice ka t.kids.length kc,.slice sa t.sys.length sc] 26)) (.cells #[.int .i64 0,.int .i64 0,.string ⟨#[]⟩,.slice none 0 0,.slice none 0 0,.slice none 0 0] 26);rwa [World.size_alloc] at this⟩
 have zz2:=x2.set6 (.int .i64 t.kind) (.int .i64 t.n) (.string t.name) (.slice ra t.r.length rc) (.slice ka t.kids.length kc) (.slice sa t.sys.length sc)
 obtain⟨y0,y1,y2,y3,y4,y5,_⟩:=x1.cells
 obtain⟨o0,o1,o2,o3,o4,o5,ff⟩:=x2.cells
 have f0:=ff 0
 have f1:=ff 1
 have f2:=ff 2
 have f3:=ff 3
 have f4:=ff 4
 have f5:=ff 5
 obtain⟨wz,hwz⟩:∃ W,W=(((((w1.setCell ⟨X+1,0,none⟩ (.int .i64 t.kind)).setCell ⟨X+1,1,none⟩ (.int .i64 t.n)).setCell ⟨X+1,2,none⟩ (.string t.name)).setCell ⟨X+1,3,none⟩ (.slice ra t.r.length rc)).setCell ⟨X+1,4,none⟩ (.slice ka t.kids.length kc)).setCell ⟨X+1,5,none⟩ (.slice sa t.sys.length sc):=⟨_,rfl⟩
 rw [← hwz] at zz2
 obtain⟨h0,h1,h2,h3,h4,h5,_⟩:=zz2.cells
 have kz:Kn (fun q=>q≠X+1) w1 wz:=by rw [hwz];exact kn_set6 _ _ _ _ _ _ _ _
 have bz:Below X w wz:=by rw [hX];exact b1.trans (kz.below (fun q hq=>by omega) b1.size)
 have hk1:¬ t.kind<0:=by omega
 have hk2:decide (t.kind<0)=false:=decide_eq_false hk1
 have HXx:Hid (X=w.heap.size):=hX
 have HW:Hid (_=_):=hw1
 have Hz:Hid (_=_):=hwz
 rw [← hX]
 clear hw1 hwz hX ff x1 x2 zz2 kz b1 ht hv
 go_enter Tryz.func38,Tryz.ntmps38
 go_upto_region 1 with fail
 rw [← HW.out]
 simp only [← HXx.out]
 clear HW
 go_wp2_with fail
 rw [← Hz.out]
 exact bodyPost_ret (v:=.tuple #[.agg #[.int .i64 t.kind,.int .i64 t.n,.string t.name,.slice ra t.r.length rc,.slice ka t.kids.length kc,.slice sa t.sys.length sc],.int .i64 0]) (by simp only [results,Tryz.results38];simp [go_sem,h0,h1,h2,h3,h4,h5]) rfl ⟨rfl,bz⟩
end Go.Proofs.YtpmmbfngogpinaaGreat

set_option linter.unusedVariables false
set_option linter.unusedSimpArgs false
namespace Go.Proofs.YtpmmbfngogpinaaGreat
open Go.RowKit
attribute [local go_sem] Oper.semAt_some
set_option maxRecDepth 100000 in
set_option maxHeartbeats 8000000 in
theorem rswap_any {s:DStp} (hs:s.ok) (B:Nat→Prop) (t:Tm) (v vr:Value) (w:World) (hB:∀ q,B q→q<w.heap.size) (hv:TmIn B w t v) (hok:okT true 0 0 t 0 0=true) (hr:ClRow Tt w s.r vr) (hb:blk t≤40000):Calls Tryz.prog 39 #[v,.int .i64 (s.i:Int),vr] w fun e w'=>∃ v',e=.returned v'∧TmIn (OkS B w.heap.size w') w' (dStp t s) v'∧Below w.heap.size w w':=by
 obtain⟨ra,rc,ka,kc,sa,sc,rfl,ht⟩:=hv.form
 obtain⟨w1,hw1⟩:∃ V,V=(w.alloc (.cells #[.int .i64 t.kind,.int .i64 t.n,.string t.name,.slice ra t.r.length rc,.slice ka t.kids.length kc,.slice sa t.sys.length sc] 26)).alloc (.cells #[.int .i64 0,.int .i64 0,.string ⟨#[]⟩,.slice none 0 0,.slice none 0 0,.slice none 0 0] 26):=⟨_,rfl⟩
 have b1:Below w.heap.size w w1:=by rw [hw1];exact bchain (belowA _ _) (belowA _ _)
 obtain⟨X,hX⟩:∃ X,X=w.heap.size:=⟨_,rfl⟩
 have s1:w1.heap.size=X+2:=by rw [hw1,hX];simp
 have x1:Six w1 X (.int .i64 t.kind) (.int .i64 t.n) (.string t.name) (.slice ra t.r.length rc) (.slice ka t.kids.length kc) (.slice sa t.sys.length sc):=⟨by rw [hX,hw1];exact (Below.heap_alloc _ _ _ (by simp)).trans (heapNew w _)⟩
 have x2:Six w1 (X+1) (.int .i64 0) (.int .i64 0) (.string ⟨#[]⟩) (.slice none 0 0) (.slice none 0 0) (.slice none 0 0):=⟨by
  rw [hX,hw1];have:=heapNew (w.alloc (.cells #[.int .i64 t.kind,.int .i64 t.n,.string t.name,.slice ra t.r.length rc,.slice ka t.kids.length kc,.slice sa t.sys.length sc] 26)) (.cells #[.int .i64 0,.int .i64 0,.string ⟨#[]⟩,.slice none 0 0,.slice none 0 0,.slice none 0 0] 26);rwa [World.size_alloc] at this⟩
 have hkp:¬ t.kind<0:=by have:=kind_pos hok;omega
 have hkd:decide (t.kind<0)=false:=decide_eq_false hkp
 have cp:=rp_any hs (blk t) B t 0 0 0 _ vr w1 (fun q h=>by have:=hB q h;have:=b1.size;omega) ((ht.blw b1).value) hok (hr.blw b1) (Nat.le_refl _) (by omega) hb
 have HBX:Hid (∀ q,B q→q<X):=fun q h=>by rw [hX];exact hB q h
 have HD:Hid (dStp t s=dT (putOp s.i s.r) t 0):=(rfl:_=_)
 rw [← HD.out] at cp
 obtain⟨T,hT⟩:∃ T,T=dStp t s:=⟨_,rfl⟩
 rw [← hT] at cp ⊢
 obtain⟨y0,y1,y2,y3,y4,y5,_⟩:=x1.cells
 obtain⟨va,vc,rfl,_⟩:=id hr
 obtain⟨LR,hLR⟩:∃ L,L=s.r.length:=⟨_,rfl⟩
 rw [← hLR] at cp ⊢
 have HW:Hid (_=_):=hw1
 have HX:Hid (X=w.heap.size):=hX
 rw [← hX]
 clear hw1 hX hv ht hB hok hr hb x1 HD hT hLR
 go_enter Tryz.func39,Tryz.ntmps39
 go_upto_region 1 with fail
 rw [← HW.out]
 simp only [← HX.out]
 clear HW
 go_wp2_with fail
 refine cp.mono ?_
 rintro e w2 ⟨v2,rfl,hv2,b2⟩
 clear cp y0 y1 y2 y3 y4 y5
 obtain⟨ra2,rc2,ka2,kc2,sa2,sc2,rfl,_⟩:=hv2.form
 have zz:=x2.blw b2
 have zz2:=zz.set6 (.int .i64 T.kind) (.int .i64 T.n) (.string T.name) (.slice ra2 T.r.length rc2) (.slice ka2 T.kids.length kc2) (.slice sa2 T.sys.length sc2)
 obtain⟨o0,o1,o2,o3,o4,o5,ff⟩:=zz.cells
 have f0:=ff 0
 have f1:=ff 1
 have f2:=ff 2
 have f3:=ff 3
 have f4:=ff 4
 have f5:=ff 5
 obtain⟨w3,hw3⟩:∃ V,V=(((((w2.setCell ⟨X+1,0,none⟩ (.int .i64 T.kind)).setCell ⟨X+1,1,none⟩ (.int .i64 T.n)).setCell ⟨X+1,2,none⟩ (.string T.name)).setCell ⟨X+1,3,none⟩ (.slice ra2 T.r.length rc2)).setCell ⟨X+1,4,none⟩ (.slice ka2 T.kids.length kc2)).setCell ⟨X+1,5,none⟩ (.slice sa2 T.sys.length sc2):=⟨_,rfl⟩
 rw [← hw3] at zz2
 obtain⟨h0,h1,h2,h3,h4,h5,_⟩:=zz2.cells
 have kz:Kn (fun q=>q≠X+1) w2 w3:=by rw [hw3];exact kn_set6 _ _ _ _ _ _ _ _
 have hne:∀ q,OkS B w1.heap.size w2 q→q≠X+1:=fun q hq=>Or.elim hq (fun hq=>by have:=HBX.out q hq.1;omega) (fun hq=>by have:=hq.1;omega)
 have HTm:Hid (TmIn (OkS B X w3) w3 T (.agg #[.int .i64 T.kind,.int .i64 T.n,.string T.name,.slice ra2 T.r.length rc2,.slice ka2 T.kids.length kc2,.slice sa2 T.sys.length sc2])):=hv2.keep kz.size (fun q hq=>(hq.same (kz.block q (hne q hq) hq.lt)).mono (by omega)) (fun q hq hs=>kz.block q (hne q hq) hs)
 have bF:Below X w w3:=by
  rw [HX.out]
  refine (bchain b1 b2).trans (kz.below (fun q hq=>?_) ?_)
  ·have:=HX.out;omega
  ·exact (bchain b1 b2).size
 have H3:Hid (_=_):=hw3
 clear hw3 ff zz zz2 kz hv2 x2 hne
 go_wp2_with fail
 rw [← H3.out]
 exact bodyPost_ret (v:=.agg #[.int .i64 T.kind,.int .i64 T.n,.string T.name,.slice ra2 T.r.length rc2,.slice ka2 T.kids.length kc2,.slice sa2 T.sys.length sc2]) (by simp only [results,Tryz.results39];simp [go_sem,h0,h1,h2,h3,h4,h5]) rfl ⟨_,rfl,HTm.out,bF⟩
def stpL (r:List C) (p:Nat→C) (ds:List Nat):List DStp:=ds.map fun i=>DStp.mk i r (p i)
theorem stpL_step {r:List C} {p:Nat→C} {ds:List Nat} {t:Tm} {k i:Nat} (h:ds[k]? = some i):((stpL r p ds).take (k+1)).foldl dStp t=dStp (((stpL r p ds).take k).foldl dStp t) ⟨i,r,p i⟩:=by
 have h2:(stpL r p ds)[k]? = some ⟨i,r,p i⟩:=by unfold stpL;rw [List.getElem?_map,h];rfl
 rw [List.take_add_one,h2,Option.toList_some,List.foldl_append];rfl
theorem stpL_end {r:List C} {p:Nat→C} {ds:List Nat} {t:Tm} {k:Nat} (h:ds.length≤k):((stpL r p ds).take k).foldl dStp t=(stpL r p ds).foldl dStp t:=by
 rw [List.take_of_length_le (by unfold stpL;simpa using h)]
theorem dStp_ok {s:DStp} (hs:s.ok) {t:Tm} (h:okT true 0 0 t 0 0=true):okT true 0 0 (dStp t s) 0 0=true:=ok_d hs _ t 0 0 0 (Nat.le_refl _) h
theorem dStp_cap (s:DStp) (t:Tm):capT (dStp t s)≤capT t:=cap_dT (putOp_len _ _) t 0
theorem steps_two (c:C):stepsC c=stpL [top0] posB (dimsOf c.1.val) ++ stpL [] negB (dimsOf c.2.val):=rfl
theorem rowOf {w:World} {base:Nat} {vl:Value} {ds:List Nat} (h:OwnsL w base vl ds):∃ la lc,vl=.slice la ds.length lc∧(∀ (k i:Nat),ds[k]? = some i→∃ g,la=some ⟨g,0,none⟩∧base≤g∧g<w.heap.size∧w.cell? ⟨g,k,none⟩=some (.int .i64 (i:Int))):=by
 rcases h.rowAt with ⟨rfl,hz⟩|⟨g,cap,rfl,hg,hc⟩
 ·subst hz;exact⟨none,0,rfl,fun k i h=>by simp at h⟩
 ·refine⟨_,_,rfl,fun k i hi=>⟨g,rfl,(World.ownsRow.lt h g rfl).1,hg,?_⟩⟩
  have:=hc k (List.getElem?_eq_some_iff.1 hi).1
  rw [hi] at this
  simpa using this
theorem rowc13 (w:World) (g:Nat) (c:C) (h:w.heap[g]? = some (.cells #[.int .u32 (c.1.val:Int),.int .u32 (c.2.val:Int)] 38 (0,0))):ClRow Tt w [c] (.slice (some ⟨g,0,none⟩) 1 1):=by
 refine⟨_,_,rfl,Nat.le_refl _,fun j x hx=>?_⟩
 have hj:j=0:=by have:=some_lt hx;simp at this;omega
 subst hj
 simp only [List.getElem?_cons_zero,Option.some.injEq] at hx
 subst hx
 refine⟨g,0,rfl,trivial,(Array.getElem?_eq_some_iff.1 h).1,?_,?_⟩ <;> (unfold World.cell?; simp [h])
set_option maxRecDepth 100000 in
set_option maxHeartbeats 16000000 in
theorem rwhere_any (B:Nat→Prop) (t:Tm) (v:Value) (w:World) (hB:∀ q,B q→q<w.heap.size) (hv:TmIn B w t v) (hok:okT true 0 0 t 0 0=true) (hcp:capT t≤40000) (c:C):Calls Tryz.prog 52 #[v,clV c] w fun e w'=>∃ v',e=.returned v'∧TmIn (fun q=>B q∨w.heap.size≤q) w' ((stepsC c).foldl dStp t) v'∧Below w.heap.size w w':=by
 obtain⟨ra,rc,ka,kc,sa,sc,rfl,ht⟩:=hv.form
 obtain⟨w1,hw1⟩:∃ W,W=((w.alloc (.cells #[.int .i64 t.kind,.int .i64 t.n,.string t.name,.slice ra t.r.length rc,.slice ka t.kids.length kc,.slice sa t.sys.length sc] 26)).alloc (.cells #[.int .u32 (c.1.val:Int),.int .u32 (c.2.val:Int)] 38)).alloc (.cells #[.int .i64 0,.int .i64 0,.string ⟨#[]⟩,.slice none 0 0,.slice none 0 0,.slice none 0 0] 26):=⟨_,rfl⟩
 have b1:Below w.heap.size w w1:=by rw [hw1];exact bchain (bchain (belowA _ _) (belowA _ _)) (belowA _ _)
 obtain⟨X,hX⟩:∃ X,X=w.heap.size:=⟨_,rfl⟩
 have s1:w1.heap.size=X+3:=by rw [hw1,hX];simp
 have x1:Six w1 X (.int .i64 t.kind) (.int .i64 t.n) (.string t.name) (.slice ra t.r.length rc) (.slice ka t.kids.length kc) (.slice sa t.sys.length sc):=⟨by rw [hX,hw1];exact (Below.heap_alloc _ _ _ (by simp;omega)).trans ((Below.heap_alloc _ _ _ (by simp)).trans (heapNew w _))⟩
 have xc:w1.heap[X+1]? = some (.cells #[.int .u32 (c.1.val:Int),.int .u32 (c.2.val:Int)] 38 (0,0)):=by
  rw [hX,hw1]
  refine (Below.heap_alloc _ _ _ (by simp)).trans ?_
  have:=heapNew (w.alloc (.cells #[.int .i64 t.kind,.int .i64 t.n,.string t.name,.slice ra t.r.length rc,.slice ka t.kids.length kc,.slice sa t.sys.length sc] 26)) (.cells #[.int .u32 (c.1.val:Int),.int .u32 (c.2.val:Int)] 38);rwa [World.size_alloc] at this
 have x2:Six w1 (X+2) (.int .i64 0) (.int .i64 0) (.string ⟨#[]⟩) (.slice none 0 0) (.slice none 0 0) (.slice none 0 0):=⟨by
  rw [hX,hw1];have:=heapNew ((w.alloc (.cells #[.int .i64 t.kind,.int .i64 t.n,.string t.name,.slice ra t.r.length rc,.slice ka t.kids.length kc,.slice sa t.sys.length sc] 26)).alloc (.cells #[.int .u32 (c.1.val:Int),.int .u32 (c.2.val:Int)] 38)) (.cells #[.int .i64 0,.int .i64 0,.string ⟨#[]⟩,.slice none 0 0,.slice none 0 0,.slice none 0 0] 26);rwa [World.size_alloc,World.size_alloc] at this⟩
 have hc1:=c.1.isLt
 have hc2:=c.2.isLt
 have cl:=refList_any c.1.val w1 hc1
 have htL:TmIn (fun q=>((B q∨X≤q)∧q≠X∧q≠X+2)∧q<w1.heap.size) w1 t (.agg #[.int .i64 t.kind,.int .i64 t.n,.string t.name,.slice ra t.r.length rc,.slice ka t.kids.length kc,.slice sa t.sys.length sc]):=ht.value.keep b1.size (fun q hq=>by have:=hB q hq;exact⟨⟨.inl hq,by omega,by omega⟩,by omega⟩) (fun q _ hs=>b1.block q hs)
 have HE:Hid ((stepsC c).foldl dStp t=(stpL [] negB (dimsOf c.2.val)).foldl dStp ((stpL [top0] posB (dimsOf c.1.val)).foldl dStp t)):=(by rw [steps_two,List.foldl_append]:_=_)
 obtain⟨R,hR⟩:∃ R,R=(stepsC c).foldl dStp t:=⟨_,rfl⟩
 rw [← hR] at HE ⊢
 have HK0:Hid (okT true 0 0 t 0 0=true∧capT t≤40000):=⟨hok,hcp⟩
 obtain⟨ds,hds⟩:∃ l,l=dimsOf c.1.val:=⟨_,rfl⟩
 have HD:Hid (∀ k∈ds,k<24):=fun k hk=>dimsOf_lt k (by rw [← hds];exact hk)
 have hL24:ds.length≤24:=by rw [hds];exact Nat.le_trans (List.length_filter_le _ _) (by simp)
 rw [← hds] at cl HE
 have HXs:Hid (X=w.heap.size):=hX
 have Hs1:Hid (w1.heap.size=X+3):=s1
 have HW:Hid (_=_):=hw1
 have y0:w1.cell? ⟨X+1,0,none⟩=some (.int .u32 (c.1.val:Int)):=by simp [World.cell?,xc]
 have HBw:Hid (Below X w w1):=by rw [hX];exact b1
 have HC:Hid (∀ W,Kn (fun q=>q≠X) w1 W→W.cell? ⟨X+1,1,none⟩=some (.int .u32 (c.2.val:Int))∧Six W (X+2) (.int .i64 0) (.int .i64 0) (.string ⟨#[]⟩) (.slice none 0 0) (.slice none 0 0) (.slice none 0 0)):=fun W q=>by
  have h:=(q.block (X+1) (by omega) (by omega)).trans xc
  exact⟨by simp [World.cell?,h],x2.kn q (by omega)⟩
 rw [← hX]
 clear hw1 hX s1 x2 xc hv ht b1 hok hcp hR hds hB
 show Calls Tryz.prog 52 #[.agg #[.int .i64 t.kind,.int .i64 t.n,.string t.name,.slice ra t.r.length rc,.slice ka t.kids.length kc,.slice sa t.sys.length sc],.agg #[.int .u32 (c.1.val:Int),.int .u32 (c.2.val:Int)]] w _
 go_enter Tryz.func52,Tryz.ntmps52
 go_upto_region 1 with fail
 rw [← HW.out]
 simp only [← HXs.out]
 clear HW
 generalize (Value.agg #[Value.int .u32 (c.1.val:Int),Value.int .u32 (c.2.val:Int)])=cv
 go_wp2_with fail
 refine cl.mono ?_
 rintro e w2 ⟨vl,rfl,hOl,b2⟩
 clear cl y0
 have hs1:=Hs1.out
 obtain⟨la,lc,rfl,hrow⟩:=rowOf hOl
 have Hrow:Hid (∀ (k i:Nat),ds[k]? = some i→∃ g,la=some ⟨g,0,none⟩∧w1.heap.size≤g∧g<w2.heap.size∧w2.cell? ⟨g,k,none⟩=some (.int .i64 (i:Int))):=hrow
 obtain⟨L,hL⟩:∃ L,L=ds.length:=⟨_,rfl⟩
 have HL:Hid (L=ds.length):=hL
 rw [← hL] at hL24 ⊢
 have HBk:Hid (∀ V,Kn (fun q=>q≠X) w2 V→Below X w V):=fun V q=>(HBw.out.trans (b2.mono (by omega))).trans (q.below (fun q hq=>by omega) (by have:=b2.size;omega))
 have HCk:Hid (∀ V,Kn (fun q=>q≠X) w2 V→V.cell? ⟨X+1,1,none⟩=some (.int .u32 (c.2.val:Int))∧Six V (X+2) (.int .i64 0) (.int .i64 0) (.string ⟨#[]⟩) (.slice none 0 0) (.slice none 0 0) (.slice none 0 0)):=fun V q=>HC.out V ((Kn.of_below b2).trans q)
 have hs2:X+3≤w2.heap.size:=by have:=b2.size;omega
 have HX2:Hid (X+3≤w2.heap.size):=hs2
 have hC2:=x1.blw b2
 have hT2:TmIn (fun q=>((B q∨X≤q)∧q≠X∧q≠X+2)∧q<w2.heap.size) w2 t (.agg #[.int .i64 t.kind,.int .i64 t.n,.string t.name,.slice ra t.r.length rc,.slice ka t.kids.length kc,.slice sa t.sys.length sc]):=htL.keep b2.size (fun q hq=>⟨hq.1,Nat.lt_of_lt_of_le hq.2 b2.size⟩) (fun q _ hs=>b2.block q hs)
 clear hOl hrow hL x1 htL b2 HBw HC
 go_wp2_with fail
 go_loopw [6] (fun s wr=>∃ (k:Nat) (T:Tm) (ra2:Option Addr) (rc2:Nat) (ka2:Option Addr) (kc2:Nat) (sa2:Option Addr) (sc2:Nat),k≤L∧s=.int .i64 k∧Six wr X (.int .i64 T.kind) (.int .i64 T.n) (.string T.name) (.slice ra2 T.r.length rc2) (.slice ka2 T.kids.length kc2) (.slice sa2 T.sys.length sc2)∧TmIn (fun q=>((B q∨X≤q)∧q≠X∧q≠X+2)∧q<wr.heap.size) wr T (.agg #[.int .i64 T.kind,.int .i64 T.n,.string T.name,.slice ra2 T.r.length rc2,.slice ka2 T.kids.length kc2,.slice sa2 T.sys.length sc2])∧Kn (fun q=>q≠X) w2 wr∧Hid (T=((stpL [top0] posB ds).take k).foldl dStp t∧okT true 0 0 T 0 0=true∧capT T≤40000)) (fun s _=>L - (intOf s).toNat)
 case atStart=>exact⟨0,t,_,_,_,_,_,_,Nat.zero_le _,rfl,hC2,hT2,Kn.refl _ _,⟨rfl,HK0.out⟩⟩
 case round =>
  obtain⟨wq,hwq⟩:∃ wq,wq=wr:=⟨_,rfl⟩
  subst hwq
  clear hC2 hT2
  obtain⟨k,T,ra2,rc2,ka2,kc2,sa2,sc2,hk,rfl,hO,hTm,hK,HP⟩:=hrel
  have hsq:X+3≤wq.heap.size:=by have:=HX2.out;have:=hK.size;omega
  by_cases hlt:k<L
  ·have hkI:(k:Int) < (L:Int):=by omega
   obtain⟨i,hi⟩:=someL (l:=ds) (k:=k) (by rw [← HL.out];exact hlt)
   have hi24:=HD.out i (List.mem_of_getElem? hi)
   have hs:(DStp.mk i [top0] (posB i)).ok:=⟨hi24,.inl ⟨rfl,rfl⟩⟩
   obtain⟨g,hla,hgX,hgl,hgc⟩:=Hrow.out k i hi
   cases hla
   have Hcg:Hid (∀ V,Kn (fun q=>q≠X) w2 V→V.cell? ⟨g,k,none⟩=some (.int .i64 (i:Int))):=fun V q=>by
    rw [World.cell?_of_block (w:=w2) (w':=V) (a:=⟨g,k,none⟩) (q.block g (by have:=Hs1.out;omega) hgl)];exact hgc
   obtain⟨T2,hT2⟩:∃ T2,T2=dStp T ⟨i,[top0],posB i⟩:=⟨_,rfl⟩
   have cS:Hid (∀ V vr,Below wq.heap.size wq V→ClRow Tt V [top0] vr→Calls Tryz.prog 39 #[.agg #[.int .i64 T.kind,.int .i64 T.n,.string T.name,.slice ra2 T.r.length rc2,.slice ka2 T.kids.length kc2,.slice sa2 T.sys.length sc2],.int .i64 (i:Int),vr] V fun e w'=>∃ v',e=.returned v'∧TmIn (OkS (fun q=>((B q∨X≤q)∧q≠X∧q≠X+2)∧q<wq.heap.size) V.heap.size w') w' T2 v'∧Below V.heap.size V w'):=fun V vr q hr=>by
    rw [hT2]
    exact rswap_any hs (fun q=>((B q∨X≤q)∧q≠X∧q≠X+2)∧q<wq.heap.size) T _ vr V (fun q' h=>Nat.lt_of_lt_of_le h.2 q.size) (hTm.keep q.size (fun _ h=>h) (fun k' _ hs'=>q.block k' hs')) HP.out.2.1 hr (Nat.le_trans (cap_ge T).1 HP.out.2.2)
   have HNx:Hid (T2=((stpL [top0] posB ds).take (k+1)).foldl dStp t∧okT true 0 0 T2 0 0=true∧capT T2≤40000):=⟨by rw [hT2,stpL_step hi,← HP.out.1],by rw [hT2];exact dStp_ok hs HP.out.2.1,by rw [hT2];exact Nat.le_trans (dStp_cap _ _) HP.out.2.2⟩
   clear hT2 hTm hgc hi hs HP
   go_upto_region 5 with fail
   refine wp_region_held_drew (S:=fun V=>Kn (fun q=>q≠X) w2 V) (by kernel_rfl) hK.drew (fun hS=>?_)
   obtain⟨wd,hwd⟩:∃ V,V=wq.drew:=⟨_,rfl⟩
   have hbd:Below wq.heap.size wq wd:=by rw [hwd];exact (Below.refl _ _).drew
   rw [← hwd] at hS ⊢
   clear hwd
   refine wpAnyH_take (i:=1) (v:=.slice (some ⟨g,0,none⟩) L lc) rfl (by kernel_rfl) (by kernel_rfl) (by kernel_rfl) (fun _ _ _ h=>h) (Or.inl ⟨by rfl,fun w hS=>by go_simp⟩) hS ?_
   try simp only [Act.put,List.getElem_toArray,List.getElem_cons_zero,List.getElem_cons_succ,List.setIfInBounds_toArray,List.set_cons_zero,List.set_cons_succ]
   refine wpAnyH_take (i:=2) (v:=.int .i64 (k:Int)) rfl (by kernel_rfl) (by kernel_rfl) (by kernel_rfl) (fun _ _ _ h=>h) (Or.inl ⟨by rfl,fun w hS=>by go_simp⟩) hS ?_
   try simp only [Act.put,List.getElem_toArray,List.getElem_cons_zero,List.getElem_cons_succ,List.setIfInBounds_toArray,List.set_cons_zero,List.set_cons_succ]
   refine wpAnyH_take (i:=3) (v:=.pointer (some ⟨g,k,none⟩)) rfl (by kernel_rfl) (by kernel_rfl) (by kernel_rfl) (fun _ _ _ h=>h) (Or.inl ⟨by rfl,fun w hS=>by go_simp⟩) hS ?_
   try simp only [Act.put,List.getElem_toArray,List.getElem_cons_zero,List.getElem_cons_succ,List.setIfInBounds_toArray,List.set_cons_zero,List.set_cons_succ]
   refine wpAnyH_take (i:=4) (v:=.int .i64 (i:Int)) rfl (by kernel_rfl) (by kernel_rfl) (by kernel_rfl) (fun _ _ _ h=>h) (Or.inl ⟨by rfl,fun w hS=>by have e:=Hcg.out w hS;go_simp⟩) hS ?_
   try simp only [Act.put,List.getElem_toArray,List.getElem_cons_zero,List.getElem_cons_succ,List.setIfInBounds_toArray,List.set_cons_zero,List.set_cons_succ]
   refine wpAnyH_take (i:=5) (v:=.agg #[.int .u32 0,.int .u32 0]) rfl (by kernel_rfl) (by kernel_rfl) (by kernel_rfl) (fun _ _ _ h=>h) (Or.inl ⟨by rfl,fun w hS=>by go_simp⟩) hS ?_
   try simp only [Act.put,List.getElem_toArray,List.getElem_cons_zero,List.getElem_cons_succ,List.setIfInBounds_toArray,List.set_cons_zero,List.set_cons_succ]
   refine wpAnyH_ready (rs:=[0,6]) (by kernel_rfl) (by simp) ?_
   refine ready_cons rfl (fun KK hKK=>?_) (ready_cons rfl (fun KK hKK=>?_) AllReadyH.nil)
   ·skip
    refine⟨?_⟩
    obtain⟨y0,y1,y2,y3,y4,y5,_⟩:=(hO.blw hbd).cells
    go_simp
    clear y0 y1 y2 y3 y4 y5
    refine hKK.out _ _ hS (fun hS=>?_)
    clear hKK KK
    try simp only [Act.put,List.getElem_toArray,List.getElem_cons_zero,List.getElem_cons_succ,List.setIfInBounds_toArray,List.set_cons_zero,List.set_cons_succ]
    refine wpAnyH_ready (rs:=[6]) (by kernel_rfl) (by simp) ?_
    refine ready_cons rfl (fun KK hKK=>?_) AllReadyH.nil
    obtain⟨w3,hw3⟩:∃ W,W=wd.alloc (.cells #[.int .u32 0,.int .u32 0] 38):=⟨_,rfl⟩
    have bw3:Below wd.heap.size wd w3:=by rw [hw3];exact belowA _ _
    have hRr:ClRow Tt w3 [top0] (.slice (some ⟨wd.heap.size,0,none⟩) 1 1):=rowc13 w3 wd.heap.size top0 (by rw [hw3];exact heapNew _ _)
    have hbd:Below wq.heap.size wq w3:=hbd.trans (bw3.mono hbd.size)
    have Hw3:Hid (_=_):=hw3
    clear hw3
    refine⟨?_⟩
    go_simp
    rw [← Hw3.out]
    refine hKK.out _ _ (hK.trans (Kn.of_below hbd)) (fun hS=>?_)
    clear hKK KK
    try simp only [Act.put,List.getElem_toArray,List.getElem_cons_zero,List.getElem_cons_succ,List.setIfInBounds_toArray,List.set_cons_zero,List.set_cons_succ]
    refine wpAnyH_ready (rs:=[7]) (by kernel_rfl) (by simp) ?_
    refine ready_cons rfl (fun KK hKK=>?_) AllReadyH.nil
    refine⟨?_⟩
    have cc:=cS.out w3 (.slice (some ⟨wd.heap.size,0,none⟩) 1 1) hbd hRr
    go_simp
    refine cc.mono ?_
    rintro e w4 ⟨v3,rfl,hv3,hb3⟩
    obtain⟨ra2b,rc2b,ka2b,kc2b,sa2b,sc2b,rfl,ht2⟩:=hv3.form
    have htv:=ht2.value
    have hn3:=hbd.size
    have hbd:Below wq.heap.size wq w4:=hbd.trans (hb3.mono hbd.size)
    clear cc ht2 hv3
    refine hKK.out _ _ (hK.trans (Kn.of_below hbd)) (fun hS=>?_)
    clear hKK KK
    try simp only [Act.put,List.getElem_toArray,List.getElem_cons_zero,List.getElem_cons_succ,List.setIfInBounds_toArray,List.set_cons_zero,List.set_cons_succ]
    have zz:=hO.blw hbd
    have zz2:=zz.set6 (.int .i64 T2.kind) (.int .i64 T2.n) (.string T2.name) (.slice ra2b T2.r.length rc2b) (.slice ka2b T2.kids.length kc2b) (.slice sa2b T2.sys.length sc2b)
    obtain⟨o0,o1,o2,o3,o4,o5,ff⟩:=zz.cells
    have f0:=ff 0
    have f1:=ff 1
    have f2:=ff 2
    have f3:=ff 3
    have f4:=ff 4
    have f5:=ff 5
    obtain⟨w5,hwz⟩:∃ W,W=(((((w4.setCell ⟨X,0,none⟩ (.int .i64 T2.kind)).setCell ⟨X,1,none⟩ (.int .i64 T2.n)).setCell ⟨X,2,none⟩ (.string T2.name)).setCell ⟨X,3,none⟩ (.slice ra2b T2.r.length rc2b)).setCell ⟨X,4,none⟩ (.slice ka2b T2.kids.length kc2b)).setCell ⟨X,5,none⟩ (.slice sa2b T2.sys.length sc2b):=⟨_,rfl⟩
    rw [← hwz] at zz2
    have kz:Kn (fun q=>q≠X) w4 w5:=by rw [hwz];exact kn_set6 _ _ _ _ _ _ _ _
    have hne:∀ q,OkS (fun q=>((B q∨X≤q)∧q≠X∧q≠X+2)∧q<wq.heap.size) w3.heap.size w4 q→((B q∨X≤q)∧q≠X∧q≠X+2):=fun q hq=>Or.elim hq (fun hq=>hq.1.1) (fun hq=>by have:=hq.1;exact⟨.inr (by omega),by omega,by omega⟩)
    have HTm:Hid (TmIn (fun q=>((B q∨X≤q)∧q≠X∧q≠X+2)∧q<w5.heap.size) w5 T2 (.agg #[.int .i64 T2.kind,.int .i64 T2.n,.string T2.name,.slice ra2b T2.r.length rc2b,.slice ka2b T2.kids.length kc2b,.slice sa2b T2.sys.length sc2b])):=htv.keep kz.size (fun q hq=>⟨hne q hq,Nat.lt_of_lt_of_le hq.lt kz.size⟩) (fun q hq hs=>kz.block q (hne q hq).2.1 hs)
    have hS5:Kn (fun q=>q≠X) w2 w5:=(hK.trans (Kn.of_below hbd)).trans kz
    have Hwz:Hid (_=_):=hwz
    clear hwz ff zz kz htv hne
    refine wpAnyH_ready (rs:=[8]) (by kernel_rfl) (by simp) ?_
    refine ready_cons rfl (fun KK hKK=>?_) AllReadyH.nil
    refine⟨?_⟩
    go_simp
    rw [← Hwz.out]
    refine hKK.out _ _ hS5 (fun hS=>?_)
    clear hKK KK
    try simp only [Act.put,List.getElem_toArray,List.getElem_cons_zero,List.getElem_cons_succ,List.setIfInBounds_toArray,List.set_cons_zero,List.set_cons_succ]
    refine wpAnyH_done (by kernel_rfl) ?_ _
    clear cS
    go_wp2_with fail
    go_roundw
    case rel=>exact⟨k+1,T2,_,_,_,_,_,_,by omega,by go_num,zz2,HTm.out,hS5,HNx⟩
    case measure=>simp [intOf];omega
   ·skip
    obtain⟨w3,hw3⟩:∃ W,W=wd.alloc (.cells #[.int .u32 0,.int .u32 0] 38):=⟨_,rfl⟩
    have bw3:Below wd.heap.size wd w3:=by rw [hw3];exact belowA _ _
    have hRr:ClRow Tt w3 [top0] (.slice (some ⟨wd.heap.size,0,none⟩) 1 1):=rowc13 w3 wd.heap.size top0 (by rw [hw3];exact heapNew _ _)
    have hbd:Below wq.heap.size wq w3:=hbd.trans (bw3.mono hbd.size)
    have Hw3:Hid (_=_):=hw3
    clear hw3
    refine⟨?_⟩
    go_simp
    rw [← Hw3.out]
    refine hKK.out _ _ (hK.trans (Kn.of_below hbd)) (fun hS=>?_)
    clear hKK KK
    try simp only [Act.put,List.getElem_toArray,List.getElem_cons_zero,List.getElem_cons_succ,List.setIfInBounds_toArray,List.set_cons_zero,List.set_cons_succ]
    refine wpAnyH_ready (rs:=[0]) (by kernel_rfl) (by simp) ?_
    refine ready_cons rfl (fun KK hKK=>?_) AllReadyH.nil
    refine⟨?_⟩
    obtain⟨y0,y1,y2,y3,y4,y5,_⟩:=(hO.blw hbd).cells
    go_simp
    clear y0 y1 y2 y3 y4 y5
    refine hKK.out _ _ hS (fun hS=>?_)
    clear hKK KK
    try simp only [Act.put,List.getElem_toArray,List.getElem_cons_zero,List.getElem_cons_succ,List.setIfInBounds_toArray,List.set_cons_zero,List.set_cons_succ]
    refine wpAnyH_ready (rs:=[7]) (by kernel_rfl) (by simp) ?_
    refine ready_cons rfl (fun KK hKK=>?_) AllReadyH.nil
    refine⟨?_⟩
    have cc:=cS.out w3 (.slice (some ⟨wd.heap.size,0,none⟩) 1 1) hbd hRr
    go_simp
    refine cc.mono ?_
    rintro e w4 ⟨v3,rfl,hv3,hb3⟩
    obtain⟨ra2b,rc2b,ka2b,kc2b,sa2b,sc2b,rfl,ht2⟩:=hv3.form
    have htv:=ht2.value
    have hn3:=hbd.size
    have hbd:Below wq.heap.size wq w4:=hbd.trans (hb3.mono hbd.size)
    clear cc ht2 hv3
    refine hKK.out _ _ (hK.trans (Kn.of_below hbd)) (fun hS=>?_)
    clear hKK KK
    try simp only [Act.put,List.getElem_toArray,List.getElem_cons_zero,List.getElem_cons_succ,List.setIfInBounds_toArray,List.set_cons_zero,List.set_cons_succ]
    have zz:=hO.blw hbd
    have zz2:=zz.set6 (.int .i64 T2.kind) (.int .i64 T2.n) (.string T2.name) (.slice ra2b T2.r.length rc2b) (.slice ka2b T2.kids.length kc2b) (.slice sa2b T2.sys.length sc2b)
    obtain⟨o0,o1,o2,o3,o4,o5,ff⟩:=zz.cells
    have f0:=ff 0
    have f1:=ff 1
    have f2:=ff 2
    have f3:=ff 3
    have f4:=ff 4
    have f5:=ff 5
    obtain⟨w5,hwz⟩:∃ W,W=(((((w4.setCell ⟨X,0,none⟩ (.int .i64 T2.kind)).setCell ⟨X,1,none⟩ (.int .i64 T2.n)).setCell ⟨X,2,none⟩ (.string T2.name)).setCell ⟨X,3,none⟩ (.slice ra2b T2.r.length rc2b)).setCell ⟨X,4,none⟩ (.slice ka2b T2.kids.length kc2b)).setCell ⟨X,5,none⟩ (.slice sa2b T2.sys.length sc2b):=⟨_,rfl⟩
    rw [← hwz] at zz2
    have kz:Kn (fun q=>q≠X) w4 w5:=by rw [hwz];exact kn_set6 _ _ _ _ _ _ _ _
    have hne:∀ q,OkS (fun q=>((B q∨X≤q)∧q≠X∧q≠X+2)∧q<wq.heap.size) w3.heap.size w4 q→((B q∨X≤q)∧q≠X∧q≠X+2):=fun q hq=>Or.elim hq (fun hq=>hq.1.1) (fun hq=>by have:=hq.1;exact⟨.inr (by omega),by omega,by omega⟩)
    have HTm:Hid (TmIn (fun q=>((B q∨X≤q)∧q≠X∧q≠X+2)∧q<w5.heap.size) w5 T2 (.agg #[.int .i64 T2.kind,.int .i64 T2.n,.string T2.name,.slice ra2b T2.r.length rc2b,.slice ka2b T2.kids.length kc2b,.slice sa2b T2.sys.length sc2b])):=htv.keep kz.size (fun q hq=>⟨hne q hq,Nat.lt_of_lt_of_le hq.lt kz.size⟩) (fun q hq hs=>kz.block q (hne q hq).2.1 hs)
    have hS5:Kn (fun q=>q≠X) w2 w5:=(hK.trans (Kn.of_below hbd)).trans kz
    have Hwz:Hid (_=_):=hwz
    clear hwz ff zz kz htv hne
    refine wpAnyH_ready (rs:=[8]) (by kernel_rfl) (by simp) ?_
    refine ready_cons rfl (fun KK hKK=>?_) AllReadyH.nil
    refine⟨?_⟩
    go_simp
    rw [← Hwz.out]
    refine hKK.out _ _ hS5 (fun hS=>?_)
    clear hKK KK
    try simp only [Act.put,List.getElem_toArray,List.getElem_cons_zero,List.getElem_cons_succ,List.setIfInBounds_toArray,List.set_cons_zero,List.set_cons_succ]
    refine wpAnyH_done (by kernel_rfl) ?_ _
    clear cS
    go_wp2_with fail
    go_roundw
    case rel=>exact⟨k+1,T2,_,_,_,_,_,_,by omega,by go_num,zz2,HTm.out,hS5,HNx⟩
    case measure=>simp [intOf];omega
  ·have hkI:¬ (k:Int) < (L:Int):=by omega
   obtain rfl:k=L:=by omega
   have HP1:Hid (T=(stpL [top0] posB ds).foldl dStp t∧okT true 0 0 T 0 0=true∧capT T≤40000):=⟨by rw [HP.out.1,stpL_end (by rw [HL.out];exact Nat.le_refl _)],HP.out.2⟩
   have HK1:Hid (okT true 0 0 T 0 0=true∧capT T≤40000):=HP.out.2
   rw [← HP1.out.1] at HE
   obtain⟨es,hes⟩:∃ l,l=dimsOf c.2.val:=⟨_,rfl⟩
   have HDe:Hid (∀ k∈es,k<24):=fun k hk=>dimsOf_lt k (by rw [← hes];exact hk)
   have hM24:es.length≤24:=by rw [hes];exact Nat.le_trans (List.length_filter_le _ _) (by simp)
   have cl:=refList_any c.2.val wq hc2
   rw [← hes] at cl HE
   have y1:=(HCk.out wq hK).1
   clear hes HP HP1 hL24
   go_wp2_with fail
   refine cl.mono ?_
   rintro e w7 ⟨vl,rfl,hOl,b7⟩
   clear cl y1
   obtain⟨lb,lc2,rfl,hrow⟩:=rowOf hOl
   have Hrow2:Hid (∀ (k i:Nat),es[k]? = some i→∃ g,lb=some ⟨g,0,none⟩∧wq.heap.size≤g∧g<w7.heap.size∧w7.cell? ⟨g,k,none⟩=some (.int .i64 (i:Int))):=hrow
   obtain⟨M,hM⟩:∃ L,L=es.length:=⟨_,rfl⟩
   have HM:Hid (M=es.length):=hM
   rw [← hM] at hM24 ⊢
   have HB7:Hid (∀ V,Kn (fun q=>q≠X) w7 V→Below X w V):=fun V q=>HBk.out V (hK.trans ((Kn.of_below b7).trans q))
   have HC7:Hid (∀ V,Kn (fun q=>q≠X) w7 V→Six V (X+2) (.int .i64 0) (.int .i64 0) (.string ⟨#[]⟩) (.slice none 0 0) (.slice none 0 0) (.slice none 0 0)):=fun V q=>(HCk.out V (hK.trans ((Kn.of_below b7).trans q))).2
   have hC2:=hO.blw b7
   have hT2:TmIn (fun q=>((B q∨X≤q)∧q≠X∧q≠X+2)∧q<w7.heap.size) w7 T (.agg #[.int .i64 T.kind,.int .i64 T.n,.string T.name,.slice ra2 T.r.length rc2,.slice ka2 T.kids.length kc2,.slice sa2 T.sys.length sc2]):=hTm.keep b7.size (fun q hq=>⟨hq.1,Nat.lt_of_lt_of_le hq.2 b7.size⟩) (fun q _ hs=>b7.block q hs)
   have Hs7:Hid (X+3≤wq.heap.size):=hsq
   have HX2:Hid (X+3≤w7.heap.size):=(by have:=b7.size;omega:X+3≤w7.heap.size)
   have Hs1:Hid (wq.heap.size=wq.heap.size∧X+3≤wq.heap.size):=⟨rfl,hsq⟩
   obtain⟨T1,hT1⟩:∃ T1,T1=T:=⟨_,rfl⟩
   subst hT1
   clear hOl hrow hM hO hTm hK b7 hkI HBk HCk hs2
   go_wp2_with fail
   go_loopw [8] (fun s wr=>∃ (k:Nat) (T:Tm) (ra2:Option Addr) (rc2:Nat) (ka2:Option Addr) (kc2:Nat) (sa2:Option Addr) (sc2:Nat),k≤M∧s=.int .i64 k∧Six wr X (.int .i64 T.kind) (.int .i64 T.n) (.string T.name) (.slice ra2 T.r.length rc2) (.slice ka2 T.kids.length kc2) (.slice sa2 T.sys.length sc2)∧TmIn (fun q=>((B q∨X≤q)∧q≠X∧q≠X+2)∧q<wr.heap.size) wr T (.agg #[.int .i64 T.kind,.int .i64 T.n,.string T.name,.slice ra2 T.r.length rc2,.slice ka2 T.kids.length kc2,.slice sa2 T.sys.length sc2])∧Kn (fun q=>q≠X) w7 wr∧Hid (T=((stpL [] negB es).take k).foldl dStp T1∧okT true 0 0 T 0 0=true∧capT T≤40000)) (fun s _=>M - (intOf s).toNat)
   case atStart=>exact⟨0,T1,_,_,_,_,_,_,Nat.zero_le _,rfl,hC2,hT2,Kn.refl _ _,⟨rfl,HK1.out⟩⟩
   case round =>
    obtain⟨wq,hwq⟩:∃ wq,wq=wr:=⟨_,rfl⟩
    subst hwq
    clear hC2 hT2
    obtain⟨k,T,ra2,rc2,ka2,kc2,sa2,sc2,hk,rfl,hO,hTm,hK,HP⟩:=hrel
    have hsq:X+3≤wq.heap.size:=by have:=HX2.out;have:=hK.size;omega
    by_cases hlt:k<M
    ·have hkI:(k:Int) < (M:Int):=by omega
     obtain⟨i,hi⟩:=someL (l:=es) (k:=k) (by rw [← HM.out];exact hlt)
     have hi24:=HDe.out i (List.mem_of_getElem? hi)
     have hs:(DStp.mk i [] (negB i)).ok:=⟨hi24,.inr ⟨rfl,rfl⟩⟩
     obtain⟨g,hla,hgX,hgl,hgc⟩:=Hrow2.out k i hi
     cases hla
     have Hcg:Hid (∀ V,Kn (fun q=>q≠X) w7 V→V.cell? ⟨g,k,none⟩=some (.int .i64 (i:Int))):=fun V q=>by
      rw [World.cell?_of_block (w:=w7) (w':=V) (a:=⟨g,k,none⟩) (q.block g (by have:=Hs1.out;omega) hgl)];exact hgc
     obtain⟨T2,hT2⟩:∃ T2,T2=dStp T ⟨i,[],negB i⟩:=⟨_,rfl⟩
     have cS:Hid (∀ V vr,Below wq.heap.size wq V→ClRow Tt V [] vr→Calls Tryz.prog 39 #[.agg #[.int .i64 T.kind,.int .i64 T.n,.string T.name,.slice ra2 T.r.length rc2,.slice ka2 T.kids.length kc2,.slice sa2 T.sys.length sc2],.int .i64 (i:Int),vr] V fun e w'=>∃ v',e=.returned v'∧TmIn (OkS (fun q=>((B q∨X≤q)∧q≠X∧q≠X+2)∧q<wq.heap.size) V.heap.size w') w' T2 v'∧Below V.heap.size V w'):=fun V vr q hr=>by
      rw [hT2]
      exact rswap_any hs (fun q=>((B q∨X≤q)∧q≠X∧q≠X+2)∧q<wq.heap.size) T _ vr V (fun q' h=>Nat.lt_of_lt_of_le h.2 q.size) (hTm.keep q.size (fun _ h=>h) (fun k' _ hs'=>q.block k' hs')) HP.out.2.1 hr (Nat.le_trans (cap_ge T).1 HP.out.2.2)
     have HNx:Hid (T2=((stpL [] negB es).take (k+1)).foldl dStp T1∧okT true 0 0 T2 0 0=true∧capT T2≤40000):=⟨by rw [hT2,stpL_step hi,← HP.out.1],by rw [hT2];exact dStp_ok hs HP.out.2.1,by rw [hT2];exact Nat.le_trans (dStp_cap _ _) HP.out.2.2⟩
     clear hT2 hTm hgc hi hs HP
     go_upto_region 10 with fail
     refine wp_region_held_drew (S:=fun V=>Kn (fun q=>q≠X) w7 V) (by kernel_rfl) hK.drew (fun hS=>?_)
     obtain⟨wd,hwd⟩:∃ V,V=wq.drew:=⟨_,rfl⟩
     have hbd:Below wq.heap.size wq wd:=by rw [hwd];exact (Below.refl _ _).drew
     rw [← hwd] at hS ⊢
     clear hwd
     refine wpAnyH_take (i:=1) (v:=.slice (some ⟨g,0,none⟩) M lc2) rfl (by kernel_rfl) (by kernel_rfl) (by kernel_rfl) (fun _ _ _ h=>h) (Or.inl ⟨by rfl,fun w hS=>by go_simp⟩) hS ?_
     try simp only [Act.put,List.getElem_toArray,List.getElem_cons_zero,List.getElem_cons_succ,List.setIfInBounds_toArray,List.set_cons_zero,List.set_cons_succ]
     refine wpAnyH_take (i:=2) (v:=.int .i64 (k:Int)) rfl (by kernel_rfl) (by kernel_rfl) (by kernel_rfl) (fun _ _ _ h=>h) (Or.inl ⟨by rfl,fun w hS=>by go_simp⟩) hS ?_
     try simp only [Act.put,List.getElem_toArray,List.getElem_cons_zero,List.getElem_cons_succ,List.setIfInBounds_toArray,List.set_cons_zero,List.set_cons_succ]
     refine wpAnyH_take (i:=3) (v:=.pointer (some ⟨g,k,none⟩)) rfl (by kernel_rfl) (by kernel_rfl) (by kernel_rfl) (fun _ _ _ h=>h) (Or.inl ⟨by rfl,fun w hS=>by go_simp⟩) hS ?_
     try simp only [Act.put,List.getElem_toArray,List.getElem_cons_zero,List.getElem_cons_succ,List.setIfInBounds_toArray,List.set_cons_zero,List.set_cons_succ]
     refine wpAnyH_take (i:=4) (v:=.int .i64 (i:Int)) rfl (by kernel_rfl) (by kernel_rfl) (by kernel_rfl) (fun _ _ _ h=>h) (Or.inl ⟨by rfl,fun w hS=>by have e:=Hcg.out w hS;go_simp⟩) hS ?_
     try simp only [Act.put,List.getElem_toArray,List.getElem_cons_zero,List.getElem_cons_succ,List.setIfInBounds_toArray,List.set_cons_zero,List.set_cons_succ]
     refine wpAnyH_ready (rs:=[0]) (by kernel_rfl) (by simp) ?_
     refine ready_cons rfl (fun KK hKK=>?_) AllReadyH.nil
     refine⟨?_⟩
     obtain⟨y0,y1,y2,y3,y4,y5,_⟩:=(hO.blw hbd).cells
     go_simp
     clear y0 y1 y2 y3 y4 y5
     refine hKK.out _ _ hS (fun hS=>?_)
     clear hKK KK
     try simp only [Act.put,List.getElem_toArray,List.getElem_cons_zero,List.getElem_cons_succ,List.setIfInBounds_toArray,List.set_cons_zero,List.set_cons_succ]
     refine wpAnyH_ready (rs:=[5]) (by kernel_rfl) (by simp) ?_
     refine ready_cons rfl (fun KK hKK=>?_) AllReadyH.nil
     refine⟨?_⟩
     have cc:=cS.out wd (.slice none 0 0) hbd (cl_nil _ _)
     go_simp
     refine cc.mono ?_
     rintro e w4 ⟨v3,rfl,hv3,hb3⟩
     obtain⟨ra2b,rc2b,ka2b,kc2b,sa2b,sc2b,rfl,ht2⟩:=hv3.form
     have htv:=ht2.value
     have hn3:=hbd.size
     have hbd:Below wq.heap.size wq w4:=hbd.trans (hb3.mono hbd.size)
     clear cc ht2 hv3
     refine hKK.out _ _ (hK.trans (Kn.of_below hbd)) (fun hS=>?_)
     clear hKK KK
     try simp only [Act.put,List.getElem_toArray,List.getElem_cons_zero,List.getElem_cons_succ,List.setIfInBounds_toArray,List.set_cons_zero,List.set_cons_succ]
     have zz:=hO.blw hbd
     have zz2:=zz.set6 (.int .i64 T2.kind) (.int .i64 T2.n) (.string T2.name) (.slice ra2b T2.r.length rc2b) (.slice ka2b T2.kids.length kc2b) (.slice sa2b T2.sys.length sc2b)
     obtain⟨o0,o1,o2,o3,o4,o5,ff⟩:=zz.cells
     have f0:=ff 0
     have f1:=ff 1
     have f2:=ff 2
     have f3:=ff 3
     have f4:=ff 4
     have f5:=ff 5
     obtain⟨w5,hwz⟩:∃ W,W=(((((w4.setCell ⟨X,0,none⟩ (.int .i64 T2.kind)).setCell ⟨X,1,none⟩ (.int .i64 T2.n)).setCell ⟨X,2,none⟩ (.string T2.name)).setCell ⟨X,3,none⟩ (.slice ra2b T2.r.length rc2b)).setCell ⟨X,4,none⟩ (.slice ka2b T2.kids.length kc2b)).setCell ⟨X,5,none⟩ (.slice sa2b T2.sys.length sc2b):=⟨_,rfl⟩
     rw [← hwz] at zz2
     have kz:Kn (fun q=>q≠X) w4 w5:=by rw [hwz];exact kn_set6 _ _ _ _ _ _ _ _
     have hne:∀ q,OkS (fun q=>((B q∨X≤q)∧q≠X∧q≠X+2)∧q<wq.heap.size) wd.heap.size w4 q→((B q∨X≤q)∧q≠X∧q≠X+2):=fun q hq=>Or.elim hq (fun hq=>hq.1.1) (fun hq=>by have:=hq.1;exact⟨.inr (by omega),by omega,by omega⟩)
     have HTm:Hid (TmIn (fun q=>((B q∨X≤q)∧q≠X∧q≠X+2)∧q<w5.heap.size) w5 T2 (.agg #[.int .i64 T2.kind,.int .i64 T2.n,.string T2.name,.slice ra2b T2.r.length rc2b,.slice ka2b T2.kids.length kc2b,.slice sa2b T2.sys.length sc2b])):=htv.keep kz.size (fun q hq=>⟨hne q hq,Nat.lt_of_lt_of_le hq.lt kz.size⟩) (fun q hq hs=>kz.block q (hne q hq).2.1 hs)
     have hS5:Kn (fun q=>q≠X) w7 w5:=(hK.trans (Kn.of_below hbd)).trans kz
     have Hwz:Hid (_=_):=hwz
     clear hwz ff zz kz htv hne
     refine wpAnyH_ready (rs:=[6]) (by kernel_rfl) (by simp) ?_
     refine ready_cons rfl (fun KK hKK=>?_) AllReadyH.nil
     refine⟨?_⟩
     go_simp
     rw [← Hwz.out]
     refine hKK.out _ _ hS5 (fun hS=>?_)
     clear hKK KK
     try simp only [Act.put,List.getElem_toArray,List.getElem_cons_zero,List.getElem_cons_succ,List.setIfInBounds_toArray,List.set_cons_zero,List.set_cons_succ]
     refine wpAnyH_done (by kernel_rfl) ?_ _
     clear cS
     go_wp2_with fail
     go_roundw
     case rel=>exact⟨k+1,T2,_,_,_,_,_,_,by omega,by go_num,zz2,HTm.out,hS5,HNx⟩
     case measure=>simp [intOf];omega
    ·have hkI:¬ (k:Int) < (M:Int):=by omega
     obtain rfl:k=M:=by omega
     have HR:Hid (R=T):=(by rw [HE.out,HP.out.1,stpL_end (by rw [HM.out];exact Nat.le_refl _)]:_=_)
     have zz:=HC7.out wq hK
     have zz2:=zz.set6 (.int .i64 T.kind) (.int .i64 T.n) (.string T.name) (.slice ra2 T.r.length rc2) (.slice ka2 T.kids.length kc2) (.slice sa2 T.sys.length sc2)
     obtain⟨o0,o1,o2,o3,o4,o5,ff⟩:=zz.cells
     have f0:=ff 0
     have f1:=ff 1
     have f2:=ff 2
     have f3:=ff 3
     have f4:=ff 4
     have f5:=ff 5
     obtain⟨y0,y1,y2,y3,y4,y5,_⟩:=hO.cells
     obtain⟨w9,hw9⟩:∃ W,W=(((((wq.setCell ⟨X+2,0,none⟩ (.int .i64 T.kind)).setCell ⟨X+2,1,none⟩ (.int .i64 T.n)).setCell ⟨X+2,2,none⟩ (.string T.name)).setCell ⟨X+2,3,none⟩ (.slice ra2 T.r.length rc2)).setCell ⟨X+2,4,none⟩ (.slice ka2 T.kids.length kc2)).setCell ⟨X+2,5,none⟩ (.slice sa2 T.sys.length sc2):=⟨_,rfl⟩
     rw [← hw9] at zz2
     obtain⟨h0,h1,h2,h3,h4,h5,_⟩:=zz2.cells
     have kz:Kn (fun q=>q≠X+2) wq w9:=by rw [hw9];exact kn_set6 _ _ _ _ _ _ _ _
     have HTm:Hid (TmIn (fun q=>B q∨X≤q) w9 T (.agg #[.int .i64 T.kind,.int .i64 T.n,.string T.name,.slice ra2 T.r.length rc2,.slice ka2 T.kids.length kc2,.slice sa2 T.sys.length sc2])):=hTm.keep kz.size (fun q hq=>hq.1.1) (fun q hq hs=>kz.block q hq.1.2.2 hs)
     have bF:Below X w w9:=(HB7.out wq hK).trans (kz.below (fun q hq=>by omega) (by have:=HX2.out;have:=hK.size;omega))
     have H9:Hid (_=_):=hw9
     clear hw9 ff zz zz2 kz hTm HE HP hkI
     go_wp2_with fail
     rw [← H9.out]
     exact bodyPost_ret (v:=.agg #[.int .i64 T.kind,.int .i64 T.n,.string T.name,.slice ra2 T.r.length rc2,.slice ka2 T.kids.length kc2,.slice sa2 T.sys.length sc2]) (by simp only [results,Tryz.results52];simp [go_sem,h0,h1,h2,h3,h4,h5]) rfl ⟨_,rfl,by rw [HR.out];exact HTm.out,bF⟩
end Go.Proofs.YtpmmbfngogpinaaGreat

set_option linter.unusedVariables false
set_option linter.unusedSimpArgs false
namespace Go.Proofs.YtpmmbfngogpinaaGreat
open Go.RowKit
theorem wrong_okT {t:Tm} (h:wrongN true 0 0 t=0):okT true 0 0 t 0 0=true:=by
 unfold wrongN at h
 split at h
 ·cases h
 ·split at h
  ·assumption
  ·cases h
theorem right_single (c:C):rightA [c]=singleC c:=by
 rw [Bool.eq_iff_iff,singleC_iff]
 constructor
 ·intro h
  have h1:=rightA_iff.1 h
  exact⟨by have:=rightF_all h1.1;simpa using this,h1.2 c (by simp)⟩
 ·rintro⟨h1,h2⟩;exact rightA_one h1 h2
set_option maxRecDepth 100000 in
set_option maxHeartbeats 8000000 in
theorem rUnder_any (t:Tm) (v:Value) (w:World) (hv:TmIn Tt w t v) (hb:blk t≤20000) (hcp:capT t≤40000) (c:C):Calls Tryz.prog 17 #[v,clV c] w fun e w'=>∃ v',e=.returned (.tuple #[v',.int .i64 (undA c t).2])∧TmIn Tt w' (undA c t).1 v'∧Below w.heap.size w w':=by
 obtain⟨ra,rc,ka,kc,sa,sc,rfl,ht⟩:=hv.form
 obtain⟨w1,hw1⟩:∃ W,W=((w.alloc (.cells #[.int .i64 t.kind,.int .i64 t.n,.string t.name,.slice ra t.r.length rc,.slice ka t.kids.length kc,.slice sa t.sys.length sc] 26)).alloc (.cells #[.int .u32 (c.1.val:Int),.int .u32 (c.2.val:Int)] 38)).alloc (.cells #[.int .i64 0,.int .i64 0,.string ⟨#[]⟩,.slice none 0 0,.slice none 0 0,.slice none 0 0] 26):=⟨_,rfl⟩
 have b1:Below w.heap.size w w1:=by rw [hw1];exact bchain (bchain (belowA _ _) (belowA _ _)) (belowA _ _)
 obtain⟨X,hX⟩:∃ X,X=w.heap.size:=⟨_,rfl⟩
 have s1:w1.heap.size=X+3:=by rw [hw1,hX];simp
 have x1:Six w1 X (.int .i64 t.kind) (.int .i64 t.n) (.string t.name) (.slice ra t.r.length rc) (.slice ka t.kids.length kc) (.slice sa t.sys.length sc):=⟨by rw [hX,hw1];exact (Below.heap_alloc _ _ _ (by simp;omega)).trans ((Below.heap_alloc _ _ _ (by simp)).trans (heapNew w _))⟩
 have xc:w1.heap[X+1]? = some (.cells #[.int .u32 (c.1.val:Int),.int .u32 (c.2.val:Int)] 38 (0,0)):=by
  rw [hX,hw1]
  refine (Below.heap_alloc _ _ _ (by simp)).trans ?_
  have:=heapNew (w.alloc (.cells #[.int .i64 t.kind,.int .i64 t.n,.string t.name,.slice ra t.r.length rc,.slice ka t.kids.length kc,.slice sa t.sys.length sc] 26)) (.cells #[.int .u32 (c.1.val:Int),.int .u32 (c.2.val:Int)] 38);rwa [World.size_alloc] at this
 have x2:Six w1 (X+2) (.int .i64 0) (.int .i64 0) (.string ⟨#[]⟩) (.slice none 0 0) (.slice none 0 0) (.slice none 0 0):=⟨by
  rw [hX,hw1];have:=heapNew ((w.alloc (.cells #[.int .i64 t.kind,.int .i64 t.n,.string t.name,.slice ra t.r.length rc,.slice ka t.kids.length kc,.slice sa t.sys.length sc] 26)).alloc (.cells #[.int .u32 (c.1.val:Int),.int .u32 (c.2.val:Int)] 38)) (.cells #[.int .i64 0,.int .i64 0,.string ⟨#[]⟩,.slice none 0 0,.slice none 0 0,.slice none 0 0] 26);rwa [World.size_alloc,World.size_alloc] at this⟩
 have HC:Hid (∀ W,Below w1.heap.size w1 W→Six W X (.int .i64 t.kind) (.int .i64 t.n) (.string t.name) (.slice ra t.r.length rc) (.slice ka t.kids.length kc) (.slice sa t.sys.length sc)):=fun W q=>x1.blw q
 have HCc:Hid (∀ W,Below w1.heap.size w1 W→W.cell? ⟨X+1,0,none⟩=some (.int .u32 (c.1.val:Int))∧W.cell? ⟨X+1,1,none⟩=some (.int .u32 (c.2.val:Int))):=fun W q=>by
  have h:=(q.block (X+1) (by omega)).trans xc
  exact⟨by simp [World.cell?,h],by simp [World.cell?,h]⟩
 have HZ:Hid (∀ W,Below w1.heap.size w1 W→Six W (X+2) (.int .i64 0) (.int .i64 0) (.string ⟨#[]⟩) (.slice none 0 0) (.slice none 0 0) (.slice none 0 0)):=fun W q=>x2.blw q
 have HT:Hid (∀ W,Below w1.heap.size w1 W→TmIn (fun q=>q<X) W t (.agg #[.int .i64 t.kind,.int .i64 t.n,.string t.name,.slice ra t.r.length rc,.slice ka t.kids.length kc,.slice sa t.sys.length sc])):=fun W q=>(by rw [hX];exact ht.value.lts.keep (Nat.le_trans b1.size q.size) (fun _ h=>h) (fun k hk hs=>(q.block k (by have:=b1.size;omega)).trans (b1.block k hs)))
 have HB:Hid (∀ W,Below w1.heap.size w1 W→Below X w W):=fun W q=>by rw [hX];exact bchain b1 q
 have HXs:Hid (X=w.heap.size):=hX
 have Hs1:Hid (w1.heap.size=X+3):=s1
 have HW:Hid (_=_):=hw1
 have cw:=rFormed_any t _ w1 ((HT.out w1 (Below.refl _ _)).up fun _ _=>trivial) hb
 have HE:Hid (undA c t=if wrongN true 0 0 t=0 then (if rightA [c]=true then undR c t else (noT,2)) else (noT,((wrongN true 0 0 t:Nat):Int))):=(rfl:_=_)
 have HOk:Hid (wrongN true 0 0 t=0→okT true 0 0 t 0 0=true):=wrong_okT
 obtain⟨f,hf⟩:∃ f,f=wrongN true 0 0 t:=⟨_,rfl⟩
 rw [← hf] at cw HE HOk
 rw [← hX]
 have Hcp:Hid (capT t≤40000):=hcp
 have hc1:=c.1.isLt
 have hc2:=c.2.isLt
 clear hf hw1 hX s1 x1 x2 xc hv ht b1 hb hcp
 show Calls Tryz.prog 17 #[.agg #[.int .i64 t.kind,.int .i64 t.n,.string t.name,.slice ra t.r.length rc,.slice ka t.kids.length kc,.slice sa t.sys.length sc],.agg #[.int .u32 (c.1.val:Int),.int .u32 (c.2.val:Int)]] w _
 go_enter Tryz.func17,Tryz.ntmps17
 go_upto_region 1 with fail
 rw [← HW.out]
 simp only [← HXs.out]
 clear HW
 generalize (Value.agg #[Value.int .u32 (c.1.val:Int),Value.int .u32 (c.2.val:Int)])=cv
 obtain⟨y0,y1,y2,y3,y4,y5,_⟩:=(HC.out w1 (Below.refl _ _)).cells
 go_wp2_with fail
 refine cw.mono ?_
 rintro e w2 ⟨rfl,b2⟩
 clear cw y0 y1 y2 y3 y4 y5
 have hsz:=Hs1.out
 by_cases hz:f=0
 rotate_left
 ·have Hf:Hid (undA c t=(noT,(f:Int))):=(by rw [HE.out,if_neg hz]:_=_)
  have hz1:((f:Int) == 0)=false:=by simp;omega
  clear HE
  have zz:=HZ.out w2 b2
  have zz2:=zz.set6 (.int .i64 0) (.int .i64 0) (.string ⟨#[]⟩) (.slice none 0 0) (.slice none 0 0) (.slice none 0 0)
  obtain⟨o0,o1,o2,o3,o4,o5,ff⟩:=zz.cells
  have f0:=ff 0
  have f1:=ff 1
  have f2:=ff 2
  have f3:=ff 3
  have f4:=ff 4
  have f5:=ff 5
  obtain⟨h0,h1,h2,h3,h4,h5,_⟩:=zz2.cells
  obtain⟨wz,hwz⟩:∃ W,W=(((((w2.setCell ⟨X+2,0,none⟩ (.int .i64 0)).setCell ⟨X+2,1,none⟩ (.int .i64 0)).setCell ⟨X+2,2,none⟩ (.string ⟨#[]⟩)).setCell ⟨X+2,3,none⟩ (.slice none 0 0)).setCell ⟨X+2,4,none⟩ (.slice none 0 0)).setCell ⟨X+2,5,none⟩ (.slice none 0 0):=⟨_,rfl⟩
  rw [← hwz] at h0 h1 h2 h3 h4 h5
  have kz:Kn (fun q=>q≠X+2) w2 wz:=by rw [hwz];exact kn_set6 _ _ _ _ _ _ _ _
  have bz:Below X w wz:=(HB.out w2 b2).trans (kz.below (fun q hq=>by omega) (by have:=(HB.out w2 b2).size;have:=HXs.out;omega))
  have Hwz:Hid (_=_):=hwz
  clear hwz ff zz zz2 kz
  go_wp2_with fail
  rw [← Hwz.out]
  exact bodyPost_ret (v:=.tuple #[.agg #[.int .i64 0,.int .i64 0,.string ⟨#[]⟩,.slice none 0 0,.slice none 0 0,.slice none 0 0],.int .i64 ((f:Int))]) (by simp only [results,Tryz.results17];simp [go_sem,h0,h1,h2,h3,h4,h5]) rfl ⟨_,by rw [Hf.out],by rw [Hf.out];exact noT_in _ _,bz⟩
 subst hz
 rw [if_pos rfl,right_single] at HE
 have cs:=rsingle_any c w2
 obtain⟨y0,y1⟩:=HCc.out w2 b2
 go_wp2_with fail
 refine cs.mono ?_
 rintro e w3 ⟨rfl,b3⟩
 clear cs y0 y1
 have b13:Below w1.heap.size w1 w3:=b2.trans (b3.mono b2.size)
 clear b3
 cases hq:singleC c
 ·have Hf:Hid (undA c t=(noT,2)):=(by rw [HE.out,if_neg (by rw [hq];simp)]:_=_)
  clear HE
  have zz:=HZ.out w3 b13
  have zz2:=zz.set6 (.int .i64 0) (.int .i64 0) (.string ⟨#[]⟩) (.slice none 0 0) (.slice none 0 0) (.slice none 0 0)
  obtain⟨o0,o1,o2,o3,o4,o5,ff⟩:=zz.cells
  have f0:=ff 0
  have f1:=ff 1
  have f2:=ff 2
  have f3:=ff 3
  have f4:=ff 4
  have f5:=ff 5
  obtain⟨h0,h1,h2,h3,h4,h5,_⟩:=zz2.cells
  obtain⟨wz,hwz⟩:∃ W,W=(((((w3.setCell ⟨X+2,0,none⟩ (.int .i64 0)).setCell ⟨X+2,1,none⟩ (.int .i64 0)).setCell ⟨X+2,2,none⟩ (.string ⟨#[]⟩)).setCell ⟨X+2,3,none⟩ (.slice none 0 0)).setCell ⟨X+2,4,none⟩ (.slice none 0 0)).setCell ⟨X+2,5,none⟩ (.slice none 0 0):=⟨_,rfl⟩
  rw [← hwz] at h0 h1 h2 h3 h4 h5
  have kz:Kn (fun q=>q≠X+2) w3 wz:=by rw [hwz];exact kn_set6 _ _ _ _ _ _ _ _
  have bz:Below X w wz:=(HB.out w3 b13).trans (kz.below (fun q hq=>by omega) (by have:=(HB.out w3 b13).size;have:=HXs.out;omega))
  have Hwz:Hid (_=_):=hwz
  clear hwz ff zz zz2 kz
  go_wp2_with fail
  rw [← Hwz.out]
  exact bodyPost_ret (v:=.tuple #[.agg #[.int .i64 0,.int .i64 0,.string ⟨#[]⟩,.slice none 0 0,.slice none 0 0,.slice none 0 0],.int .i64 2]) (by simp only [results,Tryz.results17];simp [go_sem,h0,h1,h2,h3,h4,h5]) rfl ⟨_,by rw [Hf.out],by rw [Hf.out];exact noT_in _ _,bz⟩
 obtain⟨u1,u2⟩:=undR_all (c:=c) (HOk.out (by trivial))
 have Hf:Hid (undA c t=((stepsC c).foldl dStp t,0)):=(by rw [HE.out,if_pos hq,u1]:_=_)
 have hkp:=kind_pos u2
 have cW:=rwhere_any (fun q=>q<X) t _ w3 (fun q h=>by have:=b13.size;omega) (HT.out w3 b13) (HOk.out (by trivial)) Hcp.out c
 obtain⟨R,hR⟩:∃ R,R=(stepsC c).foldl dStp t:=⟨_,rfl⟩
 rw [← hR] at cW Hf hkp
 have cW:Calls Tryz.prog 52 #[.agg #[.int .i64 t.kind,.int .i64 t.n,.string t.name,.slice ra t.r.length rc,.slice ka t.kids.length kc,.slice sa t.sys.length sc],.agg #[.int .u32 (c.1.val:Int),.int .u32 (c.2.val:Int)]] w3 fun e w'=>∃ v',e=.returned v'∧TmIn (fun q=>q<X∨w3.heap.size≤q) w' R v'∧Below w3.heap.size w3 w':=cW
 obtain⟨y0,y1,y2,y3,y4,y5,_⟩:=(HC.out w3 b13).cells
 obtain⟨z0,z1⟩:=HCc.out w3 b13
 clear HE u1 u2 hR hq
 go_wp2_with fail
 refine cW.mono ?_
 rintro e w4 ⟨v4,rfl,hv4,b4⟩
 clear cW y0 y1 y2 y3 y4 y5 z0 z1
 have b14:Below w1.heap.size w1 w4:=b13.trans (b4.mono b13.size)
 obtain⟨ra2,rc2,ka2,kc2,sa2,sc2,rfl,_⟩:=hv4.form
 have cd:=rdone_any R _ w4 (hv4.up fun _ _=>trivial) (by omega)
 have hs3:=b13.size
 go_wp2_with fail
 refine cd.mono ?_
 rintro e w5 ⟨rfl,b5⟩
 clear cd
 have b15:Below w1.heap.size w1 w5:=b14.trans (b5.mono b14.size)
 have hv5:=hv4.blw b5
 have zz:=HZ.out w5 b15
 have zz2:=zz.set6 (.int .i64 R.kind) (.int .i64 R.n) (.string R.name) (.slice ra2 R.r.length rc2) (.slice ka2 R.kids.length kc2) (.slice sa2 R.sys.length sc2)
 obtain⟨o0,o1,o2,o3,o4,o5,ff⟩:=zz.cells
 have f0:=ff 0
 have f1:=ff 1
 have f2:=ff 2
 have f3:=ff 3
 have f4:=ff 4
 have f5:=ff 5
 obtain⟨w9,hw9⟩:∃ W,W=(((((w5.setCell ⟨X+2,0,none⟩ (.int .i64 R.kind)).setCell ⟨X+2,1,none⟩ (.int .i64 R.n)).setCell ⟨X+2,2,none⟩ (.string R.name)).setCell ⟨X+2,3,none⟩ (.slice ra2 R.r.length rc2)).setCell ⟨X+2,4,none⟩ (.slice ka2 R.kids.length kc2)).setCell ⟨X+2,5,none⟩ (.slice sa2 R.sys.length sc2):=⟨_,rfl⟩
 rw [← hw9] at zz2
 obtain⟨h0,h1,h2,h3,h4,h5,_⟩:=zz2.cells
 have kz:Kn (fun q=>q≠X+2) w5 w9:=by rw [hw9];exact kn_set6 _ _ _ _ _ _ _ _
 have HTm:Hid (TmIn Tt w9 R (.agg #[.int .i64 R.kind,.int .i64 R.n,.string R.name,.slice ra2 R.r.length rc2,.slice ka2 R.kids.length kc2,.slice sa2 R.sys.length sc2])):=hv5.keep kz.size (fun _ _=>trivial) (fun q hq hs=>kz.block q (by rcases hq with h | h <;> omega) hs)
 have bF:Below X w w9:=(HB.out w5 b15).trans (kz.below (fun q hq=>by omega) (by have:=(HB.out w5 b15).size;have:=HXs.out;omega))
 have H9:Hid (_=_):=hw9
 clear hw9 ff zz zz2 kz hv4 hv5
 go_wp2_with fail
 rw [← H9.out]
 exact bodyPost_ret (v:=.tuple #[.agg #[.int .i64 R.kind,.int .i64 R.n,.string R.name,.slice ra2 R.r.length rc2,.slice ka2 R.kids.length kc2,.slice sa2 R.sys.length sc2],.int .i64 0]) (by simp only [results,Tryz.results17];simp [go_sem,h0,h1,h2,h3,h4,h5]) rfl ⟨_,by rw [Hf.out],by rw [Hf.out];exact HTm.out,bF⟩
end Go.Proofs.YtpmmbfngogpinaaGreat

set_option linter.unusedVariables false
set_option linter.unusedSimpArgs false
namespace Go.Proofs.YtpmmbfngogpinaaGreat
open Go.RowKit
def takE (i:Int) (r:List C) (t:Tm):Int:=if wrD i r t=0 then (if (liftFF r i 1).2=0 then (if eT (putOp i (liftFF r i 1).1) t 0=0 then eT (dropOp i) (ansD (putOp i (liftFF r i 1).1) t) 0 else eT (putOp i (liftFF r i 1).1) t 0) else (liftFF r i 1).2) else wrD i r t
def takT (i:Int) (r:List C) (t:Tm):Tm:=if wrD i r t=0 then (if (liftFF r i 1).2=0 then (if eT (putOp i (liftFF r i 1).1) t 0=0 then ansD (dropOp i) (ansD (putOp i (liftFF r i 1).1) t) else noT) else noT) else noT
set_option maxRecDepth 100000 in
set_option maxHeartbeats 8000000 in
theorem dtake_any (t:Tm) (v:Value) (w:World) (hv:TmIn Tt w t v) (hb:blk t≤20000) (i:Int) (r:List C) (vr:Value) (hr:ClRow Tt w r vr) (hrl:r.length≤40000) (hsm:blk (ansD (putOp i (liftFF r i 1).1) t)≤40000):Calls Tryz.prog 13 #[v,.int .i64 i,vr] w fun e w'=>∃ v',e=.returned (.tuple #[v',.int .i64 (takE i r t)])∧TmIn (OkN w.heap.size w') w' (takT i r t) v'∧Below w.heap.size w w':=by
 obtain⟨ra,rc,ka,kc,sa,sc,rfl,ht⟩:=hv.form
 obtain⟨w1,hw1⟩:∃ W,W=(w.alloc (.cells #[.int .i64 t.kind,.int .i64 t.n,.string t.name,.slice ra t.r.length rc,.slice ka t.kids.length kc,.slice sa t.sys.length sc] 26)).alloc (.cells #[.int .i64 0,.int .i64 0,.string ⟨#[]⟩,.slice none 0 0,.slice none 0 0,.slice none 0 0] 26):=⟨_,rfl⟩
 have b1:Below w.heap.size w w1:=by rw [hw1];exact bchain (belowA _ _) (belowA _ _)
 obtain⟨X,hX⟩:∃ X,X=w.heap.size:=⟨_,rfl⟩
 have s1:w1.heap.size=X+2:=by rw [hw1,hX];simp
 have x1:Six w1 X (.int .i64 t.kind) (.int .i64 t.n) (.string t.name) (.slice ra t.r.length rc) (.slice ka t.kids.length kc) (.slice sa t.sys.length sc):=⟨by rw [hX,hw1];exact (Below.heap_alloc _ _ _ (by simp)).trans (heapNew w _)⟩
 have x2:Six w1 (X+1) (.int .i64 0) (.int .i64 0) (.string ⟨#[]⟩) (.slice none 0 0) (.slice none 0 0) (.slice none 0 0):=⟨by
  rw [hX,hw1];have:=heapNew (w.alloc (.cells #[.int .i64 t.kind,.int .i64 t.n,.string t.name,.slice ra t.r.length rc,.slice ka t.kids.length kc,.slice sa t.sys.length sc] 26)) (.cells #[.int .i64 0,.int .i64 0,.string ⟨#[]⟩,.slice none 0 0,.slice none 0 0,.slice none 0 0] 26);rwa [World.size_alloc] at this⟩
 have HC:Hid (∀ W,Below w1.heap.size w1 W→Six W X (.int .i64 t.kind) (.int .i64 t.n) (.string t.name) (.slice ra t.r.length rc) (.slice ka t.kids.length kc) (.slice sa t.sys.length sc)):=fun W q=>x1.blw q
 have HZ:Hid (∀ W,Below w1.heap.size w1 W→Six W (X+1) (.int .i64 0) (.int .i64 0) (.string ⟨#[]⟩) (.slice none 0 0) (.slice none 0 0) (.slice none 0 0)):=fun W q=>x2.blw q
 have HT:Hid (∀ W,Below w1.heap.size w1 W→TmIn Tt W t (.agg #[.int .i64 t.kind,.int .i64 t.n,.string t.name,.slice ra t.r.length rc,.slice ka t.kids.length kc,.slice sa t.sys.length sc])):=fun W q=>((ht.blw b1).blw q).value
 have HB:Hid (∀ W,Below w1.heap.size w1 W→Below X w W):=fun W q=>by rw [hX];exact bchain b1 q
 have HXs:Hid (X=w.heap.size):=hX
 have Hs1:Hid (w1.heap.size=X+2):=s1
 have HW:Hid (_=_):=hw1
 have HR:Hid (∀ W,Below w1.heap.size w1 W→ClRow Tt W r vr):=fun W q=>(hr.blw b1).blw q
 have cw:=dwrong_any t _ w1 (HT.out w1 (Below.refl _ _)) hb i r vr (HR.out w1 (Below.refl _ _)) hrl
 have cl:Hid (∀ V,Below w1.heap.size w1 V→Calls Tryz.prog 40 #[vr,.int .i64 i,.int .i64 1] V fun e w'=>∃ v,e=.returned (.tuple #[v,.int .i64 (liftFF r i 1).2])∧OwnsC w' V.heap.size v (liftFF r i 1).1∧Below V.heap.size V w'):=fun V q=>Lift_any r i 1 vr V (HR.out V q).frow hrl
 have HE:Hid (takE i r t=(if wrD i r t=0 then (if (liftFF r i 1).2=0 then (if eT (putOp i (liftFF r i 1).1) t 0=0 then eT (dropOp i) (ansD (putOp i (liftFF r i 1).1) t) 0 else eT (putOp i (liftFF r i 1).1) t 0) else (liftFF r i 1).2) else wrD i r t)∧takT i r t=(if wrD i r t=0 then (if (liftFF r i 1).2=0 then (if eT (putOp i (liftFF r i 1).1) t 0=0 then ansD (dropOp i) (ansD (putOp i (liftFF r i 1).1) t) else noT) else noT) else noT)):=⟨rfl,rfl⟩
 have HOk:Hid (wrD i r t=0→0≤i∧i≤1000000):=fun h=>by have:=(wrD_ok h).1;omega
 have hll:=liftFF_len r i 1
 obtain⟨e0,he0⟩:∃ e,e=wrD i r t:=⟨_,rfl⟩
 rw [← he0] at cw HE HOk
 obtain⟨Pl,hPl⟩:∃ P,P=liftFF r i 1:=⟨_,rfl⟩
 rw [← hPl] at cl HE hsm hll
 obtain⟨rl,el⟩:=Pl
 dsimp only at cl HE hsm hll
 obtain⟨va,vc,rfl,_⟩:=id hr
 obtain⟨LR,hLR⟩:∃ L,L=r.length:=⟨_,rfl⟩
 rw [← hLR] at cw HR cl
 simp only [← hLR]
 rw [← hX]
 have Hbt:Hid (blk t≤40000):=(by omega:blk t≤40000)
 clear he0 hw1 hX s1 x1 x2 hv ht b1 hr hLR hPl
 go_enter Tryz.func13,Tryz.ntmps13
 go_upto_region 1 with fail
 rw [← HW.out]
 simp only [← HXs.out]
 clear HW
 obtain⟨y0,y1,y2,y3,y4,y5,_⟩:=(HC.out w1 (Below.refl _ _)).cells
 go_wp2_with fail
 refine cw.mono ?_
 rintro e w2 ⟨rfl,b2⟩
 clear cw y0 y1 y2 y3 y4 y5
 have hsz:=Hs1.out
 by_cases hz:e0=0
 rotate_left
 ·have Hf:Hid (takE i r t=e0∧takT i r t=noT):=⟨by rw [HE.out.1,if_neg hz],by rw [HE.out.2,if_neg hz]⟩
  have hz1:(e0 == 0)=false:=by simpa using hz
  clear HE HOk cl
  have zz:=HZ.out w2 b2
  have zz2:=zz.set6 (.int .i64 0) (.int .i64 0) (.string ⟨#[]⟩) (.slice none 0 0) (.slice none 0 0) (.slice none 0 0)
  obtain⟨o0,o1,o2,o3,o4,o5,ff⟩:=zz.cells
  have f0:=ff 0
  have f1:=ff 1
  have f2:=ff 2
  have f3:=ff 3
  have f4:=ff 4
  have f5:=ff 5
  obtain⟨h0,h1,h2,h3,h4,h5,_⟩:=zz2.cells
  obtain⟨wz,hwz⟩:∃ W,W=(((((w2.setCell ⟨X+1,0,none⟩ (.int .i64 0)).setCell ⟨X+1,1,none⟩ (.int .i64 0)).setCell ⟨X+1,2,none⟩ (.string ⟨#[]⟩)).setCell ⟨X+1,3,none⟩ (.slice none 0 0)).setCell ⟨X+1,4,none⟩ (.slice none 0 0)).setCell ⟨X+1,5,none⟩ (.slice none 0 0):=⟨_,rfl⟩
  rw [← hwz] at h0 h1 h2 h3 h4 h5
  have kz:Kn (fun q=>q≠X+1) w2 wz:=by rw [hwz];exact kn_set6 _ _ _ _ _ _ _ _
  have bz:Below X w wz:=(HB.out w2 b2).trans (kz.below (fun q hq=>by omega) (by have:=(HB.out w2 b2).size;have:=HXs.out;omega))
  have Hwz:Hid (_=_):=hwz
  clear hwz ff zz zz2 kz
  go_wp2_with fail
  rw [← Hwz.out]
  exact bodyPost_ret (v:=.tuple #[.agg #[.int .i64 0,.int .i64 0,.string ⟨#[]⟩,.slice none 0 0,.slice none 0 0,.slice none 0 0],.int .i64 (e0)]) (by simp only [results,Tryz.results13];simp [go_sem,h0,h1,h2,h3,h4,h5]) rfl ⟨_,by rw [Hf.out.1],by rw [Hf.out.2];exact noT_in _ _,bz⟩
 subst hz
 have hok:=HOk.out rfl
 rw [if_pos rfl,if_pos rfl] at HE
 have cc:=cl.out w2 b2
 go_wp2_with fail
 refine cc.mono ?_
 rintro e w3 ⟨v3,rfl,hO3,b3⟩
 clear cc cl
 have b13:Below w1.heap.size w1 w3:=b2.trans (b3.mono b2.size)
 obtain⟨va3,vc3,rfl⟩:=OwnsC.len hO3
 obtain⟨L3,hL3⟩:∃ L,L=rl.length:=⟨_,rfl⟩
 have HR3:Hid (∀ W,Below w3.heap.size w3 W→ClRow Tt W rl (.slice va3 L3 vc3)):=fun W q=>by
  rw [hL3];exact ((OwnsC.okn hO3).keep (Nat.le_refl _) (fun _ _=>trivial) (fun _ _ _=>rfl)).blw q
 rw [← hL3]
 clear hO3 hL3
 by_cases hz:el=0
 rotate_left
 ·have Hf:Hid (takE i r t=el∧takT i r t=noT):=⟨by rw [HE.out.1,if_neg hz],by rw [HE.out.2,if_neg hz]⟩
  have hz1:(el == 0)=false:=by simpa using hz
  clear HE HOk
  have zz:=HZ.out w3 b13
  have zz2:=zz.set6 (.int .i64 0) (.int .i64 0) (.string ⟨#[]⟩) (.slice none 0 0) (.slice none 0 0) (.slice none 0 0)
  obtain⟨o0,o1,o2,o3,o4,o5,ff⟩:=zz.cells
  have f0:=ff 0
  have f1:=ff 1
  have f2:=ff 2
  have f3:=ff 3
  have f4:=ff 4
  have f5:=ff 5
  obtain⟨h0,h1,h2,h3,h4,h5,_⟩:=zz2.cells
  obtain⟨wz,hwz⟩:∃ W,W=(((((w3.setCell ⟨X+1,0,none⟩ (.int .i64 0)).setCell ⟨X+1,1,none⟩ (.int .i64 0)).setCell ⟨X+1,2,none⟩ (.string ⟨#[]⟩)).setCell ⟨X+1,3,none⟩ (.slice none 0 0)).setCell ⟨X+1,4,none⟩ (.slice none 0 0)).setCell ⟨X+1,5,none⟩ (.slice none 0 0):=⟨_,rfl⟩
  rw [← hwz] at h0 h1 h2 h3 h4 h5
  have kz:Kn (fun q=>q≠X+1) w3 wz:=by rw [hwz];exact kn_set6 _ _ _ _ _ _ _ _
  have bz:Below X w wz:=(HB.out w3 b13).trans (kz.below (fun q hq=>by omega) (by have:=(HB.out w3 b13).size;have:=HXs.out;omega))
  have Hwz:Hid (_=_):=hwz
  clear hwz ff zz zz2 kz
  go_wp2_with fail
  rw [← Hwz.out]
  exact bodyPost_ret (v:=.tuple #[.agg #[.int .i64 0,.int .i64 0,.string ⟨#[]⟩,.slice none 0 0,.slice none 0 0,.slice none 0 0],.int .i64 (el)]) (by simp only [results,Tryz.results13];simp [go_sem,h0,h1,h2,h3,h4,h5]) rfl ⟨_,by rw [Hf.out.1],by rw [Hf.out.2];exact noT_in _ _,bz⟩
 subst hz
 rw [if_pos rfl,if_pos rfl] at HE
 have cP:Hid (∀ V,Below w3.heap.size w3 V→Calls Tryz.prog 35 #[.int .i64 i,.slice va3 L3 vc3] V fun e w'=>∃ fV cV,e=.returned (.agg #[fV,cV])∧RowC (putOp i rl).fn fV w'∧RowC (putOp i rl).fc cV w'∧Below V.heap.size V w'):=fun V q=>putting_any i rl _ V (HR3.out V q) (by omega) hok
 have HT3:Hid (∀ V,Below w3.heap.size w3 V→TmIn Tt V t (.agg #[.int .i64 t.kind,.int .i64 t.n,.string t.name,.slice ra t.r.length rc,.slice ka t.kids.length kc,.slice sa t.sys.length sc])):=fun V q=>HT.out V (b13.trans (q.mono b13.size))
 have cT:Hid (∀ V fV cV,Below w3.heap.size w3 V→RowC (putOp i rl).fn fV V→RowC (putOp i rl).fc cV V→Calls Tryz.prog 36 #[.agg #[fV,cV],.agg #[.int .i64 t.kind,.int .i64 t.n,.string t.name,.slice ra t.r.length rc,.slice ka t.kids.length kc,.slice sa t.sys.length sc]] V fun e w'=>∃ v',e=.returned (.tuple #[v',.int .i64 (eT (putOp i rl) t 0)])∧TmIn (OkN V.heap.size w') w' (ansD (putOp i rl) t) v'∧Below V.heap.size V w'):=fun V fV cV q h1 h2=>dterm_any t _ V (HT3.out V q) h1 h2 Hbt.out
 obtain⟨er,her⟩:∃ e,e=eT (putOp i rl) t 0:=⟨_,rfl⟩
 obtain⟨T,hT⟩:∃ T,T=ansD (putOp i rl) t:=⟨_,rfl⟩
 rw [← her,← hT] at cT HE
 rw [← hT] at hsm
 have HC3:Hid (∀ V,Below w3.heap.size w3 V→Six V X (.int .i64 t.kind) (.int .i64 t.n) (.string t.name) (.slice ra t.r.length rc) (.slice ka t.kids.length kc) (.slice sa t.sys.length sc)):=fun V q=>HC.out V (b13.trans (q.mono b13.size))
 clear her hT HOk
 go_upto_region 7 with fail
 have hS1:Below w3.heap.size w3 w3:=Below.refl _ _
 go_cut [11,10] (fun s se wx=>∃ o ra2 rc2 ka2 kc2 sa2 sc2,s=.pointer (some ⟨o,0,none⟩)∧se=.int .i64 er∧Six wx o (.int .i64 T.kind) (.int .i64 T.n) (.string T.name) (.slice ra2 T.r.length rc2) (.slice ka2 T.kids.length kc2) (.slice sa2 T.sys.length sc2)∧TmIn Tt wx T (.agg #[.int .i64 T.kind,.int .i64 T.n,.string T.name,.slice ra2 T.r.length rc2,.slice ka2 T.kids.length kc2,.slice sa2 T.sys.length sc2])∧Below w3.heap.size w3 wx∧w3.heap.size≤o)
 case first=>as_aux_lemma =>
  refine wp_region_held_drew (S:=fun V=>Below w3.heap.size w3 V) (by kernel_rfl) (hS1.drew) (fun hS=>?_)
  obtain⟨wd,hwd⟩:∃ V,V=w3.drew:=⟨_,rfl⟩
  have hbd:Below w3.heap.size w3 wd:=by rw [hwd];exact (Below.refl _ _).drew
  rw [← hwd] at hS ⊢
  clear hwd
  refine wpAnyH_take (i:=0) (v:=.int .i64 i) rfl (by kernel_rfl) (by kernel_rfl) (by kernel_rfl) (fun _ _ _ h=>h) (Or.inl ⟨by rfl,fun w hS=>by go_simp⟩) hS ?_
  try simp only [Act.put,List.getElem_toArray,List.getElem_cons_zero,List.getElem_cons_succ,List.setIfInBounds_toArray,List.set_cons_zero,List.set_cons_succ]
  refine wpAnyH_take (i:=1) (v:=.slice va3 L3 vc3) rfl (by kernel_rfl) (by kernel_rfl) (by kernel_rfl) (fun _ _ _ h=>h) (Or.inl ⟨by rfl,fun w hS=>by go_simp⟩) hS ?_
  try simp only [Act.put,List.getElem_toArray,List.getElem_cons_zero,List.getElem_cons_succ,List.setIfInBounds_toArray,List.set_cons_zero,List.set_cons_succ]
  refine wpAnyH_take (i:=3) (v:=.agg #[.int .i64 t.kind,.int .i64 t.n,.string t.name,.slice ra t.r.length rc,.slice ka t.kids.length kc,.slice sa t.sys.length sc]) rfl (by kernel_rfl) (by kernel_rfl) (by kernel_rfl) (fun _ _ _ h=>h) (Or.inl ⟨by rfl,fun w hS=>by obtain⟨y0,y1,y2,y3,y4,y5,_⟩:=(HC3.out w hS).cells;go_simp⟩) hS ?_
  try simp only [Act.put,List.getElem_toArray,List.getElem_cons_zero,List.getElem_cons_succ,List.setIfInBounds_toArray,List.set_cons_zero,List.set_cons_succ]
  refine wpAnyH_ready (rs:=[2,8]) (by kernel_rfl) (by simp) ?_
  refine ready_cons rfl (fun KK hKK=>?_) (ready_cons rfl (fun KK hKK=>?_) AllReadyH.nil)
  ·skip
   refine⟨?_⟩
   have cc:=cP.out wd hS
   go_simp
   refine cc.mono ?_
   rintro e w4 ⟨fV,cV,rfl,hF,hC,hbP⟩
   have hSw4:Below w3.heap.size w3 w4:=hS.trans (hbP.mono hS.size)
   clear cc
   refine hKK.out _ _ hSw4 (fun hS=>?_)
   clear hKK KK
   try simp only [Act.put,List.getElem_toArray,List.getElem_cons_zero,List.getElem_cons_succ,List.setIfInBounds_toArray,List.set_cons_zero,List.set_cons_succ]
   refine wpAnyH_ready (rs:=[4,8]) (by kernel_rfl) (by simp) ?_
   refine ready_cons rfl (fun KK hKK=>?_) (ready_cons rfl (fun KK hKK=>?_) AllReadyH.nil)
   ·skip
    refine⟨?_⟩
    have cc:=cT.out w4 fV cV hS hF hC
    go_simp
    refine cc.mono ?_
    rintro e w5 ⟨v3,rfl,hv3,hbT⟩
    obtain⟨ra2,rc2,ka2,kc2,sa2,sc2,rfl,ht2⟩:=hv3.form
    have htv:=ht2.value
    have hSw5:Below w3.heap.size w3 w5:=hS.trans (hbT.mono hS.size)
    clear cc ht2 hv3
    refine hKK.out _ _ hSw5 (fun hS=>?_)
    clear hKK KK
    try simp only [Act.put,List.getElem_toArray,List.getElem_cons_zero,List.getElem_cons_succ,List.setIfInBounds_toArray,List.set_cons_zero,List.set_cons_succ]
    refine wpAnyH_take (i:=5) (v:=.tuple #[.agg #[.int .i64 T.kind,.int .i64 T.n,.string T.name,.slice ra2 T.r.length rc2,.slice ka2 T.kids.length kc2,.slice sa2 T.sys.length sc2],.int .i64 er]) rfl (by kernel_rfl) (by kernel_rfl) (by kernel_rfl) (fun _ _ _ h=>h) (Or.inl ⟨by rfl,fun w hS=>by go_simp⟩) hS ?_
    try simp only [Act.put,List.getElem_toArray,List.getElem_cons_zero,List.getElem_cons_succ,List.setIfInBounds_toArray,List.set_cons_zero,List.set_cons_succ]
    refine wpAnyH_take (i:=6) (v:=.agg #[.int .i64 T.kind,.int .i64 T.n,.string T.name,.slice ra2 T.r.length rc2,.slice ka2 T.kids.length kc2,.slice sa2 T.sys.length sc2]) rfl (by kernel_rfl) (by kernel_rfl) (by kernel_rfl) (fun _ _ _ h=>h) (Or.inl ⟨by rfl,fun w hS=>by go_simp⟩) hS ?_
    try simp only [Act.put,List.getElem_toArray,List.getElem_cons_zero,List.getElem_cons_succ,List.setIfInBounds_toArray,List.set_cons_zero,List.set_cons_succ]
    refine wpAnyH_take (i:=7) (v:=.int .i64 er) rfl (by kernel_rfl) (by kernel_rfl) (by kernel_rfl) (fun _ _ _ h=>h) (Or.inl ⟨by rfl,fun w hS=>by go_simp⟩) hS ?_
    try simp only [Act.put,List.getElem_toArray,List.getElem_cons_zero,List.getElem_cons_succ,List.setIfInBounds_toArray,List.set_cons_zero,List.set_cons_succ]
    refine wpAnyH_ready (rs:=[8]) (by kernel_rfl) (by simp) ?_
    refine ready_cons rfl (fun KK hKK=>?_) AllReadyH.nil
    obtain⟨w6,hw6⟩:∃ W,W=w5.alloc (.cells #[.int .i64 0,.int .i64 0,.string ⟨#[]⟩,.slice none 0 0,.slice none 0 0,.slice none 0 0] 26):=⟨_,rfl⟩
    have bw6:Below w5.heap.size w5 w6:=by rw [hw6];exact belowA _ _
    have sw6:w6.heap.size=w5.heap.size+1:=by rw [hw6];simp
    have hZ:Six w6 w5.heap.size (.int .i64 0) (.int .i64 0) (.string ⟨#[]⟩) (.slice none 0 0) (.slice none 0 0) (.slice none 0 0):=⟨by rw [hw6];exact heapNew _ _⟩
    have hSw6:Below w3.heap.size w3 w6:=hS.trans (bw6.mono hS.size)
    have Hw6:Hid (_=_):=hw6
    clear hw6
    refine⟨?_⟩
    go_simp
    rw [← Hw6.out]
    refine hKK.out _ _ hSw6 (fun hS=>?_)
    clear hKK KK
    try simp only [Act.put,List.getElem_toArray,List.getElem_cons_zero,List.getElem_cons_succ,List.setIfInBounds_toArray,List.set_cons_zero,List.set_cons_succ]
    have hge:w3.heap.size≤w5.heap.size:=hSw5.size
    have zz2:=hZ.set6 (.int .i64 T.kind) (.int .i64 T.n) (.string T.name) (.slice ra2 T.r.length rc2) (.slice ka2 T.kids.length kc2) (.slice sa2 T.sys.length sc2)
    obtain⟨o0,o1,o2,o3,o4,o5,ff⟩:=hZ.cells
    have f0:=ff 0
    have f1:=ff 1
    have f2:=ff 2
    have f3:=ff 3
    have f4:=ff 4
    have f5:=ff 5
    obtain⟨w9,hwz⟩:∃ W,W=(((((w6.setCell ⟨w5.heap.size,0,none⟩ (.int .i64 T.kind)).setCell ⟨w5.heap.size,1,none⟩ (.int .i64 T.n)).setCell ⟨w5.heap.size,2,none⟩ (.string T.name)).setCell ⟨w5.heap.size,3,none⟩ (.slice ra2 T.r.length rc2)).setCell ⟨w5.heap.size,4,none⟩ (.slice ka2 T.kids.length kc2)).setCell ⟨w5.heap.size,5,none⟩ (.slice sa2 T.sys.length sc2):=⟨_,rfl⟩
    rw [← hwz] at zz2
    have kz:Kn (fun q=>q≠w5.heap.size) w6 w9:=by rw [hwz];exact kn_set6 _ _ _ _ _ _ _ _
    have HTm:Hid (TmIn Tt w9 T (.agg #[.int .i64 T.kind,.int .i64 T.n,.string T.name,.slice ra2 T.r.length rc2,.slice ka2 T.kids.length kc2,.slice sa2 T.sys.length sc2])):=htv.keep (Nat.le_trans bw6.size kz.size) (fun _ _=>trivial) (fun q hq hs=>(kz.block q (by have:=hq.lt;omega) (by have:=bw6.size;omega)).trans (bw6.block q hs))
    have hS5:Below w3.heap.size w3 w9:=hS.trans (kz.below (fun q hq=>by omega) hS.size)
    have Hwz:Hid (_=_):=hwz
    clear hwz ff kz htv
    refine wpAnyH_ready (rs:=[9]) (by kernel_rfl) (by simp) ?_
    refine ready_cons rfl (fun KK hKK=>?_) AllReadyH.nil
    refine⟨?_⟩
    go_simp
    rw [← Hwz.out]
    refine hKK.out _ _ hS5 (fun hS=>?_)
    clear hKK KK
    try simp only [Act.put,List.getElem_toArray,List.getElem_cons_zero,List.getElem_cons_succ,List.setIfInBounds_toArray,List.set_cons_zero,List.set_cons_succ]
    refine wpAnyH_take (i:=10) (v:=.int .i64 er) rfl (by kernel_rfl) (by kernel_rfl) (by kernel_rfl) (fun _ _ _ h=>h) (Or.inl ⟨by rfl,fun w hS=>by go_simp⟩) hS ?_
    try simp only [Act.put,List.getElem_toArray,List.getElem_cons_zero,List.getElem_cons_succ,List.setIfInBounds_toArray,List.set_cons_zero,List.set_cons_succ]
    refine wpAnyH_done (by kernel_rfl) ?_ _
    go_wp2_with fail
    go_meet
    exact⟨_,_,_,_,_,_,_,rfl,rfl,zz2,HTm.out,hS,hge⟩
   ·skip
    obtain⟨w5,hw5⟩:∃ W,W=w4.alloc (.cells #[.int .i64 0,.int .i64 0,.string ⟨#[]⟩,.slice none 0 0,.slice none 0 0,.slice none 0 0] 26):=⟨_,rfl⟩
    have bw5:Below w4.heap.size w4 w5:=by rw [hw5];exact belowA _ _
    have sw5:w5.heap.size=w4.heap.size+1:=by rw [hw5];simp
    have hZ:Six w5 w4.heap.size (.int .i64 0) (.int .i64 0) (.string ⟨#[]⟩) (.slice none 0 0) (.slice none 0 0) (.slice none 0 0):=⟨by rw [hw5];exact heapNew _ _⟩
    have hSw5:Below w3.heap.size w3 w5:=hS.trans (bw5.mono hS.size)
    have Hw5:Hid (_=_):=hw5
    clear hw5
    refine⟨?_⟩
    go_simp
    rw [← Hw5.out]
    refine hKK.out _ _ hSw5 (fun hS=>?_)
    clear hKK KK
    try simp only [Act.put,List.getElem_toArray,List.getElem_cons_zero,List.getElem_cons_succ,List.setIfInBounds_toArray,List.set_cons_zero,List.set_cons_succ]
    have hF:=hF.blw bw5
    have hC:=hC.blw bw5
    refine wpAnyH_ready (rs:=[4]) (by kernel_rfl) (by simp) ?_
    refine ready_cons rfl (fun KK hKK=>?_) AllReadyH.nil
    refine⟨?_⟩
    have cc:=cT.out w5 fV cV hS hF hC
    go_simp
    refine cc.mono ?_
    rintro e w6 ⟨v3,rfl,hv3,hbT⟩
    obtain⟨ra2,rc2,ka2,kc2,sa2,sc2,rfl,ht2⟩:=hv3.form
    have htv:=ht2.value
    have hSw6:Below w3.heap.size w3 w6:=hS.trans (hbT.mono hS.size)
    clear cc ht2 hv3
    refine hKK.out _ _ hSw6 (fun hS=>?_)
    clear hKK KK
    try simp only [Act.put,List.getElem_toArray,List.getElem_cons_zero,List.getElem_cons_succ,List.setIfInBounds_toArray,List.set_cons_zero,List.set_cons_succ]
    refine wpAnyH_take (i:=5) (v:=.tuple #[.agg #[.int .i64 T.kind,.int .i64 T.n,.string T.name,.slice ra2 T.r.length rc2,.slice ka2 T.kids.length kc2,.slice sa2 T.sys.length sc2],.int .i64 er]) rfl (by kernel_rfl) (by kernel_rfl) (by kernel_rfl) (fun _ _ _ h=>h) (Or.inl ⟨by rfl,fun w hS=>by go_simp⟩) hS ?_
    try simp only [Act.put,List.getElem_toArray,List.getElem_cons_zero,List.getElem_cons_succ,List.setIfInBounds_toArray,List.set_cons_zero,List.set_cons_succ]
    refine wpAnyH_take (i:=6) (v:=.agg #[.int .i64 T.kind,.int .i64 T.n,.string T.name,.slice ra2 T.r.length rc2,.slice ka2 T.kids.length kc2,.slice sa2 T.sys.length sc2]) rfl (by kernel_rfl) (by kernel_rfl) (by kernel_rfl) (fun _ _ _ h=>h) (Or.inl ⟨by rfl,fun w hS=>by go_simp⟩) hS ?_
    try simp only [Act.put,List.getElem_toArray,List.getElem_cons_zero,List.getElem_cons_succ,List.setIfInBounds_toArray,List.set_cons_zero,List.set_cons_succ]
    refine wpAnyH_take (i:=7) (v:=.int .i64 er) rfl (by kernel_rfl) (by kernel_rfl) (by kernel_rfl) (fun _ _ _ h=>h) (Or.inl ⟨by rfl,fun w hS=>by go_simp⟩) hS ?_
    try simp only [Act.put,List.getElem_toArray,List.getElem_cons_zero,List.getElem_cons_succ,List.setIfInBounds_toArray,List.set_cons_zero,List.set_cons_succ]
    have hZ:=hZ.blw hbT
    have hge:w3.heap.size≤w4.heap.size:=hSw4.size
    have zz2:=hZ.set6 (.int .i64 T.kind) (.int .i64 T.n) (.string T.name) (.slice ra2 T.r.length rc2) (.slice ka2 T.kids.length kc2) (.slice sa2 T.sys.length sc2)
    obtain⟨o0,o1,o2,o3,o4,o5,ff⟩:=hZ.cells
    have f0:=ff 0
    have f1:=ff 1
    have f2:=ff 2
    have f3:=ff 3
    have f4:=ff 4
    have f5:=ff 5
    obtain⟨w9,hwz⟩:∃ W,W=(((((w6.setCell ⟨w4.heap.size,0,none⟩ (.int .i64 T.kind)).setCell ⟨w4.heap.size,1,none⟩ (.int .i64 T.n)).setCell ⟨w4.heap.size,2,none⟩ (.string T.name)).setCell ⟨w4.heap.size,3,none⟩ (.slice ra2 T.r.length rc2)).setCell ⟨w4.heap.size,4,none⟩ (.slice ka2 T.kids.length kc2)).setCell ⟨w4.heap.size,5,none⟩ (.slice sa2 T.sys.length sc2):=⟨_,rfl⟩
    rw [← hwz] at zz2
    have kz:Kn (fun q=>q≠w4.heap.size) w6 w9:=by rw [hwz];exact kn_set6 _ _ _ _ _ _ _ _
    have HTm:Hid (TmIn Tt w9 T (.agg #[.int .i64 T.kind,.int .i64 T.n,.string T.name,.slice ra2 T.r.length rc2,.slice ka2 T.kids.length kc2,.slice sa2 T.sys.length sc2])):=htv.keep kz.size (fun _ _=>trivial) (fun q hq hs=>kz.block q (by have:=hq.1;omega) hs)
    have hS5:Below w3.heap.size w3 w9:=hS.trans (kz.below (fun q hq=>by omega) hS.size)
    have Hwz:Hid (_=_):=hwz
    clear hwz ff kz htv
    refine wpAnyH_ready (rs:=[9]) (by kernel_rfl) (by simp) ?_
    refine ready_cons rfl (fun KK hKK=>?_) AllReadyH.nil
    refine⟨?_⟩
    go_simp
    rw [← Hwz.out]
    refine hKK.out _ _ hS5 (fun hS=>?_)
    clear hKK KK
    try simp only [Act.put,List.getElem_toArray,List.getElem_cons_zero,List.getElem_cons_succ,List.setIfInBounds_toArray,List.set_cons_zero,List.set_cons_succ]
    refine wpAnyH_take (i:=10) (v:=.int .i64 er) rfl (by kernel_rfl) (by kernel_rfl) (by kernel_rfl) (fun _ _ _ h=>h) (Or.inl ⟨by rfl,fun w hS=>by go_simp⟩) hS ?_
    try simp only [Act.put,List.getElem_toArray,List.getElem_cons_zero,List.getElem_cons_succ,List.setIfInBounds_toArray,List.set_cons_zero,List.set_cons_succ]
    refine wpAnyH_done (by kernel_rfl) ?_ _
    go_wp2_with fail
    go_meet
    exact⟨_,_,_,_,_,_,_,rfl,rfl,zz2,HTm.out,hS,hge⟩
  ·skip
   obtain⟨w4,hw4⟩:∃ W,W=wd.alloc (.cells #[.int .i64 0,.int .i64 0,.string ⟨#[]⟩,.slice none 0 0,.slice none 0 0,.slice none 0 0] 26):=⟨_,rfl⟩
   have bw4:Below wd.heap.size wd w4:=by rw [hw4];exact belowA _ _
   have sw4:w4.heap.size=wd.heap.size+1:=by rw [hw4];simp
   have hZ:Six w4 wd.heap.size (.int .i64 0) (.int .i64 0) (.string ⟨#[]⟩) (.slice none 0 0) (.slice none 0 0) (.slice none 0 0):=⟨by rw [hw4];exact heapNew _ _⟩
   have hSw4:Below w3.heap.size w3 w4:=hS.trans (bw4.mono hS.size)
   have Hw4:Hid (_=_):=hw4
   clear hw4
   refine⟨?_⟩
   go_simp
   rw [← Hw4.out]
   refine hKK.out _ _ hSw4 (fun hS=>?_)
   clear hKK KK
   try simp only [Act.put,List.getElem_toArray,List.getElem_cons_zero,List.getElem_cons_succ,List.setIfInBounds_toArray,List.set_cons_zero,List.set_cons_succ]
   refine wpAnyH_ready (rs:=[2]) (by kernel_rfl) (by simp) ?_
   refine ready_cons rfl (fun KK hKK=>?_) AllReadyH.nil
   refine⟨?_⟩
   have cc:=cP.out w4 hS
   go_simp
   refine cc.mono ?_
   rintro e w5 ⟨fV,cV,rfl,hF,hC,hbP⟩
   have hSw5:Below w3.heap.size w3 w5:=hS.trans (hbP.mono hS.size)
   clear cc
   refine hKK.out _ _ hSw5 (fun hS=>?_)
   clear hKK KK
   try simp only [Act.put,List.getElem_toArray,List.getElem_cons_zero,List.getElem_cons_succ,List.setIfInBounds_toArray,List.set_cons_zero,List.set_cons_succ]
   have hZ:=hZ.blw hbP
   refine wpAnyH_ready (rs:=[4]) (by kernel_rfl) (by simp) ?_
   refine ready_cons rfl (fun KK hKK=>?_) AllReadyH.nil
   refine⟨?_⟩
   have cc:=cT.out w5 fV cV hS hF hC
   go_simp
   refine cc.mono ?_
   rintro e w6 ⟨v3,rfl,hv3,hbT⟩
   obtain⟨ra2,rc2,ka2,kc2,sa2,sc2,rfl,ht2⟩:=hv3.form
   have htv:=ht2.value
   have hSw6:Below w3.heap.size w3 w6:=hS.trans (hbT.mono hS.size)
   clear cc ht2 hv3
   refine hKK.out _ _ hSw6 (fun hS=>?_)
   clear hKK KK
   try simp only [Act.put,List.getElem_toArray,List.getElem_cons_zero,List.getElem_cons_succ,List.setIfInBounds_toArray,List.set_cons_zero,List.set_cons_succ]
   refine wpAnyH_take (i:=5) (v:=.tuple #[.agg #[.int .i64 T.kind,.int .i64 T.n,.string T.name,.slice ra2 T.r.length rc2,.slice ka2 T.kids.length kc2,.slice sa2 T.sys.length sc2],.int .i64 er]) rfl (by kernel_rfl) (by kernel_rfl) (by kernel_rfl) (fun _ _ _ h=>h) (Or.inl ⟨by rfl,fun w hS=>by go_simp⟩) hS ?_
   try simp only [Act.put,List.getElem_toArray,List.getElem_cons_zero,List.getElem_cons_succ,List.setIfInBounds_toArray,List.set_cons_zero,List.set_cons_succ]
   refine wpAnyH_take (i:=6) (v:=.agg #[.int .i64 T.kind,.int .i64 T.n,.string T.name,.slice ra2 T.r.length rc2,.slice ka2 T.kids.length kc2,.slice sa2 T.sys.length sc2]) rfl (by kernel_rfl) (by kernel_rfl) (by kernel_rfl) (fun _ _ _ h=>h) (Or.inl ⟨by rfl,fun w hS=>by go_simp⟩) hS ?_
   try simp only [Act.put,List.getElem_toArray,List.getElem_cons_zero,List.getElem_cons_succ,List.setIfInBounds_toArray,List.set_cons_zero,List.set_cons_succ]
   refine wpAnyH_take (i:=7) (v:=.int .i64 er) rfl (by kernel_rfl) (by kernel_rfl) (by kernel_rfl) (fun _ _ _ h=>h) (Or.inl ⟨by rfl,fun w hS=>by go_simp⟩) hS ?_
   try simp only [Act.put,List.getElem_toArray,List.getElem_cons_zero,List.getElem_cons_succ,List.setIfInBounds_toArray,List.set_cons_zero,List.set_cons_succ]
   have hZ:=hZ.blw hbT
   have hge:w3.heap.size≤wd.heap.size:=hbd.size
   have zz2:=hZ.set6 (.int .i64 T.kind) (.int .i64 T.n) (.string T.name) (.slice ra2 T.r.length rc2) (.slice ka2 T.kids.length kc2) (.slice sa2 T.sys.length sc2)
   obtain⟨o0,o1,o2,o3,o4,o5,ff⟩:=hZ.cells
   have f0:=ff 0
   have f1:=ff 1
   have f2:=ff 2
   have f3:=ff 3
   have f4:=ff 4
   have f5:=ff 5
   obtain⟨w9,hwz⟩:∃ W,W=(((((w6.setCell ⟨wd.heap.size,0,none⟩ (.int .i64 T.kind)).setCell ⟨wd.heap.size,1,none⟩ (.int .i64 T.n)).setCell ⟨wd.heap.size,2,none⟩ (.string T.name)).setCell ⟨wd.heap.size,3,none⟩ (.slice ra2 T.r.length rc2)).setCell ⟨wd.heap.size,4,none⟩ (.slice ka2 T.kids.length kc2)).setCell ⟨wd.heap.size,5,none⟩ (.slice sa2 T.sys.length sc2):=⟨_,rfl⟩
   rw [← hwz] at zz2
   have kz:Kn (fun q=>q≠wd.heap.size) w6 w9:=by rw [hwz];exact kn_set6 _ _ _ _ _ _ _ _
   have HTm:Hid (TmIn Tt w9 T (.agg #[.int .i64 T.kind,.int .i64 T.n,.string T.name,.slice ra2 T.r.length rc2,.slice ka2 T.kids.length kc2,.slice sa2 T.sys.length sc2])):=htv.keep kz.size (fun _ _=>trivial) (fun q hq hs=>kz.block q (by have:=hq.1;have:=hbP.size;omega) hs)
   have hS5:Below w3.heap.size w3 w9:=hS.trans (kz.below (fun q hq=>by omega) hS.size)
   have Hwz:Hid (_=_):=hwz
   clear hwz ff kz htv
   refine wpAnyH_ready (rs:=[9]) (by kernel_rfl) (by simp) ?_
   refine ready_cons rfl (fun KK hKK=>?_) AllReadyH.nil
   refine⟨?_⟩
   go_simp
   rw [← Hwz.out]
   refine hKK.out _ _ hS5 (fun hS=>?_)
   clear hKK KK
   try simp only [Act.put,List.getElem_toArray,List.getElem_cons_zero,List.getElem_cons_succ,List.setIfInBounds_toArray,List.set_cons_zero,List.set_cons_succ]
   refine wpAnyH_take (i:=10) (v:=.int .i64 er) rfl (by kernel_rfl) (by kernel_rfl) (by kernel_rfl) (fun _ _ _ h=>h) (Or.inl ⟨by rfl,fun w hS=>by go_simp⟩) hS ?_
   try simp only [Act.put,List.getElem_toArray,List.getElem_cons_zero,List.getElem_cons_succ,List.setIfInBounds_toArray,List.set_cons_zero,List.set_cons_succ]
   refine wpAnyH_done (by kernel_rfl) ?_ _
   go_wp2_with fail
   go_meet
   exact⟨_,_,_,_,_,_,_,rfl,rfl,zz2,HTm.out,hS,hge⟩
 case rest =>
 obtain⟨ob,ra2,rc2,ka2,kc2,sa2,sc2,rfl,rfl,hO,hTv,hS4,hge⟩:=hcut
 obtain⟨w4,hw4⟩:∃ V,V=wc:=⟨_,rfl⟩
 subst hw4
 have b14:Below w1.heap.size w1 w4:=b13.trans (hS4.mono b13.size)
 clear cP cT HR3 HC3 HT3 hS1
 by_cases hz:er=0
 rotate_left
 ·have Hf:Hid (takE i r t=er∧takT i r t=noT):=⟨by rw [HE.out.1,if_neg hz],by rw [HE.out.2,if_neg hz]⟩
  have hz1:(er == 0)=false:=by simpa using hz
  clear HE
  have zz:=HZ.out w4 b14
  have zz2:=zz.set6 (.int .i64 0) (.int .i64 0) (.string ⟨#[]⟩) (.slice none 0 0) (.slice none 0 0) (.slice none 0 0)
  obtain⟨o0,o1,o2,o3,o4,o5,ff⟩:=zz.cells
  have f0:=ff 0
  have f1:=ff 1
  have f2:=ff 2
  have f3:=ff 3
  have f4:=ff 4
  have f5:=ff 5
  obtain⟨h0,h1,h2,h3,h4,h5,_⟩:=zz2.cells
  obtain⟨wz,hwz⟩:∃ W,W=(((((w4.setCell ⟨X+1,0,none⟩ (.int .i64 0)).setCell ⟨X+1,1,none⟩ (.int .i64 0)).setCell ⟨X+1,2,none⟩ (.string ⟨#[]⟩)).setCell ⟨X+1,3,none⟩ (.slice none 0 0)).setCell ⟨X+1,4,none⟩ (.slice none 0 0)).setCell ⟨X+1,5,none⟩ (.slice none 0 0):=⟨_,rfl⟩
  rw [← hwz] at h0 h1 h2 h3 h4 h5
  have kz:Kn (fun q=>q≠X+1) w4 wz:=by rw [hwz];exact kn_set6 _ _ _ _ _ _ _ _
  have bz:Below X w wz:=(HB.out w4 b14).trans (kz.below (fun q hq=>by omega) (by have:=(HB.out w4 b14).size;have:=HXs.out;omega))
  have Hwz:Hid (_=_):=hwz
  clear hwz ff zz zz2 kz
  go_wp2_with fail
  rw [← Hwz.out]
  exact bodyPost_ret (v:=.tuple #[.agg #[.int .i64 0,.int .i64 0,.string ⟨#[]⟩,.slice none 0 0,.slice none 0 0,.slice none 0 0],.int .i64 (er)]) (by simp only [results,Tryz.results13];simp [go_sem,h0,h1,h2,h3,h4,h5]) rfl ⟨_,by rw [Hf.out.1],by rw [Hf.out.2];exact noT_in _ _,bz⟩
 subst hz
 rw [if_pos rfl,if_pos rfl] at HE
 have cP:Hid (∀ V,Below w4.heap.size w4 V→Calls Tryz.prog 41 #[.int .i64 i] V fun e w'=>∃ fV cV,e=.returned (.agg #[fV,cV])∧RowC (dropOp i).fn fV w'∧RowC (dropOp i).fc cV w'∧Below V.heap.size V w'):=fun V q=>dropping_any i V hok
 have cT:Hid (∀ V fV cV,Below w4.heap.size w4 V→RowC (dropOp i).fn fV V→RowC (dropOp i).fc cV V→Calls Tryz.prog 36 #[.agg #[fV,cV],.agg #[.int .i64 T.kind,.int .i64 T.n,.string T.name,.slice ra2 T.r.length rc2,.slice ka2 T.kids.length kc2,.slice sa2 T.sys.length sc2]] V fun e w'=>∃ v',e=.returned (.tuple #[v',.int .i64 (eT (dropOp i) T 0)])∧TmIn (OkN V.heap.size w') w' (ansD (dropOp i) T) v'∧Below V.heap.size V w'):=fun V fV cV q h1 h2=>dterm_any T _ V (hTv.blw q) h1 h2 hsm
 obtain⟨er2,her⟩:∃ e,e=eT (dropOp i) T 0:=⟨_,rfl⟩
 obtain⟨T2,hT⟩:∃ T2,T2=ansD (dropOp i) T:=⟨_,rfl⟩
 rw [← her,← hT] at cT HE
 have HO:Hid (∀ V,Below w4.heap.size w4 V→Six V ob (.int .i64 T.kind) (.int .i64 T.n) (.string T.name) (.slice ra2 T.r.length rc2) (.slice ka2 T.kids.length kc2) (.slice sa2 T.sys.length sc2)):=fun V q=>hO.blw q
 have hob:=hO.lt
 have hobX:ob≠X+1:=by have:=b13.size;omega
 clear her hT
 go_upto_region 10 with fail
 refine wp_region_held_drew (S:=fun V=>Below X w V∧Six V ob (.int .i64 T.kind) (.int .i64 T.n) (.string T.name) (.slice ra2 T.r.length rc2) (.slice ka2 T.kids.length kc2) (.slice sa2 T.sys.length sc2)) (by kernel_rfl) ⟨(HB.out w4 b14).drew,⟨hO.blk⟩⟩ (fun hS=>?_)
 obtain⟨wd,hwd⟩:∃ V,V=w4.drew:=⟨_,rfl⟩
 have hbd:Below w4.heap.size w4 wd:=by rw [hwd];exact (Below.refl _ _).drew
 rw [← hwd] at hS ⊢
 clear hwd hO
 refine wpAnyH_take (i:=0) (v:=.int .i64 i) rfl (by kernel_rfl) (by kernel_rfl) (by kernel_rfl) (fun _ _ _ h=>h) (Or.inl ⟨by rfl,fun w hS=>by go_simp⟩) hS ?_
 try simp only [Act.put,List.getElem_toArray,List.getElem_cons_zero,List.getElem_cons_succ,List.setIfInBounds_toArray,List.set_cons_zero,List.set_cons_succ]
 refine wpAnyH_take (i:=2) (v:=.agg #[.int .i64 T.kind,.int .i64 T.n,.string T.name,.slice ra2 T.r.length rc2,.slice ka2 T.kids.length kc2,.slice sa2 T.sys.length sc2]) rfl (by kernel_rfl) (by kernel_rfl) (by kernel_rfl) (fun _ _ _ h=>h) (Or.inl ⟨by rfl,fun w hS=>by obtain⟨y0,y1,y2,y3,y4,y5,_⟩:=hS.2.cells;go_simp⟩) hS ?_
 try simp only [Act.put,List.getElem_toArray,List.getElem_cons_zero,List.getElem_cons_succ,List.setIfInBounds_toArray,List.set_cons_zero,List.set_cons_succ]
 refine wpAnyH_ready (rs:=[1]) (by kernel_rfl) (by simp) ?_
 refine ready_cons rfl (fun KK hKK=>?_) AllReadyH.nil
 refine⟨?_⟩
 have cc:=cP.out wd hbd
 go_simp
 refine cc.mono ?_
 rintro e w5 ⟨fV,cV,rfl,hF,hC,hbq⟩
 have hbd:Below w4.heap.size w4 w5:=hbd.trans (hbq.mono hbd.size)
 clear cc hbq
 refine hKK.out _ _ ⟨HB.out w5 (b14.trans (hbd.mono b14.size)),HO.out w5 hbd⟩ (fun hS=>?_)
 clear hKK KK
 try simp only [Act.put,List.getElem_toArray,List.getElem_cons_zero,List.getElem_cons_succ,List.setIfInBounds_toArray,List.set_cons_zero,List.set_cons_succ]
 refine wpAnyH_ready (rs:=[3]) (by kernel_rfl) (by simp) ?_
 refine ready_cons rfl (fun KK hKK=>?_) AllReadyH.nil
 refine⟨?_⟩
 have cc:=cT.out w5 fV cV hbd hF hC
 go_simp
 refine cc.mono ?_
 rintro e w6 ⟨v3,rfl,hv3,hb3⟩
 obtain⟨ra2b,rc2b,ka2b,kc2b,sa2b,sc2b,rfl,ht2⟩:=hv3.form
 have htv:=ht2.value
 have hn3:=hbd.size
 have hn4:=b14.size
 have hbd:Below w4.heap.size w4 w6:=hbd.trans (hb3.mono hbd.size)
 clear cc ht2 hv3
 refine hKK.out _ _ ⟨HB.out w6 (b14.trans (hbd.mono b14.size)),HO.out w6 hbd⟩ (fun hS=>?_)
 clear hKK KK
 try simp only [Act.put,List.getElem_toArray,List.getElem_cons_zero,List.getElem_cons_succ,List.setIfInBounds_toArray,List.set_cons_zero,List.set_cons_succ]
 refine wpAnyH_take (i:=4) (v:=.agg #[.int .i64 T2.kind,.int .i64 T2.n,.string T2.name,.slice ra2b T2.r.length rc2b,.slice ka2b T2.kids.length kc2b,.slice sa2b T2.sys.length sc2b]) rfl (by kernel_rfl) (by kernel_rfl) (by kernel_rfl) (fun _ _ _ h=>h) (Or.inl ⟨by rfl,fun w hS=>by go_simp⟩) hS ?_
 try simp only [Act.put,List.getElem_toArray,List.getElem_cons_zero,List.getElem_cons_succ,List.setIfInBounds_toArray,List.set_cons_zero,List.set_cons_succ]
 refine wpAnyH_take (i:=5) (v:=.int .i64 er2) rfl (by kernel_rfl) (by kernel_rfl) (by kernel_rfl) (fun _ _ _ h=>h) (Or.inl ⟨by rfl,fun w hS=>by go_simp⟩) hS ?_
 try simp only [Act.put,List.getElem_toArray,List.getElem_cons_zero,List.getElem_cons_succ,List.setIfInBounds_toArray,List.set_cons_zero,List.set_cons_succ]
 have zz:=HZ.out w6 (b14.trans (hbd.mono b14.size))
 have zz2:=zz.set6 (.int .i64 T2.kind) (.int .i64 T2.n) (.string T2.name) (.slice ra2b T2.r.length rc2b) (.slice ka2b T2.kids.length kc2b) (.slice sa2b T2.sys.length sc2b)
 obtain⟨o0,o1,o2,o3,o4,o5,ff⟩:=zz.cells
 have f0:=ff 0
 have f1:=ff 1
 have f2:=ff 2
 have f3:=ff 3
 have f4:=ff 4
 have f5:=ff 5
 obtain⟨w7,hwz⟩:∃ W,W=(((((w6.setCell ⟨X+1,0,none⟩ (.int .i64 T2.kind)).setCell ⟨X+1,1,none⟩ (.int .i64 T2.n)).setCell ⟨X+1,2,none⟩ (.string T2.name)).setCell ⟨X+1,3,none⟩ (.slice ra2b T2.r.length rc2b)).setCell ⟨X+1,4,none⟩ (.slice ka2b T2.kids.length kc2b)).setCell ⟨X+1,5,none⟩ (.slice sa2b T2.sys.length sc2b):=⟨_,rfl⟩
 rw [← hwz] at zz2
 have kz:Kn (fun q=>q≠X+1) w6 w7:=by rw [hwz];exact kn_set6 _ _ _ _ _ _ _ _
 have HTm:Hid (TmIn (OkN X w7) w7 T2 (.agg #[.int .i64 T2.kind,.int .i64 T2.n,.string T2.name,.slice ra2b T2.r.length rc2b,.slice ka2b T2.kids.length kc2b,.slice sa2b T2.sys.length sc2b])):=keepD htv kz (by omega) (by omega)
 have hS5:Below X w w7∧Six w7 ob (.int .i64 T.kind) (.int .i64 T.n) (.string T.name) (.slice ra2 T.r.length rc2) (.slice ka2 T.kids.length kc2) (.slice sa2 T.sys.length sc2):=⟨(HB.out w6 (b14.trans (hbd.mono b14.size))).trans (kz.below (fun q hq=>by omega) (by have:=(HB.out w6 (b14.trans (hbd.mono b14.size))).size;have:=HXs.out;omega)),(HO.out w6 hbd).kn kz hobX⟩
 have Hwz:Hid (_=_):=hwz
 clear hwz ff zz kz htv
 refine wpAnyH_ready (rs:=[6]) (by kernel_rfl) (by simp) ?_
 refine ready_cons rfl (fun KK hKK=>?_) AllReadyH.nil
 refine⟨?_⟩
 go_simp
 rw [← Hwz.out]
 refine hKK.out _ _ hS5 (fun hS=>?_)
 clear hKK KK
 try simp only [Act.put,List.getElem_toArray,List.getElem_cons_zero,List.getElem_cons_succ,List.setIfInBounds_toArray,List.set_cons_zero,List.set_cons_succ]
 refine wpAnyH_take (i:=7) (v:=.int .i64 er2) rfl (by kernel_rfl) (by kernel_rfl) (by kernel_rfl) (fun _ _ _ h=>h) (Or.inl ⟨by rfl,fun w hS=>by go_simp⟩) hS ?_
 try simp only [Act.put,List.getElem_toArray,List.getElem_cons_zero,List.getElem_cons_succ,List.setIfInBounds_toArray,List.set_cons_zero,List.set_cons_succ]
 obtain⟨h0,h1,h2,h3,h4,h5,_⟩:=zz2.cells
 refine wpAnyH_done (by kernel_rfl) ?_ _
 go_wp2_with fail
 exact bodyPost_ret (v:=.tuple #[.agg #[.int .i64 T2.kind,.int .i64 T2.n,.string T2.name,.slice ra2b T2.r.length rc2b,.slice ka2b T2.kids.length kc2b,.slice sa2b T2.sys.length sc2b],.int .i64 (er2)]) (by simp only [results,Tryz.results13];simp [go_sem,h0,h1,h2,h3,h4,h5]) rfl ⟨_,by rw [HE.out.1],by rw [HE.out.2];exact HTm.out,hS.1⟩
end Go.Proofs.YtpmmbfngogpinaaGreat

set_option linter.unusedVariables false
set_option linter.unusedSimpArgs false
namespace Go.Proofs.YtpmmbfngogpinaaGreat
open Go.RowKit
def cP (n:Fin 4294967296):C:=(n,0)
def wU:Tm:=.mk 3 0 ⟨#[]⟩ [] [] []
def wA:Tm:=.mk 21 0 ⟨#[]⟩ [cP 1] [] []
def wA2:Tm:=.mk 21 0 ⟨#[]⟩ [cP 2] [] []
def wB:Tm:=.mk 21 0 ⟨#[]⟩ [cP 1,cP 2] [] []
def wH:Tm:=.mk 15 0 ⟨#[]⟩ [] [wU,wU] [([cP 1],[wU])]
def wH2:Tm:=.mk 15 0 ⟨#[]⟩ [] [wU,wU] []
theorem wk_pE:putE 0 [cP 2] wA=0:=by decide +kernel
theorem wk_pT:putT' 0 [cP 2] wA=wA2:=by kernel_rfl
theorem wk_tE:takE 0 [] wB=0:=by decide +kernel
theorem wk_tT:takT 0 [] wB=wA:=by kernel_rfl
theorem wk_u:undA ((0,1):C) wH=(wH2,0):=by kernel_rfl
theorem wk_b1:blk wA≤20000:=by decide +kernel
theorem wk_b2:blk wB≤20000:=by decide +kernel
theorem wk_b3:blk wH≤20000∧capT wH≤40000∧capT wB≤40000:=by decide +kernel
theorem wrow1_in (w:World) (g:Nat) (n:Fin 4294967296) (h:w.heap[g]? = some (.cells #[.int .u32 (n.val:Int),.int .u32 0] 38 (0,0))):ClRow Tt w [cP n] (.slice (some ⟨g,0,none⟩) 1 1):=by
 refine⟨_,_,rfl,Nat.le_refl _,fun j x hx=>?_⟩
 have hj:j=0:=by have:=some_lt hx;simp at this;omega
 subst hj
 simp only [List.getElem?_cons_zero,Option.some.injEq] at hx
 subst hx
 refine⟨g,0,rfl,trivial,(Array.getElem?_eq_some_iff.1 h).1,?_,?_⟩ <;> (unfold World.cell?; simp [h,cP])
theorem wrow2_in (w:World) (g:Nat) (h:w.heap[g]? = some (.cells #[.int .u32 1,.int .u32 0,.int .u32 2,.int .u32 0] 38 (0,0))):ClRow Tt w [cP 1,cP 2] (.slice (some ⟨g,0,none⟩) 2 2):=by
 refine⟨_,_,rfl,Nat.le_refl _,fun j x hx=>?_⟩
 have hj:j=0∨j=1:=by have:=some_lt hx;simp at this;omega
 rcases hj with rfl|rfl
 ·simp only [List.getElem?_cons_zero,Option.some.injEq] at hx
  subst hx
  refine⟨g,0,rfl,trivial,(Array.getElem?_eq_some_iff.1 h).1,?_,?_⟩ <;> (unfold World.cell?; simp [h,cP])
 ·simp only [List.getElem?_cons_succ,List.getElem?_cons_zero,Option.some.injEq] at hx
  subst hx
  refine⟨g,0,rfl,trivial,(Array.getElem?_eq_some_iff.1 h).1,?_,?_⟩ <;> (unfold World.cell?; simp [h,cP])
theorem wU_in (w:World):TmIn Tt w wU (.agg #[.int .i64 3,.int .i64 0,.string ⟨#[]⟩,.slice none 0 0,.slice none 0 0,.slice none 0 0]) :=
 .mk _ _ _ _ _ _ _ _ _ ⟨by decide,by decide⟩ ⟨by decide,by decide⟩ (cl_nil0 w) (kd_nil0 w) (sy_nil0 w)
theorem wLoop_in (w:World) (l:List C) (a:Option Addr) (n c:Nat) (h:ClRow Tt w l (.slice a n c)):TmIn Tt w (.mk 21 0 ⟨#[]⟩ l [] []) (.agg #[.int .i64 21,.int .i64 0,.string ⟨#[]⟩,.slice a n c,.slice none 0 0,.slice none 0 0]) :=
 .mk _ _ _ _ _ _ _ _ _ ⟨by decide,by decide⟩ ⟨by decide,by decide⟩ h (kd_nil0 w) (sy_nil0 w)
theorem wKids1 (w:World) (g:Nat) (h:w.heap[g]? = some (.cells #[.int .i64 3,.int .i64 0,.string ⟨#[]⟩,.slice none 0 0,.slice none 0 0,.slice none 0 0] 26 (0,0))):KdT Tt w (TmIn Tt w) [wU] (.slice (some ⟨g,0,none⟩) 1 1):=by
 refine⟨_,_,rfl,Nat.le_refl _,fun j x hx=>?_⟩
 have hj:j=0:=by have:=some_lt hx;simp at this;omega
 subst hj
 simp only [List.getElem?_cons_zero,Option.some.injEq] at hx
 subst hx
 refine⟨g,0,_,_,_,_,_,_,rfl,trivial,(Array.getElem?_eq_some_iff.1 h).1,wU_in w,?_,?_,?_,?_,?_,?_⟩ <;> (unfold World.cell?; simp [h])
theorem wKids2 (w:World) (g:Nat) (h:w.heap[g]? = some (.cells #[.int .i64 3,.int .i64 0,.string ⟨#[]⟩,.slice none 0 0,.slice none 0 0,.slice none 0 0,.int .i64 3,.int .i64 0,.string ⟨#[]⟩,.slice none 0 0,.slice none 0 0,.slice none 0 0] 26 (0,0))):KdT Tt w (TmIn Tt w) [wU,wU] (.slice (some ⟨g,0,none⟩) 2 2):=by
 refine⟨_,_,rfl,Nat.le_refl _,fun j x hx=>?_⟩
 have hj:j=0∨j=1:=by have:=some_lt hx;simp at this;omega
 rcases hj with rfl|rfl
 ·simp only [List.getElem?_cons_zero,Option.some.injEq] at hx
  subst hx
  refine⟨g,0,_,_,_,_,_,_,rfl,trivial,(Array.getElem?_eq_some_iff.1 h).1,wU_in w,?_,?_,?_,?_,?_,?_⟩ <;> (unfold World.cell?; simp [h])
 ·simp only [List.getElem?_cons_succ,List.getElem?_cons_zero,Option.some.injEq] at hx
  subst hx
  refine⟨g,0,_,_,_,_,_,_,rfl,trivial,(Array.getElem?_eq_some_iff.1 h).1,wU_in w,?_,?_,?_,?_,?_,?_⟩ <;> (unfold World.cell?; simp [h])
theorem wH_in (w:World) (g1 g2 g3 g4:Nat) (h1:w.heap[g1]? = some (.cells #[.int .i64 3,.int .i64 0,.string ⟨#[]⟩,.slice none 0 0,.slice none 0 0,.slice none 0 0,.int .i64 3,.int .i64 0,.string ⟨#[]⟩,.slice none 0 0,.slice none 0 0,.slice none 0 0] 26 (0,0)))
  (h2:w.heap[g2]? = some (.cells #[.int .u32 1,.int .u32 0] 38 (0,0))) (h3:w.heap[g3]? = some (.cells #[.int .i64 3,.int .i64 0,.string ⟨#[]⟩,.slice none 0 0,.slice none 0 0,.slice none 0 0] 26 (0,0)))
  (h4:w.heap[g4]? = some (.cells #[.slice (some ⟨g2,0,none⟩) 1 1,.slice (some ⟨g3,0,none⟩) 1 1] 40 (0,0))) :
  TmIn Tt w wH (.agg #[.int .i64 15,.int .i64 0,.string ⟨#[]⟩,.slice none 0 0,.slice (some ⟨g1,0,none⟩) 2 2,.slice (some ⟨g4,0,none⟩) 1 1]):=by
 refine .mk _ _ _ _ _ _ _ _ _ ⟨by decide,by decide⟩ ⟨by decide,by decide⟩ (cl_nil0 w) (wKids2 w g1 h1) ⟨_,_,rfl,Nat.le_refl _,fun j x hx=>?_⟩
 have hj:j=0:=by have:=some_lt hx;simp at this;omega
 subst hj
 simp only [List.getElem?_cons_zero,Option.some.injEq] at hx
 subst hx
 refine⟨g4,0,_,_,rfl,trivial,(Array.getElem?_eq_some_iff.1 h4).1,wrow1_in w g2 1 h2,wKids1 w g3 h3,?_,?_⟩ <;> (unfold World.cell?; simp [h4])
theorem loop_any (a:Option Addr) (n c:Nat) (w:World):Calls Tryz.prog 33 #[.slice a n c] w fun e w'=>e=.returned (.agg #[.int .i64 21,.int .i64 0,.string ⟨#[]⟩,.slice a n c,.slice none 0 0,.slice none 0 0])∧Below w.heap.size w w':=by
 obtain⟨w1,hw1⟩:∃ W,W=w.alloc (.cells #[.int .i64 21,.int .i64 0,.string ⟨#[]⟩,.slice a n c,.slice none 0 0,.slice none 0 0] 26):=⟨_,rfl⟩
 have b1:Below w.heap.size w w1:=by rw [hw1];exact belowA _ _
 have m1:Six w1 w.heap.size (.int .i64 21) (.int .i64 0) (.string ⟨#[]⟩) (.slice a n c) (.slice none 0 0) (.slice none 0 0):=⟨by rw [hw1];exact heapNew _ _⟩
 obtain⟨h0,h1,h2,h3,h4,h5,_⟩:=m1.cells
 have H1:Hid (_=_):=hw1
 clear hw1 m1
 go_enter Tryz.func33,Tryz.ntmps33
 go_wp2_with fail
 rw [← H1.out]
 exact bodyPost_ret (v:=.agg #[.int .i64 21,.int .i64 0,.string ⟨#[]⟩,.slice a n c,.slice none 0 0,.slice none 0 0]) (by simp only [results,Tryz.results33];simp [go_sem,h0,h1,h2,h3,h4,h5]) rfl ⟨rfl,b1⟩
set_option maxRecDepth 100000 in
set_option maxHeartbeats 8000000 in
theorem works13_any (w:World):Calls Tryz.prog 9 #[] w fun e w'=>e=.returned (.bool true)∧Below w.heap.size w w':=by
 obtain⟨w1,hw1⟩:∃ W,W=w.alloc (.cells #[.int .u32 1,.int .u32 0] 38):=⟨_,rfl⟩
 have b1:Below w.heap.size w w1:=by rw [hw1];exact belowA _ _
 have m1:w1.heap[w.heap.size]? = some (.cells #[.int .u32 1,.int .u32 0] 38 (0,0)):=by rw [hw1];exact heapNew _ _
 have c1:=loop_any (some ⟨w.heap.size,0,none⟩) 1 1 w1
 obtain⟨X,hX⟩:∃ X,X=w.heap.size:=⟨_,rfl⟩
 rw [← hX] at c1 m1
 have H1:Hid (_=_):=hw1
 have HX:Hid (X=w.heap.size):=hX
 have B1:Below X w w1:=by rw [hX];exact b1
 rw [← hX]
 clear hw1 hX b1
 go_enter Tryz.func9,Tryz.ntmps9
 go_wp2_with fail
 simp only [← HX.out]
 rw [← H1.out]
 refine c1.mono ?_
 rintro e w2 ⟨rfl,b2⟩
 clear c1 H1
 obtain⟨w3,hw3⟩:∃ W,W=w2.alloc (.cells #[.int .u32 2,.int .u32 0] 38):=⟨_,rfl⟩
 have b3:Below w2.heap.size w2 w3:=by rw [hw3];exact belowA _ _
 have m3:w3.heap[w2.heap.size]? = some (.cells #[.int .u32 2,.int .u32 0] 38 (0,0)):=by rw [hw3];exact heapNew _ _
 have b13:=bchain b2 b3
 have r1:=(wrow1_in w1 X 1 m1).blw b13
 have c3:=dput_any wA _ w3 (wLoop_in w3 [cP 1] _ _ _ r1) wk_b1 0 [cP 2] _ (wrow1_in w3 w2.heap.size 2 m3) (by simp)
 rw [wk_pE,wk_pT] at c3
 have B3:Below X w w3:=B1.trans (b13.mono (by have:=B1.size;have:=HX.out;omega))
 have H3:Hid (_=_):=hw3
 clear hw3 r1 m1 m3
 go_wp2_with fail
 rw [← H3.out]
 refine c3.mono ?_
 rintro e w4 ⟨v4,rfl,hv4,b4⟩
 clear c3 H3
 obtain⟨ra4,rc4,ka4,kc4,sa4,sc4,rfl,ht4⟩:=hv4.form
 obtain⟨w5,hw5⟩:∃ W,W=w4.alloc (.cells #[.int .i64 21,.int .i64 0,.string ⟨#[]⟩,.slice ra4 1 rc4,.slice ka4 0 kc4,.slice sa4 0 sc4] 26):=⟨_,rfl⟩
 obtain⟨A,hA⟩:∃ A,A=w4.heap.size:=⟨_,rfl⟩
 have b5:Below w4.heap.size w4 w5:=by rw [hw5];exact belowA _ _
 have n5:Six w5 A (.int .i64 21) (.int .i64 0) (.string ⟨#[]⟩) (.slice ra4 1 rc4) (.slice ka4 0 kc4) (.slice sa4 0 sc4):=⟨by rw [hw5,hA];exact heapNew _ _⟩
 have b35:=bchain b4 b5
 have B5:Below X w w5:=B3.trans (b35.mono (by have:=B3.size;have:=HX.out;omega))
 have HRa:Hid (ClRow Tt w5 [cP 2] (.slice ra4 1 rc4)):=((ht4.blw b5).row).keep (Nat.le_refl _) (fun _ _=>trivial) (fun _ _ _=>rfl)
 have H5:Hid (_=_):=hw5
 have HA:Hid (A=w4.heap.size):=hA
 clear hw5 hA hv4 ht4 b4 b5 b35
 simp only [wA2,List.length_cons,List.length_nil,Nat.zero_add]
 go_upto_region 2 with fail
 simp only [← HA.out]
 rw [← H5.out]
 clear H5
 obtain⟨w6,hw6⟩:∃ W,W=w5.alloc (.cells #[.int .u32 1,.int .u32 0,.int .u32 2,.int .u32 0] 38):=⟨_,rfl⟩
 obtain⟨Y,hY⟩:∃ Y,Y=w5.heap.size:=⟨_,rfl⟩
 have b6:Below w5.heap.size w5 w6:=by rw [hw6];exact belowA _ _
 have m6:w6.heap[Y]? = some (.cells #[.int .u32 1,.int .u32 0,.int .u32 2,.int .u32 0] 38 (0,0)):=by rw [hw6,hY];exact heapNew _ _
 have c6:=loop_any (some ⟨Y,0,none⟩) 2 2 w6
 have H6:Hid (_=_):=hw6
 have HY:Hid (Y=w5.heap.size):=hY
 clear hw6 hY
 go_wp2_with fail
 simp only [← HY.out]
 rw [← H6.out]
 refine c6.mono ?_
 rintro e w7 ⟨rfl,b7⟩
 clear c6 H6
 have b57:=bchain b6 b7
 have c7:=dtake_any wB _ w7 (wLoop_in w7 [cP 1,cP 2] _ _ _ ((wrow2_in w6 Y m6).blw b7)) wk_b2 0 [] (.slice none 0 0) (cl_nil0 w7) (by simp) (Nat.le_trans (cap_ge _).1 (Nat.le_trans (cap_ans (putOp_len _ _) _) wk_b3.2.2))
 rw [wk_tE,wk_tT] at c7
 go_wp2_with fail
 refine c7.mono ?_
 rintro e w8 ⟨v8,rfl,hv8,b8⟩
 clear c7
 obtain⟨ra8,rc8,ka8,kc8,sa8,sc8,rfl,ht8⟩:=hv8.form
 obtain⟨w9,hw9⟩:∃ W,W=w8.alloc (.cells #[.int .i64 21,.int .i64 0,.string ⟨#[]⟩,.slice ra8 1 rc8,.slice ka8 0 kc8,.slice sa8 0 sc8] 26):=⟨_,rfl⟩
 obtain⟨D,hD⟩:∃ A,A=w8.heap.size:=⟨_,rfl⟩
 have b9:Below w8.heap.size w8 w9:=by rw [hw9];exact belowA _ _
 have n9:Six w9 D (.int .i64 21) (.int .i64 0) (.string ⟨#[]⟩) (.slice ra8 1 rc8) (.slice ka8 0 kc8) (.slice sa8 0 sc8):=⟨by rw [hw9,hD];exact heapNew _ _⟩
 have b59:=bchain (bchain b57 b8) b9
 have HRb:Hid (ClRow Tt w9 [cP 1] (.slice ra8 1 rc8)):=((ht8.blw b9).row).keep (Nat.le_refl _) (fun _ _=>trivial) (fun _ _ _=>rfl)
 have H9:Hid (_=_):=hw9
 have HD:Hid (D=w8.heap.size):=hD
 clear hw9 hD hv8 ht8 b8 b9 b57 b6 b7 m6
 simp only [wA,List.length_cons,List.length_nil,Nat.zero_add]
 go_upto_region 3 with fail
 simp only [← HD.out]
 rw [← H9.out]
 clear H9
 obtain⟨U,hU⟩:∃ U,U=w9.heap.size:=⟨_,rfl⟩
 obtain⟨wu,hwu⟩:∃ W,W=w9.alloc (.cells #[.int .i64 3,.int .i64 0,.string ⟨#[]⟩,.slice none 0 0,.slice none 0 0,.slice none 0 0] 26):=⟨_,rfl⟩
 have bu:Below w9.heap.size w9 wu:=by rw [hwu];exact belowA _ _
 have nu:Six wu U (.int .i64 3) (.int .i64 0) (.string ⟨#[]⟩) (.slice none 0 0) (.slice none 0 0) (.slice none 0 0):=⟨by rw [hwu,hU];exact heapNew _ _⟩
 have Hu:Hid (_=_):=hwu
 have HU:Hid (U=w9.heap.size):=hU
 have su:wu.heap.size=U+1:=by rw [hwu,hU];simp
 clear hwu hU
 go_upto_region 4 with fail
 simp only [← HU.out]
 rw [← Hu.out]
 clear Hu
 obtain⟨wv,hwv⟩:∃ W,W=(((wu.alloc (.cells #[.int .i64 3,.int .i64 0,.string ⟨#[]⟩,.slice none 0 0,.slice none 0 0,.slice none 0 0,.int .i64 3,.int .i64 0,.string ⟨#[]⟩,.slice none 0 0,.slice none 0 0,.slice none 0 0] 26)).alloc (.cells #[.int .u32 1,.int .u32 0] 38)).alloc (.cells #[.int .i64 3,.int .i64 0,.string ⟨#[]⟩,.slice none 0 0,.slice none 0 0,.slice none 0 0] 26)).alloc (.cells #[.slice (some ⟨U+2,0,none⟩) 1 1,.slice (some ⟨U+3,0,none⟩) 1 1] 40):=⟨_,rfl⟩
 have bv:Below wu.heap.size wu wv:=by rw [hwv];exact bchain (bchain (bchain (belowA _ _) (belowA _ _)) (belowA _ _)) (belowA _ _)
 have k1:wv.heap[U+1]? = some (.cells #[.int .i64 3,.int .i64 0,.string ⟨#[]⟩,.slice none 0 0,.slice none 0 0,.slice none 0 0,.int .i64 3,.int .i64 0,.string ⟨#[]⟩,.slice none 0 0,.slice none 0 0,.slice none 0 0] 26 (0,0)):=by
  rw [hwv,← su];exact (Below.heap_alloc _ _ _ (by simp;omega)).trans ((Below.heap_alloc _ _ _ (by simp;omega)).trans ((Below.heap_alloc _ _ _ (by simp)).trans (heapNew wu _)))
 have k2:wv.heap[U+2]? = some (.cells #[.int .u32 1,.int .u32 0] 38 (0,0)):=by
  rw [hwv];refine (Below.heap_alloc _ _ _ (by simp;omega)).trans ((Below.heap_alloc _ _ _ (by simp;omega)).trans ?_)
  have:=heapNew (wu.alloc (.cells #[.int .i64 3,.int .i64 0,.string ⟨#[]⟩,.slice none 0 0,.slice none 0 0,.slice none 0 0,.int .i64 3,.int .i64 0,.string ⟨#[]⟩,.slice none 0 0,.slice none 0 0,.slice none 0 0] 26)) (.cells #[.int .u32 1,.int .u32 0] 38);rwa [World.size_alloc,su] at this
 have k3:wv.heap[U+3]? = some (.cells #[.int .i64 3,.int .i64 0,.string ⟨#[]⟩,.slice none 0 0,.slice none 0 0,.slice none 0 0] 26 (0,0)):=by
  rw [hwv];refine (Below.heap_alloc _ _ _ (by simp;omega)).trans ?_
  have:=heapNew ((wu.alloc (.cells #[.int .i64 3,.int .i64 0,.string ⟨#[]⟩,.slice none 0 0,.slice none 0 0,.slice none 0 0,.int .i64 3,.int .i64 0,.string ⟨#[]⟩,.slice none 0 0,.slice none 0 0,.slice none 0 0] 26)).alloc (.cells #[.int .u32 1,.int .u32 0] 38)) (.cells #[.int .i64 3,.int .i64 0,.string ⟨#[]⟩,.slice none 0 0,.slice none 0 0,.slice none 0 0] 26);rwa [World.size_alloc,World.size_alloc,su] at this
 have k4:wv.heap[U+4]? = some (.cells #[.slice (some ⟨U+2,0,none⟩) 1 1,.slice (some ⟨U+3,0,none⟩) 1 1] 40 (0,0)):=by
  rw [hwv]
  have:=heapNew (((wu.alloc (.cells #[.int .i64 3,.int .i64 0,.string ⟨#[]⟩,.slice none 0 0,.slice none 0 0,.slice none 0 0,.int .i64 3,.int .i64 0,.string ⟨#[]⟩,.slice none 0 0,.slice none 0 0,.slice none 0 0] 26)).alloc (.cells #[.int .u32 1,.int .u32 0] 38)).alloc (.cells #[.int .i64 3,.int .i64 0,.string ⟨#[]⟩,.slice none 0 0,.slice none 0 0,.slice none 0 0] 26)) (.cells #[.slice (some ⟨U+2,0,none⟩) 1 1,.slice (some ⟨U+3,0,none⟩) 1 1] 40);rwa [World.size_alloc,World.size_alloc,World.size_alloc,su] at this
 have cu:=under_any wH _ wv (wH_in wv (U+1) (U+2) (U+3) (U+4) k1 k2 k3 k4) wk_b3.1 wk_b3.2.1 ((0,1):C)
 rw [wk_u] at cu
 dsimp only at cu
 obtain⟨y0,y1,y2,y3,y4,y5,_⟩:=nu.cells
 have nu2:Six ((wu.alloc (.cells #[.int .i64 3,.int .i64 0,.string ⟨#[]⟩,.slice none 0 0,.slice none 0 0,.slice none 0 0,.int .i64 3,.int .i64 0,.string ⟨#[]⟩,.slice none 0 0,.slice none 0 0,.slice none 0 0] 26)).alloc (.cells #[.int .u32 1,.int .u32 0] 38)) U (.int .i64 3) (.int .i64 0) (.string ⟨#[]⟩) (.slice none 0 0) (.slice none 0 0) (.slice none 0 0):=nu.blw (bchain (belowA _ _) (belowA _ _))
 obtain⟨z0,z1,z2,z3,z4,z5,_⟩:=nu2.cells
 have Hv:Hid (_=_):=hwv
 have Hsu:Hid (wu.heap.size=U+1):=su
 clear hwv k1 k2 k3 k4 su
 go_wp2_with fail
 simp only [Hsu.out,Nat.add_assoc,Nat.reduceAdd]
 rw [← Hv.out]
 refine cu.mono ?_
 rintro e wx ⟨vx,rfl,hvx,bx⟩
 clear cu y0 y1 y2 y3 y4 y5 z0 z1 z2 z3 z4 z5 nu2 Hv
 obtain⟨rax,rcx,kax,kcx,sax,scx,rfl,htx⟩:=hvx.form
 obtain⟨wy,hwy⟩:∃ W,W=wx.alloc (.cells #[.int .i64 15,.int .i64 0,.string ⟨#[]⟩,.slice rax 0 rcx,.slice kax 2 kcx,.slice sax 0 scx] 26):=⟨_,rfl⟩
 obtain⟨E,hE⟩:∃ A,A=wx.heap.size:=⟨_,rfl⟩
 have by_:Below wx.heap.size wx wy:=by rw [hwy];exact belowA _ _
 have ny:Six wy E (.int .i64 15) (.int .i64 0) (.string ⟨#[]⟩) (.slice rax 0 rcx) (.slice kax 2 kcx) (.slice sax 0 scx):=⟨by rw [hwy,hE];exact heapNew _ _⟩
 have b9y:=bchain (bchain (bchain bu bv) bx) by_
 have b5y:=bchain b59 b9y
 have By:Below X w wy:=B5.trans (b5y.mono (by have:=B5.size;have:=HX.out;omega))
 have na:=n5.blw b5y
 have nb:=n9.blw b9y
 have ra:=(HRa.out.blw b5y).row
 have rb:=(HRb.out.blw b9y).row
 have Hy:Hid (_=_):=hwy
 have HEe:Hid (E=wx.heap.size):=hE
 clear hwy hE hvx htx bx by_ b9y b5y bu bv b59 n5 n9 B1 B3 B5 nu
 simp only [wH2,List.length_cons,List.length_nil,Nat.zero_add,Nat.reduceAdd]
 go_upto_region 5 with fail
 simp only [← HEe.out]
 rw [← Hy.out]
 clear Hy
 obtain⟨w10,hw10⟩:∃ W,W=wy.alloc (.cells #[.int .u32 2,.int .u32 0] 38):=⟨_,rfl⟩
 have b10:Below wy.heap.size wy w10:=by rw [hw10];exact belowA _ _
 have m10:w10.heap[wy.heap.size]? = some (.cells #[.int .u32 2,.int .u32 0] 38 (0,0)):=by rw [hw10];exact heapNew _ _
 have c10:=same_any [cP 2] [cP 2] _ _ w10 (ra.below b10) (wrow1_in w10 wy.heap.size 2 m10).row (by simp)
 rw [decide_eq_true rfl] at c10
 obtain⟨a0,a1,a2,a3,a4,a5,_⟩:=na.cells
 have H10:Hid (_=_):=hw10
 clear hw10 m10
 go_wp2_with fail
 rw [← H10.out]
 refine c10.mono ?_
 rintro e w11 ⟨rfl,b11⟩
 clear c10 a0 a1 a2 a3 a4 a5 H10
 have by11:=bchain b10 b11
 obtain⟨w12,hw12⟩:∃ W,W=w11.alloc (.cells #[.int .u32 1,.int .u32 0] 38):=⟨_,rfl⟩
 have b12:Below w11.heap.size w11 w12:=by rw [hw12];exact belowA _ _
 have m12:w12.heap[w11.heap.size]? = some (.cells #[.int .u32 1,.int .u32 0] 38 (0,0)):=by rw [hw12];exact heapNew _ _
 have c12:=same_any [cP 1] [cP 1] _ _ w12 ((rb.below by11).below b12) (wrow1_in w12 w11.heap.size 1 m12).row (by simp)
 rw [decide_eq_true rfl] at c12
 obtain⟨a0,a1,a2,a3,a4,a5,_⟩:=(nb.blw by11).cells
 have H12:Hid (_=_):=hw12
 clear hw12 m12
 go_wp2_with fail
 rw [← H12.out]
 refine c12.mono ?_
 rintro e w13 ⟨rfl,b13'⟩
 clear c12 a0 a1 a2 a3 a4 a5 H12
 have by13:=bchain by11 (bchain b12 b13')
 obtain⟨a0,a1,a2,a3,a4,a5,_⟩:=(ny.blw by13).cells
 have Bf:Below X w w13:=By.trans (by13.mono (by have:=By.size;have:=HX.out;omega))
 go_wp2_with fail
 go_ret
 exact⟨rfl,Bf⟩
set_option maxRecDepth 100000 in
set_option maxHeartbeats 4000000 in
theorem great13_any (t:Tm) (v:Value) (w:World) (hv:TmIn Tt w t v):Calls Tryz.prog 8 #[v,.slice none 0 0] w fun e w'=>e=.returned (.bool (decide (200<blk t)))∧Below w.heap.size w w':=by
 obtain⟨ra,rc,ka,kc,sa,sc,rfl,ht⟩:=hv.form
 obtain⟨w1,hw1⟩:∃ w1,w1=w.alloc (.cells #[.int .i64 t.kind,.int .i64 t.n,.string t.name,.slice ra t.r.length rc,.slice ka t.kids.length kc,.slice sa t.sys.length sc] 26):=⟨_,rfl⟩
 have b1:Below w.heap.size w w1:=by rw [hw1];exact belowA _ _
 have c6:Cs6 w1 w.heap.size 0 t ra rc ka kc sa sc:=by rw [hw1];exact cs6_new w t ra rc ka kc sa sc
 have cc:=bulk_any (blk t) 200 200 t _ w1 rfl (by omega) (Nat.le_refl _) (ht.blw b1).value
 obtain⟨_,y0,y1,y2,y3,y4,y5⟩:=c6
 simp only [Nat.zero_add] at y1 y2 y3 y4 y5
 have H1:Hid (_=_):=hw1
 clear hw1 hv ht
 go_enter Tryz.func8,Tryz.ntmps8
 go_upto_region 1 with fail
 rw [← H1.out]
 go_wp2_with fail
 refine cc.mono ?_
 rintro e w3 ⟨⟨r,rfl,r1,r2,r3,r4⟩,hb3⟩
 clear cc y0 y1 y2 y3 y4 y5
 by_cases h:200<blk t
 ·have hq:(200:Int) < (r:Int):=by have:=r2 h;omega
  have HE:Hid (decide (200<blk t)=true):=(decide_eq_true h:_=_)
  have hqb:decide ((200:Int) < (r:Int))=true:=decide_eq_true hq
  clear r1 r2 h
  go_wp2_with fail
  go_ret
  exact⟨by rw [HE.out];rfl,bchain b1 hb3⟩
 ·have hq:¬ (200:Int) < (r:Int):=by have:=r1 (by omega);omega
  have HE:Hid (decide (200<blk t)=false):=(decide_eq_false h:_=_)
  have hqb:decide ((200:Int) < (r:Int))=false:=decide_eq_false hq
  clear r1 r2 h
  go_wp2_with fail
  go_ret
  exact⟨by rw [HE.out];rfl,bchain b1 hb3⟩
end Go.Proofs.YtpmmbfngogpinaaGreat

set_option linter.unusedVariables false
set_option linter.unusedSimpArgs false
namespace Go.Proofs.YtpmmbfngogpinaaGreat
open Go.ChangeShapes Go.WideShapes Go.ChangeAt Go.RowKit
section
variable {H:Type} {enc:TypeId × Value→H}
theorem wf_I64 {n:Int} (h:(Lit.int .i64 n).wf=true):I64 n:=by
 simp [Lit.wf,IntKind.min,IntKind.max,IntKind.bits,IntKind.signed] at h
 exact⟨by omega,by omega⟩
set_option maxRecDepth 100000 in
theorem cells_term:Tryz.prog.cellsOf 26=6:=by kernel_rfl
set_option maxRecDepth 100000 in
theorem cells_branch:Tryz.prog.cellsOf 40=2:=by kernel_rfl
set_option maxRecDepth 100000 in
theorem cells_terms:Tryz.prog.cellsOf 23=1:=by kernel_rfl
set_option maxRecDepth 100000 in
theorem cells_branches:Tryz.prog.cellsOf 24=1:=by kernel_rfl
set_option maxRecDepth 100000 in
theorem cells_cls:Tryz.prog.cellsOf 22=1:=by kernel_rfl
set_option maxRecDepth 100000 in
theorem ycells_int:Tryz.prog.cellsOf 3=1:=by kernel_rfl
set_option maxRecDepth 100000 in
theorem ycells_str:Tryz.prog.cellsOf 9=1:=by kernel_rfl
theorem open_any {W:World} {fuel:Nat} {cs:List Value} {x:DataW H × List MemPlace} {ts te:TypeId} {k:Nat} (hu:Tryz.prog.underlying ts=some (.slice te)) (hk:Tryz.prog.cellsOf te=k) (hk0:0<k) {T:Type} [Inhabited T] (p:T→List Value→Prop)
  (ih:∀ m,m<fuel→∀ cs x,DataW.trod enc Tryz.prog W 0 (fun _=>true) true m te cs=some x→∃ t,p t cs) (h:DataW.trod enc Tryz.prog W 0 (fun _=>true) true fuel ts cs=some x) :
  ∃ (l:List T) (a:Option Addr) (cap:Nat),cs=[.slice a l.length cap]∧l.length≤cap∧∀ j t,l[j]? = some t→∃ g off cs',a=some ⟨g,off,none⟩∧g<W.heap.size∧p t cs'∧∀ i,i<k→W.cell? ⟨g,off+j*k+i,none⟩=cs'[i]?:=by
 rcases DataW.trod_slice hu h with ⟨rfl,_⟩|⟨a,len,cap,elems,rest,m,rfl,rfl,_,hba,hlc,hcm,hel,hcell,_,_⟩
 ·exact⟨[],none,0,rfl,Nat.le_refl _,fun j t ht=>by simp at ht⟩
 ·have each:∀ i,i<len→∃ (t:T),∃ cs',p t cs'∧cs'.length=k∧∀ j,j<k→W.cell? (a.add (i*k+j))=cs'[j]?:=fun i hi=>by
   have h1:=hcell i hi
   rw [List.getElem?_eq_getElem (by omega),hk] at h1
   obtain⟨cs',h2,h3⟩:=Option.bind_eq_some_iff.1 h1
   obtain⟨t,hp⟩:=ih m (by omega) _ _ h3
   obtain⟨h5,h6,h4⟩:=World.cells?_some h2
   refine⟨t,cs',hp,by first | exact h5 | exact h6 | omega,fun j hj=>?_⟩
   have:=h4 j hj
   rw [Go.Deep.add_add] at this
   exact this
  obtain⟨f,hf⟩:=Go.Deep.choose_lt (p:=fun i t=>∃ cs',p t cs'∧cs'.length=k∧∀ j,j<k→W.cell? (a.add (i*k+j))=cs'[j]?) each
  refine⟨(List.range len).map f,some a,cap,by simp,by simpa using hlc,fun j x hx=>?_⟩
  have hj:j<len:=by
   rcases Nat.lt_or_ge j len with h1|h1
   ·exact h1
   ·rw [List.getElem?_eq_none (by simpa using h1)] at hx;cases hx
  rw [List.getElem?_map,List.getElem?_range hj] at hx
  simp at hx
  subst hx
  obtain⟨cs',hs,hl',hc⟩:=hf j hj
  obtain⟨cs0,_,hl0,hc0⟩:=hf 0 (by omega)
  obtain⟨b,off,spot⟩:=a
  have h0:W.cell? ⟨b,off,spot⟩=some (cs0[0]'(by omega)):=by
   have:=hc0 0 hk0
   rw [List.getElem?_eq_getElem (by omega)] at this
   simpa [Addr.add] using this
  have hspot:spot=none:=World.cell?_spot h0
  subst hspot
  have hb:b<W.heap.size:=World.block_lt_of_cell? _ _ h0
  have e:∀ j',Addr.add ⟨b,off,none⟩ (j*k+j')=⟨b,off+j*k+j',none⟩:=fun j'=>by
   unfold Addr.add
   split
   ·next h9 =>
    have h1:j*k=0:=by omega
    have h2:j'=0:=by omega
    rw [h1,h2];rfl
   ·rw [Nat.add_assoc]
  exact⟨b,off,cs',rfl,hb,hs,fun i hi=>by have:=hc i hi;rw [e] at this;exact this⟩
set_option maxRecDepth 100000 in
theorem open_clause1 {W:World} (m:Nat) (cs:List Value) (x:DataW H × List MemPlace) (h:DataW.trod enc Tryz.prog W 0 (fun _=>true) true m 38 cs=some x):∃ c:C,cs=[.int .u32 (c.1.val:Int),.int .u32 (c.2.val:Int)]:=by
 obtain⟨xs,n,rfl,_,hl,hlen,hf⟩:=DataW.trod_struct Tryz.underlying38 h
 rw [Tryz.cellsC] at hl
 match cs,hl with
 | [u0,u1],_ =>
  match xs,hlen with
  | [y0,y1],_ =>
   have e0:DataW.trod enc Tryz.prog W 0 (fun _=>true) true n 36 (([u0,u1].drop 0).take (Tryz.prog.cellsOf 36))=some y0:=hf 0 _ rfl
   have e1:DataW.trod enc Tryz.prog W 0 (fun _=>true) true n 36 (([u0,u1].drop 1).take (Tryz.prog.cellsOf 36))=some y1:=hf 1 _ rfl
   rw [Tryz.cellsU] at e0 e1
   obtain⟨a,i0,_,w0⟩:=DataW.trod_int Tryz.underlying36 e0
   obtain⟨b,i1,_,w1⟩:=DataW.trod_int Tryz.underlying36 e1
   obtain⟨a,rfl⟩:=bounds_wf w0
   obtain⟨b,rfl⟩:=bounds_wf w1
   simp at i0 i1
   subst i0 i1
   exact⟨(a,b),rfl⟩
theorem open_cls {W:World} {fuel:Nat} {cs:List Value} {x:DataW H × List MemPlace} (h:DataW.trod enc Tryz.prog W 0 (fun _=>true) true fuel 22 cs=some x):∃ (l:List C) (v:Value),cs=[v]∧ClRow Tt W l v:=by
 haveI:Inhabited C:=⟨(0,0)⟩
 obtain⟨l,a,cap,rfl,hl,hx⟩:=open_any Tryz.underlying22 Tryz.cellsC (by omega) (fun (c:C) cs=>cs=[.int .u32 (c.1.val:Int),.int .u32 (c.2.val:Int)]) (fun m _=>open_clause1 m) h
 refine⟨l,_,rfl,a,cap,rfl,hl,fun j c hj=>?_⟩
 obtain⟨g,off,cs',ha,hg,rfl,hc⟩:=hx j c hj
 exact⟨g,off,ha,trivial,hg,hc 0 (by omega),hc 1 (by omega)⟩
def TmOf (W:World) (t:Tm) (cs:List Value):Prop:=∃ u0 u1 u2 u3 u4 u5,cs=[u0,u1,u2,u3,u4,u5]∧TmIn Tt W t (.agg #[u0,u1,u2,u3,u4,u5])
instance:Inhabited Tm:=⟨.mk 0 0 ByteArray.empty [] [] []⟩
theorem open_kidsT {W:World} {fuel:Nat} {cs:List Value} {x:DataW H × List MemPlace} (ih:∀ m,m<fuel→∀ cs x,DataW.trod enc Tryz.prog W 0 (fun _=>true) true m 26 cs=some x→∃ t,TmOf W t cs) (h:DataW.trod enc Tryz.prog W 0 (fun _=>true) true fuel 23 cs=some x) :
  ∃ (l:List Tm) (v:Value),cs=[v]∧KdT Tt W (TmIn Tt W) l v:=by
 obtain⟨l,a,cap,rfl,hl,hx⟩:=open_any Tryz.underlying23 cells_term (by omega) (TmOf W) ih h
 refine⟨l,_,rfl,a,cap,rfl,hl,fun j c hj=>?_⟩
 obtain⟨g,off,cs',ha,hg,⟨u0,u1,u2,u3,u4,u5,rfl,ht⟩,hc⟩:=hx j c hj
 exact⟨g,off,u0,u1,u2,u3,u4,u5,ha,trivial,hg,ht,hc 0 (by omega),hc 1 (by omega),hc 2 (by omega),hc 3 (by omega),hc 4 (by omega),hc 5 (by omega)⟩
def BrOf (W:World) (b:List C × List Tm) (cs:List Value):Prop:=∃ vf vk,cs=[vf,vk]∧ClRow Tt W b.1 vf∧KdT Tt W (TmIn Tt W) b.2 vk
set_option maxRecDepth 100000 in
theorem open_branch {W:World} {fuel:Nat} (ih:∀ m,m<fuel→∀ cs x,DataW.trod enc Tryz.prog W 0 (fun _=>true) true m 26 cs=some x→∃ t,TmOf W t cs) (cs:List Value) (x:DataW H × List MemPlace) (h:DataW.trod enc Tryz.prog W 0 (fun _=>true) true fuel 40 cs=some x):∃ b,BrOf W b cs:=by
 obtain⟨xs,n,rfl,_,hl,hlen,hf⟩:=DataW.trod_struct Tryz.underlying40 h
 rw [cells_branch] at hl
 match cs,hl with
 | [u0,u1],_ =>
  match xs,hlen with
  | [y0,y1],_ =>
   have e0:DataW.trod enc Tryz.prog W 0 (fun _=>true) true n 22 (([u0,u1].drop 0).take (Tryz.prog.cellsOf 22))=some y0:=hf 0 _ rfl
   have e1:DataW.trod enc Tryz.prog W 0 (fun _=>true) true n 23 (([u0,u1].drop 1).take (Tryz.prog.cellsOf 23))=some y1:=hf 1 _ rfl
   rw [cells_cls] at e0
   rw [cells_terms] at e1
   obtain⟨r,vr,i0,hr⟩:=open_cls e0
   obtain⟨l,vl,i1,hK⟩:=open_kidsT (fun m hm=>ih m (by omega)) e1
   simp at i0 i1
   subst i0 i1
   exact⟨(r,l),_,_,rfl,hr,hK⟩
theorem open_sysT {W:World} {fuel:Nat} {cs:List Value} {x:DataW H × List MemPlace} (ih:∀ m,m<fuel→∀ cs x,DataW.trod enc Tryz.prog W 0 (fun _=>true) true m 26 cs=some x→∃ t,TmOf W t cs) (h:DataW.trod enc Tryz.prog W 0 (fun _=>true) true fuel 24 cs=some x) :
  ∃ (l:List (List C × List Tm)) (v:Value),cs=[v]∧SyT Tt W (TmIn Tt W) l v:=by
 haveI:Inhabited (List C × List Tm):=⟨([],[])⟩
 obtain⟨l,a,cap,rfl,hl,hx⟩:=open_any Tryz.underlying24 cells_branch (by omega) (BrOf W) (fun m hm=>open_branch fun m' hm'=>ih m' (by omega)) h
 refine⟨l,_,rfl,a,cap,rfl,hl,fun j c hj=>?_⟩
 obtain⟨g,off,cs',ha,hg,⟨vf,vk,rfl,hf,hk⟩,hc⟩:=hx j c hj
 exact⟨g,off,vf,vk,ha,trivial,hg,hf,hk,hc 0 (by omega),hc 1 (by omega)⟩
set_option maxRecDepth 100000 in
theorem open_tm {W:World}:∀ (fuel:Nat) (cs:List Value) (x:DataW H × List MemPlace),DataW.trod enc Tryz.prog W 0 (fun _=>true) true fuel 26 cs=some x→∃ t,TmOf W t cs:=by
 intro fuel
 induction fuel using Nat.strongRecOn with
 | _ fuel ih =>
  intro cs x h
  obtain⟨xs,n,rfl,_,hl,hlen,hf⟩:=DataW.trod_struct Tryz.underlying26 h
  rw [cells_term] at hl
  match cs,hl with
  | [u0,u1,u2,u3,u4,u5],_ =>
   match xs,hlen with
   | [y0,y1,y2,y3,y4,y5],_ =>
    have e0:DataW.trod enc Tryz.prog W 0 (fun _=>true) true n 3 (([u0,u1,u2,u3,u4,u5].drop 0).take (Tryz.prog.cellsOf 3))=some y0:=hf 0 _ rfl
    have e1:DataW.trod enc Tryz.prog W 0 (fun _=>true) true n 3 (([u0,u1,u2,u3,u4,u5].drop 1).take (Tryz.prog.cellsOf 3))=some y1:=hf 1 _ rfl
    have e2:DataW.trod enc Tryz.prog W 0 (fun _=>true) true n 9 (([u0,u1,u2,u3,u4,u5].drop 2).take (Tryz.prog.cellsOf 9))=some y2:=hf 2 _ rfl
    have e3:DataW.trod enc Tryz.prog W 0 (fun _=>true) true n 22 (([u0,u1,u2,u3,u4,u5].drop 3).take (Tryz.prog.cellsOf 22))=some y3:=hf 3 _ rfl
    have e4:DataW.trod enc Tryz.prog W 0 (fun _=>true) true n 23 (([u0,u1,u2,u3,u4,u5].drop 4).take (Tryz.prog.cellsOf 23))=some y4:=hf 4 _ rfl
    have e5:DataW.trod enc Tryz.prog W 0 (fun _=>true) true n 24 (([u0,u1,u2,u3,u4,u5].drop 5).take (Tryz.prog.cellsOf 24))=some y5:=hf 5 _ rfl
    rw [ycells_int] at e0 e1
    rw [ycells_str] at e2
    rw [cells_cls] at e3
    rw [cells_terms] at e4
    rw [cells_branches] at e5
    obtain⟨k,i0,_,w0⟩:=DataW.trod_int Tryz.underlying3 e0
    obtain⟨nn,i1,_,w1⟩:=DataW.trod_int Tryz.underlying3 e1
    obtain⟨s,i2,_,_⟩:=DataW.trod_string Tryz.underlying9 e2
    obtain⟨r,vr,i3,hr⟩:=open_cls e3
    obtain⟨l,vl,i4,hK⟩:=open_kidsT (fun m hm=>ih m (by omega)) e4
    obtain⟨sy,vs,i5,hS⟩:=open_sysT (fun m hm=>ih m (by omega)) e5
    simp at i0 i1 i2 i3 i4 i5
    subst i0 i1 i2 i3 i4 i5
    exact⟨.mk k nn s r l sy,_,_,_,_,_,_,rfl,.mk _ _ _ _ _ _ _ _ _ (wf_I64 w0) (wf_I64 w1) hr hK hS⟩
set_option maxRecDepth 100000 in
theorem open_term1 {W:World} {base:Nat} {v:Value} {d:DataW H} {p:List MemPlace} (hv:Value.okWide Tryz.prog W .any base 26 v) (h:DataW.Trod enc Tryz.prog W 0 (fun _=>true) true 26 v d p):∃ t:Tm,TmIn Tt W t v:=by
 obtain⟨cs,rfl,hsz⟩:=okWide_struct Tryz.underlying26 hv
 obtain⟨fuel,hf⟩:=h
 obtain⟨t,u0,u1,u2,u3,u4,u5,e,hs⟩:=open_tm _ _ _ hf
 have ec:cs=#[u0,u1,u2,u3,u4,u5]:=by
  simp [Value.cells] at e
  rw [← e]
 rw [ec]
 exact⟨t,hs⟩
end
end Go.Proofs.YtpmmbfngogpinaaGreat

set_option linter.unusedVariables false
set_option linter.unusedSimpArgs false
namespace Go.Proofs.YtpmmbfngogpinaaGreat
open Go.RowKit
theorem cap_undU (c:C) (t:Tm):capT (undA c t).1≤max (capT t) 65:=by
 have h0:=noT_cap
 unfold undA
 split
 ·split
  ·unfold undR pall
   have h1:=cap_pall (r:=[top0]) (dimsOf c.1.val) (t,0)
   split
   ·have h2:=cap_pall (r:=[]) (dimsOf c.2.val) ((List.foldl (pallS [top0]) (t,0) (dimsOf c.1.val)).1,0)
    dsimp only at h1 h2 ⊢
    omega
   ·dsimp only;omega
  ·dsimp only;omega
 ·dsimp only;omega
set_option maxRecDepth 100000 in
set_option maxHeartbeats 8000000 in
theorem walk_DimsUnders (t:Tm) (v0:Value) (c:C) (w:World) (hv0:TmIn Tt w t v0) :
  Calls Tryz.prog 4 #[v0,clV c] w fun e w'=>e=.returned (.bool true)∧Below w.heap.size w w':=by
 obtain⟨ra,rc,ka,kc,sa,sc,rfl,ht⟩:=hv0.form
 obtain⟨w1,hw1⟩:∃ W,W=(w.alloc (.cells #[.int .i64 t.kind,.int .i64 t.n,.string t.name,.slice ra t.r.length rc,.slice ka t.kids.length kc,.slice sa t.sys.length sc] 26)).alloc (.cells #[.int .u32 (c.1.val:Int),.int .u32 (c.2.val:Int)] 38):=⟨_,rfl⟩
 have b1:Below w.heap.size w w1:=by rw [hw1];exact bchain (belowA _ _) (belowA _ _)
 obtain⟨X,hX⟩:∃ X,X=w.heap.size:=⟨_,rfl⟩
 have s1:w1.heap.size=X+2:=by rw [hw1,hX];simp
 have n0:Six w1 X (.int .i64 t.kind) (.int .i64 t.n) (.string t.name) (.slice ra t.r.length rc) (.slice ka t.kids.length kc) (.slice sa t.sys.length sc):=⟨by rw [hw1,hX];exact (Below.heap_alloc _ _ _ (by simp)).trans (heapNew w _)⟩
 have n1:w1.heap[X+1]? = some (.cells #[.int .u32 (c.1.val:Int),.int .u32 (c.2.val:Int)] 38 (0,0)):=by
  rw [hw1,hX];have:=heapNew (w.alloc (.cells #[.int .i64 t.kind,.int .i64 t.n,.string t.name,.slice ra t.r.length rc,.slice ka t.kids.length kc,.slice sa t.sys.length sc] 26)) (.cells #[.int .u32 (c.1.val:Int),.int .u32 (c.2.val:Int)] 38);rwa [World.size_alloc] at this
 have HC:Hid (∀ W,Below w1.heap.size w1 W→Six W X (.int .i64 t.kind) (.int .i64 t.n) (.string t.name) (.slice ra t.r.length rc) (.slice ka t.kids.length kc) (.slice sa t.sys.length sc)):=fun W q=>n0.blw q
 have HCc:Hid (∀ W,Below w1.heap.size w1 W→W.cell? ⟨X+1,0,none⟩=some (.int .u32 (c.1.val:Int))∧W.cell? ⟨X+1,1,none⟩=some (.int .u32 (c.2.val:Int))):=fun W q=>by
  have h:=(q.block (X+1) (by omega)).trans n1
  exact⟨by simp [World.cell?,h],by simp [World.cell?,h]⟩
 have HT:Hid (∀ W,Below w1.heap.size w1 W→TmIn Tt W t (.agg #[.int .i64 t.kind,.int .i64 t.n,.string t.name,.slice ra t.r.length rc,.slice ka t.kids.length kc,.slice sa t.sys.length sc])):=fun W q=>((ht.blw b1).blw q).value
 have HB:Hid (∀ W,Below w1.heap.size w1 W→Below X w W):=fun W q=>by rw [hX];exact bchain b1 q
 have HXx:Hid (X=w.heap.size):=hX
 have HW:Hid (_=_):=hw1
 have hc1:=c.1.isLt
 have hc2:=c.2.isLt
 rw [← hX]
 clear hw1 hX n0 n1 ht hv0 b1 s1
 show Calls Tryz.prog 4 #[.agg #[.int .i64 t.kind,.int .i64 t.n,.string t.name,.slice ra t.r.length rc,.slice ka t.kids.length kc,.slice sa t.sys.length sc],.agg #[.int .u32 (c.1.val:Int),.int .u32 (c.2.val:Int)]] w _
 go_enter Tryz.func4,Tryz.ntmps4
 go_upto_region 1 with fail
 rw [← HW.out]
 simp only [← HXx.out]
 clear HW
 generalize (Value.agg #[Value.int .u32 (c.1.val:Int),Value.int .u32 (c.2.val:Int)])=cv
 have cg:=great13_any t _ w1 (HT.out w1 (Below.refl _ _))
 obtain⟨y0,y1,y2,y3,y4,y5,_⟩:=(HC.out w1 (Below.refl _ _)).cells
 go_wp2_with fail
 refine cg.mono ?_
 rintro e w2 ⟨rfl,b2⟩
 clear cg y0 y1 y2 y3 y4 y5
 by_cases hg:200<blk t
 ·have e1:decide (200<blk t)=true:=decide_eq_true hg
  rw [e1]
  have cw:=works13_any w2
  clear hg e1
  go_wp2_with fail
  refine cw.mono ?_
  rintro e w3 ⟨rfl,b3⟩
  clear cw
  have hF:=HB.out w3 (b2.trans (b3.mono b2.size))
  go_wp2_with fail
  go_ret
  exact⟨rfl,hF⟩
 have e1:decide (200<blk t)=false:=decide_eq_false hg
 rw [e1]
 have hcp:capT t≤40000:=by have:=(cap_ge t).2;omega
 have HG:Hid (blk t≤200∧capT t≤40000):=⟨by omega,hcp⟩
 have hAb:blk (undA c t).1≤40000:=by have h1:=cap_undU c t;have h2:=(cap_ge (undA c t).1).1;have h3:=(cap_ge t).2;omega
 have HAb:Hid (blk (undA c t).1≤40000):=hAb
 have cc:=rCopy_any t _ w2 (HT.out w2 b2) (by omega)
 obtain⟨y0,y1,y2,y3,y4,y5,_⟩:=(HC.out w2 b2).cells
 clear hg e1 hcp hAb
 go_wp2_with fail
 refine cc.mono ?_
 rintro e w3 ⟨v3,rfl,hv3,b3⟩
 clear cc y0 y1 y2 y3 y4 y5
 have b13:Below w1.heap.size w1 w3:=b2.trans (b3.mono b2.size)
 clear b2 b3
 obtain⟨ra3,rc3,ka3,kc3,sa3,sc3,rfl,ht3⟩:=hv3.form
 obtain⟨w4,hw4⟩:∃ W,W=w3.alloc (.cells #[.int .i64 t.kind,.int .i64 t.n,.string t.name,.slice ra3 t.r.length rc3,.slice ka3 t.kids.length kc3,.slice sa3 t.sys.length sc3] 26):=⟨_,rfl⟩
 obtain⟨B3,hB3⟩:∃ V,V=w3.heap.size:=⟨_,rfl⟩
 have bw4:Below w3.heap.size w3 w4:=by rw [hw4];exact belowA _ _
 have nw4:Six w4 B3 (.int .i64 t.kind) (.int .i64 t.n) (.string t.name) (.slice ra3 t.r.length rc3) (.slice ka3 t.kids.length kc3) (.slice sa3 t.sys.length sc3):=⟨by rw [hw4,hB3];exact heapNew _ _⟩
 have b1w4:Below w1.heap.size w1 w4:=b13.trans (bw4.mono b13.size)
 have HA3:Hid (∀ W,Below w4.heap.size w4 W→Six W B3 (.int .i64 t.kind) (.int .i64 t.n) (.string t.name) (.slice ra3 t.r.length rc3) (.slice ka3 t.kids.length kc3) (.slice sa3 t.sys.length sc3)∧TmIn Tt W t (.agg #[.int .i64 t.kind,.int .i64 t.n,.string t.name,.slice ra3 t.r.length rc3,.slice ka3 t.kids.length kc3,.slice sa3 t.sys.length sc3])):=fun W q=>⟨nw4.blw q,(((ht3.blw bw4).blw q).value.up fun _ _=>trivial)⟩
 have Hw4:Hid (_=_):=hw4
 have HBB3:Hid (B3=w3.heap.size):=hB3
 clear hw4 hB3 nw4 ht3 hv3
 go_upto_region 4 with fail
 simp only [← HBB3.out]
 rw [← Hw4.out]
 clear Hw4
 have cu:=under_any t _ w4 (HA3.out w4 (Below.refl _ _)).2 (by have:=HG.out.1;omega) HG.out.2 c
 have cr:Hid (∀ W,Below w1.heap.size w1 W→Calls Tryz.prog 17 #[.agg #[.int .i64 t.kind,.int .i64 t.n,.string t.name,.slice ra t.r.length rc,.slice ka t.kids.length kc,.slice sa t.sys.length sc],.agg #[.int .u32 (c.1.val:Int),.int .u32 (c.2.val:Int)]] W fun e w'=>∃ v',e=.returned (.tuple #[v',.int .i64 (undA c t).2])∧TmIn Tt w' (undA c t).1 v'∧Below W.heap.size W w'):=fun W q=>rUnder_any t _ W (HT.out W q) (by have:=HG.out.1;omega) HG.out.2 c
 obtain⟨Q,hQ⟩:∃ Q,Q=undA c t:=⟨_,rfl⟩
 rw [← hQ] at cu cr HAb
 obtain⟨A,er⟩:=Q
 dsimp only at cu cr HAb
 have cu:Calls Tryz.prog 16 #[.agg #[.int .i64 t.kind,.int .i64 t.n,.string t.name,.slice ra3 t.r.length rc3,.slice ka3 t.kids.length kc3,.slice sa3 t.sys.length sc3],.agg #[.int .u32 (c.1.val:Int),.int .u32 (c.2.val:Int)]] w4 fun e w'=>∃ v',e=.returned (.tuple #[v',.int .i64 er])∧TmIn Tt w' A v'∧Below w4.heap.size w4 w':=cu
 obtain⟨y0,y1,y2,y3,y4,y5,_⟩:=(HA3.out w4 (Below.refl _ _)).1.cells
 obtain⟨z0,z1⟩:=HCc.out w4 b1w4
 clear hQ
 go_wp2_with fail
 refine cu.mono ?_
 rintro e w5 ⟨v5,rfl,hv5,b5⟩
 clear cu y0 y1 y2 y3 y4 y5 z0 z1
 have b15:Below w1.heap.size w1 w5:=b1w4.trans (b5.mono b1w4.size)
 obtain⟨ra5,rc5,ka5,kc5,sa5,sc5,rfl,ht5⟩:=hv5.form
 obtain⟨w6,hw6⟩:∃ W,W=w5.alloc (.cells #[.int .i64 A.kind,.int .i64 A.n,.string A.name,.slice ra5 A.r.length rc5,.slice ka5 A.kids.length kc5,.slice sa5 A.sys.length sc5] 26):=⟨_,rfl⟩
 obtain⟨B5,hB5⟩:∃ V,V=w5.heap.size:=⟨_,rfl⟩
 have bw6:Below w5.heap.size w5 w6:=by rw [hw6];exact belowA _ _
 have nw6:Six w6 B5 (.int .i64 A.kind) (.int .i64 A.n) (.string A.name) (.slice ra5 A.r.length rc5) (.slice ka5 A.kids.length kc5) (.slice sa5 A.sys.length sc5):=⟨by rw [hw6,hB5];exact heapNew _ _⟩
 have b1w6:Below w1.heap.size w1 w6:=b15.trans (bw6.mono b15.size)
 have HA5:Hid (∀ W,Below w6.heap.size w6 W→Six W B5 (.int .i64 A.kind) (.int .i64 A.n) (.string A.name) (.slice ra5 A.r.length rc5) (.slice ka5 A.kids.length kc5) (.slice sa5 A.sys.length sc5)∧TmIn Tt W A (.agg #[.int .i64 A.kind,.int .i64 A.n,.string A.name,.slice ra5 A.r.length rc5,.slice ka5 A.kids.length kc5,.slice sa5 A.sys.length sc5])):=fun W q=>⟨nw6.blw q,(((ht5.blw bw6).blw q).value.up fun _ _=>trivial)⟩
 have Hw6:Hid (_=_):=hw6
 have HBB5:Hid (B5=w5.heap.size):=hB5
 clear hw6 hB5 nw6 ht5 hv5
 go_upto_region 5 with fail
 simp only [← HBB5.out]
 rw [← Hw6.out]
 clear Hw6
 have b46:=bchain b5 bw6
 have cc:=cr.out w6 b1w6
 obtain⟨y0,y1,y2,y3,y4,y5,_⟩:=(HC.out w6 b1w6).cells
 obtain⟨z0,z1⟩:=HCc.out w6 b1w6
 clear cr
 go_wp2_with fail
 refine cc.mono ?_
 rintro e w7 ⟨v7,rfl,hv7,b7⟩
 clear cc y0 y1 y2 y3 y4 y5 z0 z1
 have b17:Below w1.heap.size w1 w7:=b1w6.trans (b7.mono b1w6.size)
 obtain⟨ra7,rc7,ka7,kc7,sa7,sc7,rfl,ht7⟩:=hv7.form
 obtain⟨w8,hw8⟩:∃ W,W=w7.alloc (.cells #[.int .i64 A.kind,.int .i64 A.n,.string A.name,.slice ra7 A.r.length rc7,.slice ka7 A.kids.length kc7,.slice sa7 A.sys.length sc7] 26):=⟨_,rfl⟩
 obtain⟨B7,hB7⟩:∃ V,V=w7.heap.size:=⟨_,rfl⟩
 have bw8:Below w7.heap.size w7 w8:=by rw [hw8];exact belowA _ _
 have nw8:Six w8 B7 (.int .i64 A.kind) (.int .i64 A.n) (.string A.name) (.slice ra7 A.r.length rc7) (.slice ka7 A.kids.length kc7) (.slice sa7 A.sys.length sc7):=⟨by rw [hw8,hB7];exact heapNew _ _⟩
 have b1w8:Below w1.heap.size w1 w8:=b17.trans (bw8.mono b17.size)
 have HA7:Hid (∀ W,Below w8.heap.size w8 W→Six W B7 (.int .i64 A.kind) (.int .i64 A.n) (.string A.name) (.slice ra7 A.r.length rc7) (.slice ka7 A.kids.length kc7) (.slice sa7 A.sys.length sc7)∧TmIn Tt W A (.agg #[.int .i64 A.kind,.int .i64 A.n,.string A.name,.slice ra7 A.r.length rc7,.slice ka7 A.kids.length kc7,.slice sa7 A.sys.length sc7])):=fun W q=>⟨nw8.blw q,(((ht7.blw bw8).blw q).value.up fun _ _=>trivial)⟩
 have Hw8:Hid (_=_):=hw8
 have HBB7:Hid (B7=w7.heap.size):=hB7
 clear hw8 hB7 nw8 ht7 hv7
 go_upto_region 6 with fail
 simp only [← HBB7.out]
 rw [← Hw8.out]
 clear Hw8
 have b68:=bchain b7 bw8
 have b48:=bchain b46 b68
 have cs:=rsame_any _ A A true _ _ w8 (HA5.out w8 b68).2 (HA7.out w8 (Below.refl _ _)).2 (Nat.le_refl _) HAb.out (by simp)
 obtain⟨y0,y1,y2,y3,y4,y5,_⟩:=(HA5.out w8 b68).1.cells
 obtain⟨x0,x1,x2,x3,x4,x5,_⟩:=(HA7.out w8 (Below.refl _ _)).1.cells
 go_wp2_with fail
 refine cs.mono ?_
 rintro e w9 ⟨rfl,b9⟩
 clear cs y0 y1 y2 y3 y4 y5 x0 x1 x2 x3 x4 x5
 have b19:Below w1.heap.size w1 w9:=b1w8.trans (b9.mono b1w8.size)
 have b49:=bchain b48 b9
 have cs:=rsame_any _ t t true _ _ w9 (HA3.out w9 b49).2 (HT.out w9 b19) (Nat.le_refl _) (by have:=HG.out.1;omega) (by simp)
 obtain⟨y0,y1,y2,y3,y4,y5,_⟩:=(HA3.out w9 b49).1.cells
 obtain⟨x0,x1,x2,x3,x4,x5,_⟩:=(HC.out w9 b19).cells
 go_wp2_with fail
 refine cs.mono ?_
 rintro e w10 ⟨rfl,b10⟩
 clear cs y0 y1 y2 y3 y4 y5 x0 x1 x2 x3 x4 x5
 have b110:Below w1.heap.size w1 w10:=b19.trans (b10.mono b19.size)
 have cw:=works13_any w10
 go_wp2_with fail
 refine cw.mono ?_
 rintro e w11 ⟨rfl,b11⟩
 clear cw
 have hF:=HB.out w11 (b110.trans (b11.mono b110.size))
 go_wp2_with fail
 go_ret
 exact⟨rfl,hF⟩
section
open Go.ChangeShapes Go.WideShapes Go.ChangeAt
variable {H:Type} {enc:TypeId × Value→H}
set_option maxRecDepth 100000 in
theorem open_clause {W:World} {base:Nat} {v:Value} {d:DataW H} {p:List MemPlace} (hv:Value.okWide Tryz.prog W .any base 38 v) (h:DataW.Trod enc Tryz.prog W 0 (fun _=>true) true 38 v d p):∃ c:C,v=clV c:=by
 obtain⟨v0,v1,y0,y1,n,rfl,_,_,h0,h1⟩:=Go.Joins.open_agg2 Tryz.underlying38 (by kernel_rfl) Tryz.cellsC hv h
 obtain⟨a,e0,_,w0⟩:=DataW.trod_int Tryz.underlying36 h0
 obtain⟨b,e1,_,w1⟩:=DataW.trod_int Tryz.underlying36 h1
 obtain⟨x,rfl⟩:=bounds_wf w0
 obtain⟨y,rfl⟩:=bounds_wf w1
 simp at e0 e1
 subst e0 e1
 exact⟨(x,y),rfl⟩
end
end Go.Proofs.YtpmmbfngogpinaaGreat

