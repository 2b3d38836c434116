/- Beta: which step there is. -/
import Derived.Test.YtmblbmdchinflaaGreatBG16
import Derived.Test.YtmblbmdchinflaaGreatBG4
import Derived.Test.YtmblbmdchinflaaGreatBFD
import Derived.Test.YtmblbmdchinflaaGreatBG13
import Derived.Test.YtmblbmdchinflaaGreatBYAll
import Derived.Deep.RegionHeld
import Derived.Test.YtmblbmdchinflaaGreatBG5
import Derived.Deep.DeepCutAuto
import Derived.Deep.CutBlock
import Derived.Test.YtmblbmdchinflaaGreatBG14
import Derived.Deep.QuietTactic
import Derived.BigQuiet
import Derived.WalkSmall
import Derived.Test.YtmblbmdchinflaaGreatBG6
set_option linter.unusedVariables false
set_option linter.unusedSimpArgs false
namespace Go.Proofs.YtmblbmdchinflaaGreat
open Go.RowKit
set_option maxRecDepth 100000 in
set_option maxHeartbeats 4000000 in
theorem atEnd_any (r:List C) (v:Value) (k Y:Int) (w:World) (hr:ClRow Tt w r v) (hl:r.length≤100000) (hY:Y=if r=[] then 4 else if r=[top0] then 5 else k) :
  Calls Tryz.prog 104 #[v,.int .i64 k] w fun e w'=>e=.returned (.int .i64 Y)∧Below w.heap.size w w':=by
 obtain⟨a,c,e2,_⟩:=id hr
 subst e2
 have c0:=zero_any w
 have HR:Hid (∀ W,Below w.heap.size w W→ClRow Tt W r (.slice a r.length c)):=fun W q=>hr.blw q
 have HL:Hid (r.length≤100000):=hl
 have HY:Hid (Y=_):=hY
 clear hl hr hY
 obtain⟨L,hL⟩:∃ L,L=r.length:=⟨_,rfl⟩
 rw [← hL] at HR ⊢
 have HLr:Hid (L=r.length):=hL
 clear hL
 go_enter Tryz.func104,Tryz.ntmps104
 go_wp2_with fail
 refine c0.mono ?_
 intro e w1 hz
 rw [hz.1,hz.2]
 clear hz c0 e w1
 have c1:=eqC_any r [] _ _ w (HR.out w (Below.refl _ _)).row (cl_nil Tt w).row HL.out
 go_wp2_with fail
 refine c1.mono ?_
 rintro e w2 ⟨rfl,b2⟩
 clear c1
 have HYv:=HY.out
 by_cases h0:r=[]
 ·rw [decide_eq_true h0]
  rw [if_pos h0] at HYv
  subst HYv
  go_wp2_with fail
  go_ret
  exact⟨rfl,b2⟩
 rw [decide_eq_false h0]
 rw [if_neg h0] at HYv
 have HYw:Hid (Y=if r=[top0] then 5 else k):=HYv
 clear HYv HY
 have c2:=one_any w2
 go_wp2_with fail
 refine c2.mono ?_
 rintro e w3 ⟨v3,rfl,hO3,b3⟩
 clear c2
 obtain⟨a3,n3,e3⟩:=OwnsC.len hO3
 simp only [List.length_cons,List.length_nil,Nat.zero_add] at e3
 subst e3
 have b13:Below w.heap.size w w3:=b2.trans (b3.mono b2.size)
 have c4:=eqC_any r [top0] _ _ w3 (HR.out w3 b13).row (OwnsC.okn hO3).row HL.out
 go_wp2_with fail
 refine c4.mono ?_
 rintro e w4 ⟨rfl,b4⟩
 clear c4 hO3
 have hF:=b13.trans (b4.mono b13.size)
 have HYv:=HYw.out
 clear HYw
 by_cases h1:r=[top0]
 ·rw [decide_eq_true h1]
  rw [if_pos h1] at HYv
  subst HYv
  go_wp2_with fail
  go_ret
  exact⟨rfl,hF⟩
 rw [decide_eq_false h1]
 rw [if_neg h1] at HYv
 subst HYv
 go_wp2_with fail
 go_ret
 exact⟨rfl,hF⟩
set_option maxRecDepth 100000 in
set_option maxHeartbeats 4000000 in
theorem which_app (t x:Tm) (v:Value) (w:World) (hv:TmIn Tt w t v) (hk:t.kind=6) (hx:t.kids[0]? = some x) (Z:Int) (hZ:Z=if x.kind=5 then 1 else 0) :
  Calls Tryz.prog 55 #[v] w fun e w'=>e=.returned (.int .i64 Z)∧Below w.heap.size w w':=by
 obtain⟨ra,rc,ka,kc,sa,sc,rfl,ht⟩:=hv.form
 obtain⟨w1,hw1⟩:∃ W,W=w.alloc (.cells #[.int .i64 t.kind,.int .i64 t.n,.string t.name,.slice ra t.r.length rc,.slice ka t.kids.length kc,.slice sa t.sys.length sc] 26):=⟨_,rfl⟩
 have b1:Below w.heap.size w w1:=by rw [hw1];exact belowA _ _
 have c6:Cs6 w1 w.heap.size 0 t ra rc ka kc sa sc:=by rw [hw1];exact cs6_new w t ra rc ka kc sa sc
 obtain⟨g,off,ra1,rc1,ka1,kc1,sa1,sc1,rfl,_,q6,_⟩:=(ht.blw b1).kids.at hx
 have hlen:0<t.kids.length:=(List.getElem?_eq_some_iff.1 hx).1
 have hLI:(0:Int) < (t.kids.length:Int):=by omega
 have cW:=when_any (x.kind == 5) 1 w1
 obtain⟨_,y0,y1,y2,y3,y4,y5⟩:=c6
 obtain⟨_,z0,_,_,_,_,_⟩:=q6
 rw [hk] at y0
 simp only [Nat.zero_add,Nat.zero_mul,Nat.add_zero] at y1 y2 y3 y4 y5 z0
 have H1:Hid (_=_):=hw1
 have HB1:Hid (Below w.heap.size w w1):=b1
 have HK:Hid (t.kind=6):=hk
 have HZ:Hid (Z=_):=hZ
 clear hw1 hv ht b1 hk hlen hZ
 go_enter Tryz.func55,Tryz.ntmps55
 go_upto_region 1 with fail
 rw [← H1.out]
 clear H1
 go_wp2_with fail
 refine cW.mono ?_
 rintro e w2 ⟨rfl,b2⟩
 clear cW y0 y1 y2 y3 y4 y5 z0
 have hF:=bchain HB1.out b2
 have hE:(if (x.kind == 5)=true then (1:Int) else 0)=if x.kind=5 then 1 else 0:=by by_cases h:x.kind=5 <;> simp [h]
 rw [hE]
 have hE:=HZ.out.symm
 rw [hE]
 clear hE hLI
 go_wp2_with fail
 go_ret
 exact⟨rfl,hF⟩
set_option maxRecDepth 100000 in
set_option maxHeartbeats 4000000 in
theorem which_fst (t x:Tm) (v:Value) (w:World) (hv:TmIn Tt w t v) (hk:t.kind=9) (hx:t.kids[0]? = some x) (Z:Int) (hZ:Z=if x.kind=8 then 2 else 0) :
  Calls Tryz.prog 55 #[v] w fun e w'=>e=.returned (.int .i64 Z)∧Below w.heap.size w w':=by
 obtain⟨ra,rc,ka,kc,sa,sc,rfl,ht⟩:=hv.form
 obtain⟨w1,hw1⟩:∃ W,W=w.alloc (.cells #[.int .i64 t.kind,.int .i64 t.n,.string t.name,.slice ra t.r.length rc,.slice ka t.kids.length kc,.slice sa t.sys.length sc] 26):=⟨_,rfl⟩
 have b1:Below w.heap.size w w1:=by rw [hw1];exact belowA _ _
 have c6:Cs6 w1 w.heap.size 0 t ra rc ka kc sa sc:=by rw [hw1];exact cs6_new w t ra rc ka kc sa sc
 obtain⟨g,off,ra1,rc1,ka1,kc1,sa1,sc1,rfl,_,q6,_⟩:=(ht.blw b1).kids.at hx
 have hlen:0<t.kids.length:=(List.getElem?_eq_some_iff.1 hx).1
 have hLI:(0:Int) < (t.kids.length:Int):=by omega
 have cW:=when_any (x.kind == 8) 2 w1
 obtain⟨_,y0,y1,y2,y3,y4,y5⟩:=c6
 obtain⟨_,z0,_,_,_,_,_⟩:=q6
 rw [hk] at y0
 simp only [Nat.zero_add,Nat.zero_mul,Nat.add_zero] at y1 y2 y3 y4 y5 z0
 have H1:Hid (_=_):=hw1
 have HB1:Hid (Below w.heap.size w w1):=b1
 have HK:Hid (t.kind=9):=hk
 have HZ:Hid (Z=_):=hZ
 clear hw1 hv ht b1 hk hlen hZ
 go_enter Tryz.func55,Tryz.ntmps55
 go_upto_region 1 with fail
 rw [← H1.out]
 clear H1
 go_wp2_with fail
 refine cW.mono ?_
 rintro e w2 ⟨rfl,b2⟩
 clear cW y0 y1 y2 y3 y4 y5 z0
 have hF:=bchain HB1.out b2
 have hE:(if (x.kind == 8)=true then (2:Int) else 0)=if x.kind=8 then 2 else 0:=by by_cases h:x.kind=8 <;> simp [h]
 rw [hE]
 have hE:=HZ.out.symm
 rw [hE]
 clear hE hLI
 go_wp2_with fail
 go_ret
 exact⟨rfl,hF⟩
set_option maxRecDepth 100000 in
set_option maxHeartbeats 4000000 in
theorem which_snd (t x:Tm) (v:Value) (w:World) (hv:TmIn Tt w t v) (hk:t.kind=10) (hx:t.kids[0]? = some x) (Z:Int) (hZ:Z=if x.kind=8 then 3 else 0) :
  Calls Tryz.prog 55 #[v] w fun e w'=>e=.returned (.int .i64 Z)∧Below w.heap.size w w':=by
 obtain⟨ra,rc,ka,kc,sa,sc,rfl,ht⟩:=hv.form
 obtain⟨w1,hw1⟩:∃ W,W=w.alloc (.cells #[.int .i64 t.kind,.int .i64 t.n,.string t.name,.slice ra t.r.length rc,.slice ka t.kids.length kc,.slice sa t.sys.length sc] 26):=⟨_,rfl⟩
 have b1:Below w.heap.size w w1:=by rw [hw1];exact belowA _ _
 have c6:Cs6 w1 w.heap.size 0 t ra rc ka kc sa sc:=by rw [hw1];exact cs6_new w t ra rc ka kc sa sc
 obtain⟨g,off,ra1,rc1,ka1,kc1,sa1,sc1,rfl,_,q6,_⟩:=(ht.blw b1).kids.at hx
 have hlen:0<t.kids.length:=(List.getElem?_eq_some_iff.1 hx).1
 have hLI:(0:Int) < (t.kids.length:Int):=by omega
 have cW:=when_any (x.kind == 8) 3 w1
 obtain⟨_,y0,y1,y2,y3,y4,y5⟩:=c6
 obtain⟨_,z0,_,_,_,_,_⟩:=q6
 rw [hk] at y0
 simp only [Nat.zero_add,Nat.zero_mul,Nat.add_zero] at y1 y2 y3 y4 y5 z0
 have H1:Hid (_=_):=hw1
 have HB1:Hid (Below w.heap.size w w1):=b1
 have HK:Hid (t.kind=10):=hk
 have HZ:Hid (Z=_):=hZ
 clear hw1 hv ht b1 hk hlen hZ
 go_enter Tryz.func55,Tryz.ntmps55
 go_upto_region 1 with fail
 rw [← H1.out]
 clear H1
 go_wp2_with fail
 refine cW.mono ?_
 rintro e w2 ⟨rfl,b2⟩
 clear cW y0 y1 y2 y3 y4 y5 z0
 have hF:=bchain HB1.out b2
 have hE:(if (x.kind == 8)=true then (3:Int) else 0)=if x.kind=8 then 3 else 0:=by by_cases h:x.kind=8 <;> simp [h]
 rw [hE]
 have hE:=HZ.out.symm
 rw [hE]
 clear hE hLI
 go_wp2_with fail
 go_ret
 exact⟨rfl,hF⟩
set_option maxRecDepth 100000 in
set_option maxHeartbeats 4000000 in
theorem which_papp (t x:Tm) (v:Value) (w:World) (hv:TmIn Tt w t v) (hk:t.kind=13) (hx:t.kids[0]? = some x) (Z:Int) (hZ:Z=if x.kind=12 then 6 else 0) (hr:t.r.length≤100000) (Y:Int) (hY:Y=if t.r=[] then (4:Int) else if t.r=[top0] then 5 else Z) :
  Calls Tryz.prog 55 #[v] w fun e w'=>e=.returned (.int .i64 Y)∧Below w.heap.size w w':=by
 obtain⟨ra,rc,ka,kc,sa,sc,rfl,ht⟩:=hv.form
 obtain⟨w1,hw1⟩:∃ W,W=w.alloc (.cells #[.int .i64 t.kind,.int .i64 t.n,.string t.name,.slice ra t.r.length rc,.slice ka t.kids.length kc,.slice sa t.sys.length sc] 26):=⟨_,rfl⟩
 have b1:Below w.heap.size w w1:=by rw [hw1];exact belowA _ _
 have c6:Cs6 w1 w.heap.size 0 t ra rc ka kc sa sc:=by rw [hw1];exact cs6_new w t ra rc ka kc sa sc
 obtain⟨g,off,ra1,rc1,ka1,kc1,sa1,sc1,rfl,_,q6,_⟩:=(ht.blw b1).kids.at hx
 have hlen:0<t.kids.length:=(List.getElem?_eq_some_iff.1 hx).1
 have hLI:(0:Int) < (t.kids.length:Int):=by omega
 have hlX:=c6.lt
 have cW:=when_any (x.kind == 12) 6 w1
 obtain⟨_,y0,y1,y2,y3,y4,y5⟩:=c6
 obtain⟨_,z0,_,_,_,_,_⟩:=q6
 rw [hk] at y0
 simp only [Nat.zero_add,Nat.zero_mul,Nat.add_zero] at y1 y2 y3 y4 y5 z0
 have H1:Hid (_=_):=hw1
 have HB1:Hid (Below w.heap.size w w1):=b1
 have HK:Hid (t.kind=13):=hk
 have HZ:Hid (Z=_):=hZ
 have HR:Hid (∀ W,Below w1.heap.size w1 W→W.cell? ⟨w.heap.size,3,none⟩=some (.slice ra t.r.length rc)∧ClRow Tt W t.r (.slice ra t.r.length rc)):=fun W q=>⟨(World.cell?_of_block (q.block _ hlX)).trans y3,(ht.row.blw b1).blw q⟩
 have HRl:Hid (t.r.length≤100000):=hr
 have HY:Hid (Y=_):=hY
 clear hw1 hv ht b1 hk hlen hr hZ hY
 go_enter Tryz.func55,Tryz.ntmps55
 go_upto_region 1 with fail
 rw [← H1.out]
 clear H1
 go_wp2_with fail
 refine cW.mono ?_
 rintro e w2 ⟨rfl,b2⟩
 clear cW y0 y1 y2 y3 y4 y5 z0
 have hF:=bchain HB1.out b2
 have hE:(if (x.kind == 12)=true then (6:Int) else 0)=if x.kind=12 then 6 else 0:=by by_cases h:x.kind=12 <;> simp [h]
 rw [hE]
 have hE:=HZ.out.symm
 rw [hE]
 clear hE hLI
 have y3:=(HR.out w2 b2).1
 have cE:=atEnd_any t.r _ Z Y w2 (HR.out w2 b2).2 HRl.out HY.out
 go_wp2_with fail
 refine cE.mono ?_
 rintro e w3 ⟨rfl,b3⟩
 clear cE y3
 have hF:=bchain hF b3
 go_wp2_with fail
 go_ret
 exact⟨rfl,hF⟩
set_option maxRecDepth 100000 in
set_option maxHeartbeats 4000000 in
theorem which_univ (t:Tm) (v:Value) (w:World) (hv:TmIn Tt w t v) (hk:t.kind=3) :
  Calls Tryz.prog 55 #[v] w fun e w'=>e=.returned (.int .i64 0)∧Below w.heap.size w w':=by
 obtain⟨ra,rc,ka,kc,sa,sc,rfl,ht⟩:=hv.form
 obtain⟨w1,hw1⟩:∃ W,W=w.alloc (.cells #[.int .i64 t.kind,.int .i64 t.n,.string t.name,.slice ra t.r.length rc,.slice ka t.kids.length kc,.slice sa t.sys.length sc] 26):=⟨_,rfl⟩
 have b1:Below w.heap.size w w1:=by rw [hw1];exact belowA _ _
 have c6:Cs6 w1 w.heap.size 0 t ra rc ka kc sa sc:=by rw [hw1];exact cs6_new w t ra rc ka kc sa sc
 obtain⟨_,y0,_,_,_,_,_⟩:=c6
 rw [hk] at y0
 have H1:Hid (_=_):=hw1
 have HK:Hid (t.kind=3):=hk
 clear hw1 hv ht hk
 go_enter Tryz.func55,Tryz.ntmps55
 go_upto_region 1 with fail
 rw [← H1.out]
 clear H1
 go_wp2_with fail
 go_ret
 exact⟨rfl,b1⟩
end Go.Proofs.YtmblbmdchinflaaGreat
set_option linter.unusedVariables false
set_option linter.unusedSimpArgs false
namespace Go.Proofs.YtmblbmdchinflaaGreat
open Go.RowKit
structure DOp where
 fn:List C→Nat→List C × Int
 fc:List C→Nat→List C × Int
def ownP (o:DOp) (k:Int) (r:List C) (bd:Nat):List C × Int:=if k=14 then o.fc r bd else o.fn r bd
def stayB (o:DOp) (bd:Nat) (f:List C):Bool:=!(o.fc f bd).1.isEmpty
def dT (o:DOp):Tm→Nat→Tm:=Tm.fold fun k n nm r ks sys bd =>
 .mk k n nm (ownP o k r bd).1 (ks.zipIdx.map fun p=>p.1 (bd+bdK k p.2)) ((sys.filter fun b=>stayB o bd b.1).map fun b=>((o.fc b.1 bd).1,b.2.map fun f=>f (bd+moreK k)))
def dK (o:DOp) (k:Int) (l:List Tm) (bd:Nat):List Tm:=l.zipIdx.map fun p=>dT o p.1 (bd+bdK k p.2)
def dB (o:DOp) (k:Int) (b:List C × List Tm) (bd:Nat):List C × List Tm:=((o.fc b.1 bd).1,b.2.map fun x=>dT o x (bd+moreK k))
def dS (o:DOp) (k:Int) (l:List (List C × List Tm)) (bd:Nat):List (List C × List Tm):=(l.filter fun b=>stayB o bd b.1).map fun b=>dB o k b bd
theorem filter_fold (p:List C→Bool) {α:Type} (g:Tm→α) (l:List (List C × List Tm)):(l.map fun b=>(b.1,b.2.map g)).filter (fun b=>p b.1)=(l.filter fun b=>p b.1).map fun b=>(b.1,b.2.map g):=by
 rw [List.filter_map];rfl
theorem d_eq (o:DOp) (t:Tm) (bd:Nat):dT o t bd=.mk t.kind t.n t.name (ownP o t.kind t.r bd).1 (dK o t.kind t.kids bd) (dS o t.kind t.sys bd):=by
 unfold dT
 rw [fold_mk]
 simp only [List.zipIdx_map,List.map_map,Function.comp_def,Prod.map,filter_fold]
 rfl
def eT (o:DOp):Tm→Nat→Int:=Tm.fold fun k n nm r ks sys bd =>
 firstE ((ownP o k r bd).2 :: ((ks.zipIdx.map fun p=>p.1 (bd+bdK k p.2)) ++ sys.map fun b=>firstE ((o.fc b.1 bd).2 :: (if stayB o bd b.1 then b.2.map fun f=>f (bd+moreK k) else []))))
def eK (o:DOp) (k:Int) (l:List Tm) (bd:Nat):List Int:=l.zipIdx.map fun p=>eT o p.1 (bd+bdK k p.2)
def eBk (o:DOp) (k:Int) (b:List C × List Tm) (bd:Nat):List Int:=b.2.map fun x=>eT o x (bd+moreK k)
def eB (o:DOp) (k:Int) (b:List C × List Tm) (bd:Nat):Int:=firstE ((o.fc b.1 bd).2 :: (if stayB o bd b.1 then eBk o k b bd else []))
def eS (o:DOp) (k:Int) (l:List (List C × List Tm)) (bd:Nat):List Int:=l.map fun b=>eB o k b bd
theorem e_eq (o:DOp) (t:Tm) (bd:Nat):eT o t bd=firstE ((ownP o t.kind t.r bd).2 :: (eK o t.kind t.kids bd++eS o t.kind t.sys bd)):=by
 unfold eT
 rw [fold_mk]
 simp only [List.zipIdx_map,List.map_map,Function.comp_def,Prod.map]
 rfl
theorem dK_len (o:DOp) (k:Int) (l:List Tm) (bd:Nat):(dK o k l bd).length=l.length:=by simp [dK]
theorem eK_len (o:DOp) (k:Int) (l:List Tm) (bd:Nat):(eK o k l bd).length=l.length:=by simp [eK]
theorem eS_len (o:DOp) (k:Int) (l:List (List C × List Tm)) (bd:Nat):(eS o k l bd).length=l.length:=by simp [eS]
theorem dK_get {o:DOp} {k:Int} {l:List Tm} {bd i:Nat} {x:Tm} (h:l[i]? = some x):(dK o k l bd)[i]? = some (dT o x (bd+bdK k i)):=by
 unfold dK;rw [List.getElem?_map,List.getElem?_zipIdx,h];simp
theorem eK_get {o:DOp} {k:Int} {l:List Tm} {bd i:Nat} {x:Tm} (h:l[i]? = some x):(eK o k l bd)[i]? = some (eT o x (bd+bdK k i)):=by
 unfold eK;rw [List.getElem?_map,List.getElem?_zipIdx,h];simp
theorem eS_get {o:DOp} {k:Int} {l:List (List C × List Tm)} {bd i:Nat} {x:List C × List Tm} (h:l[i]? = some x):(eS o k l bd)[i]? = some (eB o k x bd):=by
 unfold eS;rw [List.getElem?_map,h];rfl
def cN (o:DOp) (l:List (List C × List Tm)) (bd j:Nat):Nat:=((l.take j).filter fun b=>stayB o bd b.1).length
theorem cN_le (o:DOp) (l:List (List C × List Tm)) (bd j:Nat):cN o l bd j≤j:=Nat.le_trans (List.length_filter_le _ _) (by rw [List.length_take];omega)
theorem cN_end (o:DOp) (k:Int) (l:List (List C × List Tm)) (bd:Nat):cN o l bd l.length=(dS o k l bd).length:=by
 unfold cN dS;rw [List.take_of_length_le (Nat.le_refl _),List.length_map]
theorem cN_goes {o:DOp} {l:List (List C × List Tm)} {bd j:Nat} {b:List C × List Tm} (h:l[j]? = some b) (hs:stayB o bd b.1=false):cN o l bd (j+1)=cN o l bd j:=by
 unfold cN;rw [List.take_add_one,h];simp [List.filter_append,hs]
theorem cN_stays {o:DOp} {l:List (List C × List Tm)} {bd j:Nat} {b:List C × List Tm} (h:l[j]? = some b) (hs:stayB o bd b.1=true):cN o l bd (j+1)=cN o l bd j+1:=by
 unfold cN;rw [List.take_add_one,h];simp [List.filter_append,hs]
theorem dS_at {o:DOp} {k:Int} {l:List (List C × List Tm)} {bd j:Nat} {b:List C × List Tm} (h:l[j]? = some b) (hs:stayB o bd b.1=true):(dS o k l bd)[cN o l bd j]? = some (dB o k b bd):=by
 have hl:l=l.take j++b :: l.drop (j+1):=by
  have hj:=(List.getElem?_eq_some_iff.1 h).1
  rw [List.getElem?_eq_getElem hj] at h
  injection h with h
  rw [← h,List.getElem_cons_drop]
  exact (List.take_append_drop j l).symm
 unfold dS cN
 conv=>lhs;arg 1;rw [hl]
 rw [List.filter_append,List.map_append,List.getElem?_append_right (by simp)]
 simp [hs]
end Go.Proofs.YtmblbmdchinflaaGreat
set_option linter.unusedVariables false
set_option linter.unusedSimpArgs false
namespace Go.Proofs.YtmblbmdchinflaaGreat
open Go.RowKit
attribute [local go_sem] Oper.semAt_some
def UsI (n:Int) (t:Tm) (bv:Nat) (w4:World) (s s3:Nat) (k:Nat) (W:World):Prop :=
 (∀ j p,j<k→t.pts[j]? = some p→usT n p.1 (bv+p.2.1)=false)∧Kn (fun q=>q<w4.heap.size∧q≠s3∧q≠s+2) w4 W∧W.heap[s+2]? = some (.cells #[.bool false] 4 (0,0))
def UsX (n:Int) (t:Tm) (bv:Nat) (w4:World) (s s3:Nat) (W:World):Prop :=
 Kn (fun q=>q<w4.heap.size∧q≠s3∧q≠s+2) w4 W∧W.heap[s+2]? = some (.cells #[.bool true] 4 (0,0))∧usT n t bv=true
theorem UsI.keep {n:Int} {t:Tm} {bv:Nat} {w4:World} {s s3:Nat} (hs:s+2<w4.heap.size∧s+2≠s3):∀ k W1 W2,UsI n t bv w4 s s3 k W1→Kn (fun g=>g<w4.heap.size∧g≠s3) W1 W2→UsI n t bv w4 s s3 k W2 :=
 fun k W1 W2 ⟨a,b,c⟩ h=>⟨a,b.trans (h.sub fun q hq=>⟨hq.1,hq.2.1⟩),(h.block (s+2) hs (Array.getElem?_eq_some_iff.1 c).1).trans c⟩
theorem UsX.keep {n:Int} {t:Tm} {bv:Nat} {w4:World} {s s3:Nat} (hs:s+2<w4.heap.size∧s+2≠s3):∀ W1 W2,UsX n t bv w4 s s3 W1→Kn (fun g=>g<w4.heap.size∧g≠s3) W1 W2→UsX n t bv w4 s s3 W2 :=
 fun W1 W2 ⟨b,c,a⟩ h=>⟨b.trans (h.sub fun q hq=>⟨hq.1,hq.2.1⟩),(h.block (s+2) hs (Array.getElem?_eq_some_iff.1 c).1).trans c,a⟩
end Go.Proofs.YtmblbmdchinflaaGreat
set_option linter.unusedVariables false
set_option linter.unusedSimpArgs false
namespace Go.Proofs.YtmblbmdchinflaaGreat
open Go.RowKit
attribute [local go_sem] Oper.semAt_some
def dmTo (t:Tm) (bd k:Nat):Nat:=(t.own >>> bd) ||| orL ((t.pts.take k).map fun p=>dmT p.1 (bd+p.2.2))
def DmI (t:Tm) (bd:Nat) (w4:World) (s3 s5:Nat) (k:Nat) (W:World):Prop :=
 Kn (fun q=>q<w4.heap.size∧q≠s3∧q≠s5) w4 W∧W.heap[s5]? = some (.cells #[.int .u32 ((dmTo t bd k:Nat):Int)] 46 (0,0))
theorem DmI.keep {t:Tm} {bd:Nat} {w4:World} {s3 s5:Nat} (hs:s5<w4.heap.size∧s5≠s3):∀ k W1 W2,DmI t bd w4 s3 s5 k W1→Kn (fun g=>g<w4.heap.size∧g≠s3) W1 W2→DmI t bd w4 s3 s5 k W2 :=
 fun k W1 W2 ⟨b,c⟩ h=>⟨b.trans (h.sub fun q hq=>⟨hq.1,hq.2.1⟩),(h.block s5 hs (Array.getElem?_eq_some_iff.1 c).1).trans c⟩
end Go.Proofs.YtmblbmdchinflaaGreat
set_option linter.unusedVariables false
set_option linter.unusedSimpArgs false
namespace Go.Proofs.YtmblbmdchinflaaGreat
open Go.RowKit
attribute [local go_sem] Oper.semAt_some
theorem half_start {n o:Nat} {l:List C} {w4 w5:World} {v:Value} (hO:OwnsC w4 n v l) (ho:v.ownBlock≠some o) (hge:n≤o) (hk:Kn (fun q=>q≠o) w4 w5):Half n o l [] w5 v (.slice none 0 0) :=
 ⟨(hO.but ho).keep hk.size (fun q hq=>⟨hq.1.same (hk.block q hq.2 hq.1.lt),(fun e=>by cases e),hq.2⟩) (fun q hq hs=>hk.block q hq.2 hs),KOwn.nil _ _ _,hge⟩
theorem kn_set6 (w:World) (s:Nat) (u0 u1 u2 u3 u4 u5:Value):Kn (fun q=>q≠s) w ((((((w.setCell ⟨s,0,none⟩ u0).setCell ⟨s,1,none⟩ u1).setCell ⟨s,2,none⟩ u2).setCell ⟨s,3,none⟩ u3).setCell ⟨s,4,none⟩ u4).setCell ⟨s,5,none⟩ u5) :=
 (((((kn_set _ _ _ _).trans (kn_set _ _ _ _)).trans (kn_set _ _ _ _)).trans (kn_set _ _ _ _)).trans (kn_set _ _ _ _)).trans (kn_set _ _ _ _)
end Go.Proofs.YtmblbmdchinflaaGreat
set_option linter.unusedVariables false
set_option linter.unusedSimpArgs false
namespace Go.Proofs.YtmblbmdchinflaaGreat
open Go.RowKit
def RowC (F:List C→Nat→List C × Int) (fV:Value) (w:World):Prop:=∃ fid caps,fV=.func (.func fid) #[] caps∧(∀ args w,(callFunc fid args).run Tryz.prog w=.ok (.enter fid args) w)∧∀ (l:List C) (bd:Nat) (v:Value) (W:World),Below w.heap.size w W→ClRow Tt W l v→l.length≤40000→bd≤60000→Calls Tryz.prog fid (#[v,.int .i64 (bd:Int)] ++ caps) W fun e w'=>LOut (F l bd).2 (fun v'=>OwnsC w' W.heap.size v' (F l bd).1) e∧Below W.heap.size W w'
theorem RowC.blw {F:List C→Nat→List C × Int} {fV:Value} {w w':World} (h:RowC F fV w) (hb:Below w.heap.size w w'):RowC F fV w':=by
 obtain⟨fid,caps,h1,h2,h3⟩:=h
 exact⟨fid,caps,h1,h2,fun l bd v W hW=>h3 l bd v W (bchain hb hW)⟩
structure DEnv (w:World) (fV cV:Value) (xw xo:Nat):Prop where
 sc:w.heap[xw]? = some (.cells #[fV,cV] 72 (0,0))
 lf:w.heap[xo]? = some (.cells #[.func (.func 90) #[] #[.pointer (some ⟨xw,0,none⟩),.pointer (some ⟨xo,0,none⟩)]] 105 (0,0))
theorem DEnv.blw {w w':World} {fV cV:Value} {xw xo:Nat} (h:DEnv w fV cV xw xo) (hb:Below w.heap.size w w'):DEnv w' fV cV xw xo :=
 ⟨(hb.block xw (Array.getElem?_eq_some_iff.1 h.sc).1).trans h.sc,(hb.block xo (Array.getElem?_eq_some_iff.1 h.lf).1).trans h.lf⟩
theorem DEnv.fn {w:World} {fV cV:Value} {xw xo:Nat} (h:DEnv w fV cV xw xo):w.cell? ⟨xo,0,none⟩=some (.func (.func 90) #[] #[.pointer (some ⟨xw,0,none⟩),.pointer (some ⟨xo,0,none⟩)]):=by simp [World.cell?,h.lf]
theorem DEnv.cs {w:World} {fV cV:Value} {xw xo:Nat} (h:DEnv w fV cV xw xo):w.cell? ⟨xw,0,none⟩=some fV∧w.cell? ⟨xw,1,none⟩=some cV:=by
 refine⟨?_,?_⟩ <;> simp [World.cell?,h.sc]
theorem told_any (v:Value) (e:Int) (w:World) (R:Value→Prop) (hR:e=0→R v):Calls Tryz.prog 86 #[v,.int .i64 e] w fun x w'=>LOut e R x∧w'=w:=by
 by_cases h:e=0
 ·subst h
  have hR0:=hR rfl
  clear hR
  go_enter Tryz.func86,Tryz.ntmps86
  go_wp2
  go_ret
  exact⟨.ok rfl hR0,rfl⟩
 ·have h1:(e == 0)=false:=by simpa using h
  clear hR
  go_enter Tryz.func86,Tryz.ntmps86
  go_wp2_with fail
  exact⟨rfl,.inr ⟨h,rfl⟩,rfl⟩
set_option maxRecDepth 100000 in
set_option maxHeartbeats 4000000 in
theorem down_any {o:DOp} {fV cV:Value} (t:Tm) (bd g off:Nat) (ra:Option Addr) (rc:Nat) (w:World) (hF:RowC o.fn fV w) (hC:RowC o.fc cV w) (hl:g<w.heap.size) (h0:w.cell? ⟨g,off,none⟩=some (.int .i64 t.kind)) (h3:w.cell? ⟨g,off+3,none⟩=some (.slice ra t.r.length rc)) (hr:ClRow Tt w t.r (.slice ra t.r.length rc)) (hrl:t.r.length≤40000) (hbd:bd≤60000) :
  Calls Tryz.prog 91 #[.agg #[fV,cV],.pointer (some ⟨g,off,none⟩),.int .i64 (bd:Int)] w fun e w'=>LOut (ownP o t.kind t.r bd).2 (fun v'=>OwnsC w' w.heap.size v' (ownP o t.kind t.r bd).1) e∧Below w.heap.size w w':=by
 obtain⟨f1,c1,rfl,eg1,HF⟩:=hF
 obtain⟨f2,c2,rfl,eg2,HC⟩:=hC
 obtain⟨w1,hw1⟩:∃ W,W=w.alloc (.cells #[.func (.func f1) #[] c1,.func (.func f2) #[] c2] 72):=⟨_,rfl⟩
 have b1:Below w.heap.size w w1:=by rw [hw1];exact belowA _ _
 obtain⟨X,hX⟩:∃ X,X=w.heap.size:=⟨_,rfl⟩
 have m1:w1.heap[X]? = some (.cells #[.func (.func f1) #[] c1,.func (.func f2) #[] c2] 72 (0,0)):=by rw [hw1,hX];exact heapNew _ _
 have sX:w1.heap.size=X+1:=by rw [hw1,hX];simp
 have bX:Below X w w1:=by rw [hX];exact b1
 have K0:Hid (∀ W,Below w1.heap.size w1 W→W.cell? ⟨X,0,none⟩=some (.func (.func f1) #[] c1)):=fun W q=>(q.cell (p:=⟨X,0,none⟩) (by show X<_;omega)).trans (by simp [World.cell?,m1])
 have K1:Hid (∀ W,Below w1.heap.size w1 W→W.cell? ⟨X,1,none⟩=some (.func (.func f2) #[] c2)):=fun W q=>(q.cell (p:=⟨X,1,none⟩) (by show X<_;omega)).trans (by simp [World.cell?,m1])
 have G3:Hid (∀ W,Below w1.heap.size w1 W→W.cell? ⟨g,off+3,none⟩=some (.slice ra t.r.length rc)):=fun W q=>(q.cell (p:=⟨g,off+3,none⟩) (by show g<_;have:=b1.size;omega)).trans ((b1.cell (p:=⟨g,off+3,none⟩) hl).trans h3)
 have g0:=(b1.cell (p:=⟨g,off,none⟩) hl).trans h0
 have HCl:Hid (∀ W,Below w1.heap.size w1 W→ClRow Tt W t.r (.slice ra t.r.length rc)):=fun W q=>(hr.blw b1).blw q
 have CF:Hid (∀ W,Below w1.heap.size w1 W→Calls Tryz.prog f1 (#[.slice ra t.r.length rc,.int .i64 (bd:Int)] ++ c1) W fun e w'=>LOut (o.fn t.r bd).2 (fun v'=>OwnsC w' W.heap.size v' (o.fn t.r bd).1) e∧Below W.heap.size W w'):=fun W q=>HF t.r bd _ W (bchain b1 q) (HCl.out W q) hrl hbd
 have CC:Hid (∀ W,Below w1.heap.size w1 W→Calls Tryz.prog f2 (#[.slice ra t.r.length rc,.int .i64 (bd:Int)] ++ c2) W fun e w'=>LOut (o.fc t.r bd).2 (fun v'=>OwnsC w' W.heap.size v' (o.fc t.r bd).1) e∧Below W.heap.size W w'):=fun W q=>HC t.r bd _ W (bchain b1 q) (HCl.out W q) hrl hbd
 obtain⟨kd,hkd⟩:∃ k,k=t.kind:=⟨_,rfl⟩
 rw [← hkd] at g0 ⊢
 obtain⟨R,hR⟩:∃ R,R=t.r.length:=⟨_,rfl⟩
 rw [← hR] at G3 CF CC
 have HW:Hid (_=_):=hw1
 have HX:Hid (X=w.heap.size):=hX
 have HO:Hid (∀ W w' v l,Below w1.heap.size w1 W→OwnsC w' W.heap.size v l→OwnsC w' X v l):=fun W w' v l q h=>OwnsC.mono h (by have:=q.size;omega)
 obtain⟨PR,hPR⟩:∃ P,P=ownP o kd t.r bd:=⟨_,rfl⟩
 have HQ:Hid (PR=if kd=14 then o.fc t.r bd else o.fn t.r bd):=hPR
 rw [← hX,← hPR]
 clear hPR
 clear HF HC hw1 m1 h0 h3 hr hkd hR hX b1
 go_enter Tryz.func91,Tryz.ntmps91
 go_upto_region 1 with fail
 rw [← HW.out]
 simp only [← HX.out]
 clear HW
 have hS1:Below w1.heap.size w1 w1:=Below.refl _ _
 by_cases hk:kd=14
 ·skip
  subst hk
  have hq:PR=o.fc t.r bd:=by rw [HQ.out];exact if_pos rfl
  rw [← hq] at CC
  clear hq
  go_upto_region 2 with fail
  refine wp_region_held_drew (S:=fun W=>Below w1.heap.size w1 W) (by kernel_rfl) (hS1.drew) (fun hS=>?_)
  obtain⟨wd,hwd⟩:∃ W,W=w1.drew:=⟨_,rfl⟩
  rw [← hwd] at hS ⊢
  clear hwd
  refine wpAnyH_take (i:=0) (v:=.pointer (some ⟨X,1,none⟩)) rfl (by kernel_rfl) (by kernel_rfl) (by kernel_rfl) (fun _ _ _ h=>h) (Or.inl ⟨by rfl,fun w hS=>by go_simp⟩) hS ?_
  try simp only [Act.put,List.getElem_toArray,List.getElem_cons_zero,List.getElem_cons_succ,List.setIfInBounds_toArray,List.set_cons_zero,List.set_cons_succ]
  refine wpAnyH_take (i:=1) (v:=.func (.func f2) #[] c2) rfl (by kernel_rfl) (by kernel_rfl) (by kernel_rfl) (fun _ _ _ h=>h) (Or.inl ⟨by rfl,fun w hS=>by have e:=K1.out w hS;go_simp⟩) hS ?_
  try simp only [Act.put,List.getElem_toArray,List.getElem_cons_zero,List.getElem_cons_succ,List.setIfInBounds_toArray,List.set_cons_zero,List.set_cons_succ]
  refine wpAnyH_take (i:=2) (v:=.pointer (some ⟨g,off,none⟩)) rfl (by kernel_rfl) (by kernel_rfl) (by kernel_rfl) (fun _ _ _ h=>h) (Or.inl ⟨by rfl,fun w hS=>by go_simp⟩) hS ?_
  try simp only [Act.put,List.getElem_toArray,List.getElem_cons_zero,List.getElem_cons_succ,List.setIfInBounds_toArray,List.set_cons_zero,List.set_cons_succ]
  refine wpAnyH_take (i:=3) (v:=.pointer (some ⟨g,off,none⟩)) rfl (by kernel_rfl) (by kernel_rfl) (by kernel_rfl) (fun _ _ _ h=>h) (Or.inl ⟨by rfl,fun w hS=>by go_simp⟩) hS ?_
  try simp only [Act.put,List.getElem_toArray,List.getElem_cons_zero,List.getElem_cons_succ,List.setIfInBounds_toArray,List.set_cons_zero,List.set_cons_succ]
  refine wpAnyH_take (i:=4) (v:=.pointer (some ⟨g,off+3,none⟩)) rfl (by kernel_rfl) (by kernel_rfl) (by kernel_rfl) (fun _ _ _ h=>h) (Or.inl ⟨by rfl,fun w hS=>by go_simp⟩) hS ?_
  try simp only [Act.put,List.getElem_toArray,List.getElem_cons_zero,List.getElem_cons_succ,List.setIfInBounds_toArray,List.set_cons_zero,List.set_cons_succ]
  refine wpAnyH_take (i:=5) (v:=.slice ra R rc) rfl (by kernel_rfl) (by kernel_rfl) (by kernel_rfl) (fun _ _ _ h=>h) (Or.inl ⟨by rfl,fun w hS=>by have e:=G3.out w hS;go_simp⟩) hS ?_
  try simp only [Act.put,List.getElem_toArray,List.getElem_cons_zero,List.getElem_cons_succ,List.setIfInBounds_toArray,List.set_cons_zero,List.set_cons_succ]
  refine wpAnyH_take (i:=6) (v:=.int .i64 (bd:Int)) rfl (by kernel_rfl) (by kernel_rfl) (by kernel_rfl) (fun _ _ _ h=>h) (Or.inl ⟨by rfl,fun w hS=>by go_simp⟩) hS ?_
  try simp only [Act.put,List.getElem_toArray,List.getElem_cons_zero,List.getElem_cons_succ,List.setIfInBounds_toArray,List.set_cons_zero,List.set_cons_succ]
  refine wpAnyH_ready (rs:=[7]) (by kernel_rfl) (by simp) ?_
  refine ready_cons rfl (fun KK hKK=>?_) AllReadyH.nil
  refine⟨?_⟩
  have cc:=CC.out wd hS
  go_simp
  refine cc.mono ?_
  rintro e w2 ⟨⟨h0,v2,rfl,hv2⟩ | ⟨hne,rfl⟩,hb2⟩
  rotate_left
  ·exact⟨rfl,.inr ⟨hne,rfl⟩,bX.trans ((hS.trans (hb2.mono hS.size)).mono (by omega))⟩
  have H0:Hid (PR.2=0):=h0
  clear h0
  have hS2:Below w1.heap.size w1 w2:=hS.trans (hb2.mono hS.size)
  have hO2:=HO.out wd w2 _ _ hS hv2
  have hB2:Below X w w2:=bX.trans (hS2.mono (by omega))
  obtain⟨a2,c2',rfl⟩:=OwnsC.len hO2
  clear cc
  refine hKK.out _ _ hS2 (fun hS=>?_)
  clear hKK KK
  try simp only [Act.put,List.getElem_toArray,List.getElem_cons_zero,List.getElem_cons_succ,List.setIfInBounds_toArray,List.set_cons_zero,List.set_cons_succ]
  refine wpAnyH_take (i:=8) (v:=.slice a2 PR.1.length c2') rfl (by kernel_rfl) (by kernel_rfl) (by kernel_rfl) (fun _ _ _ h=>h) (Or.inl ⟨by rfl,fun w hS=>by go_simp⟩) hS ?_
  try simp only [Act.put,List.getElem_toArray,List.getElem_cons_zero,List.getElem_cons_succ,List.setIfInBounds_toArray,List.set_cons_zero,List.set_cons_succ]
  refine wpAnyH_done (by kernel_rfl) ?_ _
  go_wp2_with fail
  go_ret
  exact⟨.ok H0.out hO2,hB2⟩
 ·skip
  have hk1:(kd == 14)=false:=by simpa using hk
  have hq:PR=o.fn t.r bd:=by rw [HQ.out];exact if_neg hk
  rw [← hq] at CF
  clear hq
  go_upto_region 3 with fail
  refine wp_region_held_drew (S:=fun W=>Below w1.heap.size w1 W) (by kernel_rfl) (hS1.drew) (fun hS=>?_)
  obtain⟨wd,hwd⟩:∃ W,W=w1.drew:=⟨_,rfl⟩
  rw [← hwd] at hS ⊢
  clear hwd
  refine wpAnyH_take (i:=0) (v:=.pointer (some ⟨X,0,none⟩)) rfl (by kernel_rfl) (by kernel_rfl) (by kernel_rfl) (fun _ _ _ h=>h) (Or.inl ⟨by rfl,fun w hS=>by go_simp⟩) hS ?_
  try simp only [Act.put,List.getElem_toArray,List.getElem_cons_zero,List.getElem_cons_succ,List.setIfInBounds_toArray,List.set_cons_zero,List.set_cons_succ]
  refine wpAnyH_take (i:=1) (v:=.func (.func f1) #[] c1) rfl (by kernel_rfl) (by kernel_rfl) (by kernel_rfl) (fun _ _ _ h=>h) (Or.inl ⟨by rfl,fun w hS=>by have e:=K0.out w hS;go_simp⟩) hS ?_
  try simp only [Act.put,List.getElem_toArray,List.getElem_cons_zero,List.getElem_cons_succ,List.setIfInBounds_toArray,List.set_cons_zero,List.set_cons_succ]
  refine wpAnyH_take (i:=2) (v:=.pointer (some ⟨g,off,none⟩)) rfl (by kernel_rfl) (by kernel_rfl) (by kernel_rfl) (fun _ _ _ h=>h) (Or.inl ⟨by rfl,fun w hS=>by go_simp⟩) hS ?_
  try simp only [Act.put,List.getElem_toArray,List.getElem_cons_zero,List.getElem_cons_succ,List.setIfInBounds_toArray,List.set_cons_zero,List.set_cons_succ]
  refine wpAnyH_take (i:=3) (v:=.pointer (some ⟨g,off,none⟩)) rfl (by kernel_rfl) (by kernel_rfl) (by kernel_rfl) (fun _ _ _ h=>h) (Or.inl ⟨by rfl,fun w hS=>by go_simp⟩) hS ?_
  try simp only [Act.put,List.getElem_toArray,List.getElem_cons_zero,List.getElem_cons_succ,List.setIfInBounds_toArray,List.set_cons_zero,List.set_cons_succ]
  refine wpAnyH_take (i:=4) (v:=.pointer (some ⟨g,off+3,none⟩)) rfl (by kernel_rfl) (by kernel_rfl) (by kernel_rfl) (fun _ _ _ h=>h) (Or.inl ⟨by rfl,fun w hS=>by go_simp⟩) hS ?_
  try simp only [Act.put,List.getElem_toArray,List.getElem_cons_zero,List.getElem_cons_succ,List.setIfInBounds_toArray,List.set_cons_zero,List.set_cons_succ]
  refine wpAnyH_take (i:=5) (v:=.slice ra R rc) rfl (by kernel_rfl) (by kernel_rfl) (by kernel_rfl) (fun _ _ _ h=>h) (Or.inl ⟨by rfl,fun w hS=>by have e:=G3.out w hS;go_simp⟩) hS ?_
  try simp only [Act.put,List.getElem_toArray,List.getElem_cons_zero,List.getElem_cons_succ,List.setIfInBounds_toArray,List.set_cons_zero,List.set_cons_succ]
  refine wpAnyH_take (i:=6) (v:=.int .i64 (bd:Int)) rfl (by kernel_rfl) (by kernel_rfl) (by kernel_rfl) (fun _ _ _ h=>h) (Or.inl ⟨by rfl,fun w hS=>by go_simp⟩) hS ?_
  try simp only [Act.put,List.getElem_toArray,List.getElem_cons_zero,List.getElem_cons_succ,List.setIfInBounds_toArray,List.set_cons_zero,List.set_cons_succ]
  refine wpAnyH_ready (rs:=[7]) (by kernel_rfl) (by simp) ?_
  refine ready_cons rfl (fun KK hKK=>?_) AllReadyH.nil
  refine⟨?_⟩
  have cc:=CF.out wd hS
  go_simp
  refine cc.mono ?_
  rintro e w2 ⟨⟨h0,v2,rfl,hv2⟩ | ⟨hne,rfl⟩,hb2⟩
  rotate_left
  ·exact⟨rfl,.inr ⟨hne,rfl⟩,bX.trans ((hS.trans (hb2.mono hS.size)).mono (by omega))⟩
  have H0:Hid (PR.2=0):=h0
  clear h0
  have hS2:Below w1.heap.size w1 w2:=hS.trans (hb2.mono hS.size)
  have hO2:=HO.out wd w2 _ _ hS hv2
  have hB2:Below X w w2:=bX.trans (hS2.mono (by omega))
  obtain⟨a2,c2',rfl⟩:=OwnsC.len hO2
  clear cc
  refine hKK.out _ _ hS2 (fun hS=>?_)
  clear hKK KK
  try simp only [Act.put,List.getElem_toArray,List.getElem_cons_zero,List.getElem_cons_succ,List.setIfInBounds_toArray,List.set_cons_zero,List.set_cons_succ]
  refine wpAnyH_take (i:=8) (v:=.slice a2 PR.1.length c2') rfl (by kernel_rfl) (by kernel_rfl) (by kernel_rfl) (fun _ _ _ h=>h) (Or.inl ⟨by rfl,fun w hS=>by go_simp⟩) hS ?_
  try simp only [Act.put,List.getElem_toArray,List.getElem_cons_zero,List.getElem_cons_succ,List.setIfInBounds_toArray,List.set_cons_zero,List.set_cons_succ]
  refine wpAnyH_done (by kernel_rfl) ?_ _
  go_wp2_with fail
  go_ret
  exact⟨.ok H0.out hO2,hB2⟩
end Go.Proofs.YtmblbmdchinflaaGreat
