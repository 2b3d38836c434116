/- A filler: at 1 the composition itself, at 0 a total branch. -/
import Derived.Test.YtmblbmdchinflaaGreatFG27
import Derived.Test.YtmblbmdchinflaaGreatEG5
import Derived.Test.YtmblbmdchinflaaGreatFG32
import Derived.Test.YtmblbmdchinflaaGreatFG33
import Derived.Test.YtmblbmdchinflaaGreatFG34
import Derived.Test.YtmblbmdchinflaaGreatFG40
import Derived.Test.YtmblbmdchinflaaGreatEYDmT
import Derived.Test.YtmblbmdchinflaaGreatFYBdJ
import Derived.Test.YtmblbmdchinflaaGreatFG42
import Derived.Test.YtmblbmdchinflaaGreatFYFl
import Derived.Test.YtmblbmdchinflaaGreatFYFlW
set_option linter.unusedVariables false
set_option linter.unusedSimpArgs false
set_option maxRecDepth 100000
set_option maxHeartbeats 16000000
namespace Go.Proofs.YtmblbmdchinflaaGreat
open Go.RowKit
theorem tm_s {X:Tm} {w:World} {a c e:Option Addr} {b d f:Nat} (h:TmIn Tt w X (.agg #[.int .i64 X.kind,.int .i64 X.n,.string X.name,.slice a X.r.length b,.slice c X.kids.length d,.slice e X.sys.length f])):SyT Tt w (TmIn Tt w) X.sys (.slice e X.sys.length f):=by
 obtain⟨ra,rc,ka,kc,sa,sc,he,ht⟩:=h.form
 simp at he
 obtain⟨_,_,rfl,rfl⟩:=he
 exact ht.sys
theorem tm_k {X:Tm} {w:World} {a c e:Option Addr} {b d f:Nat} (h:TmIn Tt w X (.agg #[.int .i64 X.kind,.int .i64 X.n,.string X.name,.slice a X.r.length b,.slice c X.kids.length d,.slice e X.sys.length f])):KdT Tt w (TmIn Tt w) X.kids (.slice c X.kids.length d):=by
 obtain⟨ra,rc,ka,kc,sa,sc,he,ht⟩:=h.form
 simp at he
 obtain⟨_,⟨rfl,rfl⟩,_⟩:=he
 exact ht.kids
theorem walk_BuildFills (t:Tm) (v0:Value) (u:Tm) (v1:Value) (l:List (List C × List Tm)) (v2:Value) (w:World) (hv0:TmIn Tt w t v0) (hv2:TmIn Tt w u v1) (hr:SyT Tt w (TmIn Tt w) l v2) :
  Calls Tryz.prog 3 #[v0,v1,v2] w fun e w'=>e=.returned (.bool true)∧Below w.heap.size w w':=by
 have hLA:LAll:=fun s hs N=>lf_any hs N
 obtain⟨ar,cr,e2,_⟩:=id hr
 subst e2
 obtain⟨LR,hLR⟩:∃ L,L=l.length:=⟨_,rfl⟩
 obtain⟨ra,rc,ka,kc,sa,sc,rfl,ht⟩:=hv0.form
 obtain⟨rb,rd,kb,kd,sb,sd,rfl,htu⟩:=hv2.form
 obtain⟨wa,hwa⟩:∃ W,W=w.alloc (.cells #[.int .i64 t.kind,.int .i64 t.n,.string t.name,.slice ra t.r.length rc,.slice ka t.kids.length kc,.slice sa t.sys.length sc] 26):=⟨_,rfl⟩
 have ba:Below w.heap.size w wa:=by rw [hwa];exact belowA _ _
 obtain⟨w1,hw1⟩:∃ W,W=wa.alloc (.cells #[.int .i64 u.kind,.int .i64 u.n,.string u.name,.slice rb u.r.length rd,.slice kb u.kids.length kd,.slice sb u.sys.length sd] 26):=⟨_,rfl⟩
 have ba1:Below wa.heap.size wa w1:=by rw [hw1];exact belowA _ _
 have b1:Below w.heap.size w w1:=bchain ba ba1
 obtain⟨X,hX⟩:∃ X,X=w.heap.size:=⟨_,rfl⟩
 have hX1:X+1=wa.heap.size:=by rw [hwa,hX];simp
 have n0:Six wa X (.int .i64 t.kind) (.int .i64 t.n) (.string t.name) (.slice ra t.r.length rc) (.slice ka t.kids.length kc) (.slice sa t.sys.length sc):=⟨by rw [hwa,hX];exact heapNew _ _⟩
 have n1:Six w1 (X+1) (.int .i64 u.kind) (.int .i64 u.n) (.string u.name) (.slice rb u.r.length rd) (.slice kb u.kids.length kd) (.slice sb u.sys.length sd):=⟨by rw [hw1,hX1];exact heapNew _ _⟩
 have HC:Hid (∀ W,Below w1.heap.size w1 W→Six W X (.int .i64 t.kind) (.int .i64 t.n) (.string t.name) (.slice ra t.r.length rc) (.slice ka t.kids.length kc) (.slice sa t.sys.length sc)):=fun W q=>(n0.blw ba1).blw q
 have HD:Hid (∀ W,Below w1.heap.size w1 W→Six W (X+1) (.int .i64 u.kind) (.int .i64 u.n) (.string u.name) (.slice rb u.r.length rd) (.slice kb u.kids.length kd) (.slice sb u.sys.length sd)):=fun W q=>n1.blw q
 have HT:Hid (∀ W,Below w1.heap.size w1 W→TmIn Tt W t (.agg #[.int .i64 t.kind,.int .i64 t.n,.string t.name,.slice ra t.r.length rc,.slice ka t.kids.length kc,.slice sa t.sys.length sc])):=fun W q=>((ht.blw b1).blw q).value
 have HU:Hid (∀ W,Below w1.heap.size w1 W→TmIn Tt W u (.agg #[.int .i64 u.kind,.int .i64 u.n,.string u.name,.slice rb u.r.length rd,.slice kb u.kids.length kd,.slice sb u.sys.length sd])):=fun W q=>((htu.blw b1).blw q).value
 have HR:Hid (∀ W,Below w1.heap.size w1 W→SyT Tt W (TmIn Tt W) l (.slice ar LR cr)):=fun W q=>by rw [hLR];exact (hr.blw b1).blw q
 have HB:Hid (∀ W,Below w1.heap.size w1 W→Below X w W):=fun W q=>by rw [hX];exact bchain b1 q
 have HXx:Hid (X=w.heap.size∧X+1=wa.heap.size):=⟨hX,hX1⟩
 have HLR:Hid (LR=l.length):=hLR
 have Hwa:Hid (_=_):=hwa
 have HW:Hid (_=_):=hw1
 rw [← hX,← hLR]
 clear hwa hw1 hX hX1 n0 n1 ht htu hv0 hv2 b1 ba ba1 hr hLR
 go_enter Tryz.func3,Tryz.ntmps3
 go_upto_region 1 with fail
 rw [← Hwa.out]
 simp only [← HXx.out.1,← HXx.out.2]
 rw [← HW.out]
 clear HW Hwa
 have cw:=works15_of id_any w1
 go_wp2_with fail
 refine cw.mono ?_
 rintro e w2 ⟨rfl,b2⟩
 clear cw
 have cg:=great15_any t u l _ _ _ w2 (HT.out w2 b2) (HU.out w2 b2) (HR.out w2 b2)
 obtain⟨y0,y1,y2,y3,y4,y5,_⟩:=(HC.out w2 b2).cells
 obtain⟨z0,z1,z2,z3,z4,z5,_⟩:=(HD.out w2 b2).cells
 go_wp2_with fail
 refine cg.mono ?_
 rintro e w3 ⟨bg,rfl,hbg,b3⟩
 clear cg y0 y1 y2 y3 y4 y5 z0 z1 z2 z3 z4 z5
 have b13:Below w1.heap.size w1 w3:=b2.trans (b3.mono b2.size)
 clear b2 b3
 cases bg
 rotate_left
 ·have hF:=HB.out w3 b13
  go_wp2_with fail
  go_ret
  exact⟨rfl,hF⟩
 have HG:Hid (blk t≤150∧blk u≤150∧blk (tS l)≤150):=hbg rfl
 clear hbg
 have cp:=plain_any (blk t) t _ w3 (HT.out w3 b13) (Nat.le_refl _) (by have:=HG.out.1;omega)
 obtain⟨y0,y1,y2,y3,y4,y5,_⟩:=(HC.out w3 b13).cells
 go_wp2_with fail
 refine cp.mono ?_
 rintro e w4 ⟨bp,rfl,hbp,b4⟩
 clear cp y0 y1 y2 y3 y4 y5
 have b14:Below w1.heap.size w1 w4:=b13.trans (b4.mono b13.size)
 clear b13 b4
 cases bp
 ·have hF:=HB.out w4 b14
  go_wp2_with fail
  go_ret
  exact⟨rfl,hF⟩
 have HN1:Hid (neT t):=hbp rfl
 clear hbp
 have cp:=plain_any (blk u) u _ w4 (HU.out w4 b14) (Nat.le_refl _) (by have:=HG.out.2.1;omega)
 obtain⟨y0,y1,y2,y3,y4,y5,_⟩:=(HD.out w4 b14).cells
 go_wp2_with fail
 refine cp.mono ?_
 rintro e w5 ⟨bp,rfl,hbp,b5⟩
 clear cp y0 y1 y2 y3 y4 y5
 have b15:Below w1.heap.size w1 w5:=b14.trans (b5.mono b14.size)
 clear b14 b5
 cases bp
 ·have hF:=HB.out w5 b15
  go_wp2_with fail
  go_ret
  exact⟨rfl,hF⟩
 have HN2:Hid (neT u):=hbp rfl
 clear hbp
 have cw:=whole_any l _ w5 (HR.out w5 b15)
 go_wp2_with fail
 refine cw.mono ?_
 rintro e w6 ⟨v6,rfl,t6,b6⟩
 clear cw
 have b16:Below w1.heap.size w1 w6:=b15.trans (b6.mono b15.size)
 clear b15 b6
 have cp:=plain_any (blk (hcT l)) (hcT l) v6 w6 t6 (Nat.le_refl _) (by have:=HG.out.2.2;rw [ts_eq] at this;rw [hc_eq];omega)
 clear t6
 go_wp2_with fail
 refine cp.mono ?_
 rintro e w5 ⟨bp,rfl,hbp,b5⟩
 clear cp
 have b15:Below w1.heap.size w1 w5:=b16.trans (b5.mono b16.size)
 clear b16 b5
 cases bp
 ·have hF:=HB.out w5 b15
  go_wp2_with fail
  go_ret
  exact⟨rfl,hF⟩
 have HN3:Hid (neT (hcT l)):=hbp rfl
 clear hbp
 have HEr:Hid (fillE t u l=0→takE 0 [top0] (fillT t u l)=0∧takT 0 [top0] (fillT t u l)=.mk 15 0 ⟨#[]⟩ [] [t,u] l∧takE 0 [] (fillT t u l)=0∧(∃ x,(takT 0 [] (fillT t u l)).kids=[x,u])∧0≤totF ((takT 0 [] (fillT t u l)).sys.map Prod.fst)):=fun h=>ends_fill h HN1.out HN2.out HN3.out
 have HEc:Hid (fillE t u l=0→blk (fillT t u l)≤20000∧capT (fillT t u l)≤40000):=fun h=>by
  obtain⟨_,_,_,_,_,_,hT⟩:=fill_ok h
  rw [hT]
  exact⟨fl_blk HG.out.1 HG.out.2.1 HG.out.2.2,fl_cap HG.out.1 HG.out.2.1 HG.out.2.2⟩
 have cRun:=mfill_any hLA t _ u _ l _ w5 (HT.out w5 b15) (HU.out w5 b15) (HR.out w5 b15) HG.out.1 HG.out.2.1 HG.out.2.2
 obtain⟨R1,hR1⟩:∃ x,x=fillT t u l:=⟨_,rfl⟩
 obtain⟨E1,hE1⟩:∃ x,x=fillE t u l:=⟨_,rfl⟩
 rw [← hR1,← hE1] at HEr cRun HEc
 clear hR1 hE1
 obtain⟨y0,y1,y2,y3,y4,y5,_⟩:=(HC.out w5 b15).cells
 obtain⟨z0,z1,z2,z3,z4,z5,_⟩:=(HD.out w5 b15).cells
 go_wp2_with fail
 refine cRun.mono ?_
 rintro e w6 ⟨v6,rfl,t6,b6⟩
 clear cRun y0 y1 y2 y3 y4 y5 z0 z1 z2 z3 z4 z5
 have b16:Below w1.heap.size w1 w6:=b15.trans (b6.mono b15.size)
 clear b15 b6
 obtain⟨rg,rh,kg,kh,sg,sh,rfl,ht6⟩:=t6.tt.form
 obtain⟨w9,hw7⟩:∃ W,W=w6.alloc (.cells #[.int .i64 R1.kind,.int .i64 R1.n,.string R1.name,.slice rg R1.r.length rh,.slice kg R1.kids.length kh,.slice sg R1.sys.length sh] 26):=⟨_,rfl⟩
 obtain⟨B6,hB6⟩:∃ V,V=w6.heap.size:=⟨_,rfl⟩
 have b67:Below w6.heap.size w6 w9:=by rw [hw7];exact belowA _ _
 have n7:Six w9 B6 (.int .i64 R1.kind) (.int .i64 R1.n) (.string R1.name) (.slice rg R1.r.length rh) (.slice kg R1.kids.length kh) (.slice sg R1.sys.length sh):=⟨by rw [hw7,hB6];exact heapNew _ _⟩
 have b19:Below w1.heap.size w1 w9:=b16.trans (b67.mono b16.size)
 have HRn:Hid (∀ W,Below w9.heap.size w9 W→Six W B6 (.int .i64 R1.kind) (.int .i64 R1.n) (.string R1.name) (.slice rg R1.r.length rh) (.slice kg R1.kids.length kh) (.slice sg R1.sys.length sh)∧TmIn Tt W R1 (.agg #[.int .i64 R1.kind,.int .i64 R1.n,.string R1.name,.slice rg R1.r.length rh,.slice kg R1.kids.length kh,.slice sg R1.sys.length sh])):=fun W q=>⟨n7.blw q,((ht6.blw b67).blw q).value⟩
 have Hw7:Hid (_=_):=hw7
 have HB6:Hid (B6=w6.heap.size):=hB6
 clear hw7 hB6 n7 ht6 t6 b67 b16
 go_upto_region 6 with fail
 rw [← Hw7.out]
 simp only [← HB6.out]
 clear Hw7 HB6
 by_cases hz1:E1=0
 rotate_left
 ·have hq:(E1 == 0)=false:=by simpa using hz1
  have hF:=HB.out w9 b19
  go_wp2_with fail
  go_ret
  exact⟨rfl,hF⟩
 subst hz1
 have HEr2:=HEr.out rfl
 have hc1:=HEc.out rfl
 have b99:Below w9.heap.size w9 w9:=Below.refl _ _
 have cT1:Hid (∀ V v vr,TmIn Tt V R1 v→ClRow Tt V [top0] vr→Calls Tryz.prog 11 #[v,.int .i64 0,vr] V fun e w'=>∃ v',e=.returned (.tuple #[v',.int .i64 0])∧TmIn (fun q=>V.heap.size≤q∧q<w'.heap.size) w' (takT 0 [top0] R1) v'∧Below V.heap.size V w'):=fun V v vr h1 h2=>take_al2 hc1.1 hc1.2 (.inl rfl) HEr2.1 V v vr h1 h2
 have cT2:Hid (∀ V v vr,TmIn Tt V R1 v→ClRow Tt V [] vr→Calls Tryz.prog 11 #[v,.int .i64 0,vr] V fun e w'=>∃ v',e=.returned (.tuple #[v',.int .i64 0])∧TmIn (fun q=>V.heap.size≤q∧q<w'.heap.size) w' (takT 0 [] R1) v'∧Below V.heap.size V w'):=fun V v vr h1 h2=>take_al2 hc1.1 hc1.2 (.inr rfl) HEr2.2.2.1 V v vr h1 h2
 obtain⟨X1,hX1⟩:∃ x,x=takT 0 [top0] R1:=⟨_,rfl⟩
 obtain⟨X2,hX2⟩:∃ x,x=takT 0 [] R1:=⟨_,rfl⟩
 have HE1:Hid (X1=.mk 15 0 ⟨#[]⟩ [] [t,u] l):=hX1.trans HEr2.2.1
 have HE2:Hid (∃ x,X2.kids=[x,u]):=(by rw [hX2];exact HEr2.2.2.2.1:∃ x,X2.kids=[x,u])
 have HLs:Hid (X2.sys.length≤100000):=(by
  rw [hX2]
  have h1:=take_capT (r:=[]) (t:=R1)
  have h2:=(cap_ge (takT 0 [] R1)).1
  have h3:=hc1.2
  have h4:=sys_len (takT 0 [] R1).sys
  have h5:=blk_eq (takT 0 [] R1)
  omega:X2.sys.length≤100000)
 have HE3:Hid (0≤totF (X2.sys.map Prod.fst)):=(by rw [hX2];exact HEr2.2.2.2.2:0≤totF (X2.sys.map Prod.fst))
 rw [← hX1] at cT1
 rw [← hX2] at cT2
 clear hX1 hX2 hc1 HEr2
 go_upto_region 8 with fail
 go_cut [9,10] (fun s1 s2 wx=>∃ o x1 x2 x3 x4 x5 x6,s1=.pointer (some ⟨o,0,none⟩)∧s2=.int .i64 0∧Six wx o (.int .i64 X1.kind) (.int .i64 X1.n) (.string X1.name) (.slice x1 X1.r.length x2) (.slice x3 X1.kids.length x4) (.slice x5 X1.sys.length x6)∧TmIn Tt wx X1 (.agg #[.int .i64 X1.kind,.int .i64 X1.n,.string X1.name,.slice x1 X1.r.length x2,.slice x3 X1.kids.length x4,.slice x5 X1.sys.length x6])∧Below w9.heap.size w9 wx)
 case first =>
  refine wp_region_held_drew (S:=fun V=>Below w9.heap.size w9 V) (by kernel_rfl) ((Below.refl _ _).drew) (fun hS=>?_)
  obtain⟨wd,hwd⟩:∃ V,V=w9.drew:=⟨_,rfl⟩
  have hbd:Below w9.heap.size w9 wd:=by rw [hwd];exact (Below.refl _ _).drew
  have hszd:w9.heap.size≤wd.heap.size:=hbd.size
  have hK:Below w9.heap.size w9 w9:=Below.refl _ _
  rw [← hwd] at hS ⊢
  clear hwd
  have hK:=hK.trans (hbd.mono hK.size)
  clear hbd
  refine zk 0 (.agg #[.int .i64 R1.kind,.int .i64 R1.n,.string R1.name,.slice rg R1.r.length rh,.slice kg R1.kids.length kh,.slice sg R1.sys.length sh]) rfl (by rfl) (fun w hS=>by obtain⟨y0,y1,y2,y3,y4,y5,_⟩:=(HRn.out _ (b99.trans (Below.mono hS b99.size))).1.cells;go_simp) hS ?_
  try simp only [Act.put,zg1,zg2,zg3,zs1,zs2,zs3]
  refine wpAnyH_ready (rs:=[1,6]) (by kernel_rfl) (by simp) ?_
  refine ready_cons rfl (fun KK hKK=>?_) (ready_cons rfl (fun KK hKK=>?_) AllReadyH.nil)
  ·skip
   refine⟨?_⟩
   have cc:=one_any wd
   go_simp
   refine cc.mono ?_
   rintro e u1 ⟨vu1,rfl,hvu1,bu1⟩
   obtain⟨ao,co,hvo⟩:=OwnsC.len hvu1
   subst hvo
   simp only [List.length_cons,List.length_nil,Nat.zero_add]
   have hO:ClRow Tt u1 [top0] (.slice ao 1 co):=(OwnsC.okn hvu1).keep (Nat.le_refl _) (fun _ _=>trivial) (fun _ _ _=>rfl)
   have hk:=bu1
   have hszu1:=hk.size
   have hK:=hK.trans (hk.mono hK.size)
   clear cc hvu1
   refine hKK.out _ _ (hK) (fun hS=>?_)
   clear hKK KK
   try simp only [Act.put,zg1,zg2,zg3,zs1,zs2,zs3]
   clear hk
   refine wpAnyH_ready (rs:=[2,6]) (by kernel_rfl) (by simp) ?_
   refine ready_cons rfl (fun KK hKK=>?_) (ready_cons rfl (fun KK hKK=>?_) AllReadyH.nil)
   ·skip
    refine⟨?_⟩
    have cc:=cT1.out u1 _ _ (HRn.out _ (b99.trans (hK.mono b99.size))).2 hO
    go_simp
    refine cc.mono ?_
    rintro e u2 ⟨vu2,rfl,hvu2,bu2⟩
    obtain⟨ra1x,rc1x,ka1x,kc1x,sa1x,sc1x,rfl,ht1x⟩:=hvu2.form
    have hT1x:TmIn (fun q=>u1.heap.size≤q∧q<u2.heap.size) u2 X1 _:=(ht1x.value).up (fun q h=>h)
    have hk:=bu2
    have hszu2:=hk.size
    have hK:=hK.trans (hk.mono hK.size)
    clear cc hvu2 ht1x hO
    refine hKK.out _ _ (hK) (fun hS=>?_)
    clear hKK KK
    try simp only [Act.put,zg1,zg2,zg3,zs1,zs2,zs3]
    clear hk
    refine zk 3 (.tuple #[.agg #[.int .i64 X1.kind,.int .i64 X1.n,.string X1.name,.slice ra1x X1.r.length rc1x,.slice ka1x X1.kids.length kc1x,.slice sa1x X1.sys.length sc1x],.int .i64 0]) rfl (by rfl) (fun w hS=>by go_simp) hS ?_
    try simp only [Act.put,zg1,zg2,zg3,zs1,zs2,zs3]
    refine zk 4 (.agg #[.int .i64 X1.kind,.int .i64 X1.n,.string X1.name,.slice ra1x X1.r.length rc1x,.slice ka1x X1.kids.length kc1x,.slice sa1x X1.sys.length sc1x]) rfl (by rfl) (fun w hS=>by go_simp) hS ?_
    try simp only [Act.put,zg1,zg2,zg3,zs1,zs2,zs3]
    refine zk 5 (.int .i64 0) rfl (by rfl) (fun w hS=>by go_simp) hS ?_
    try simp only [Act.put,zg1,zg2,zg3,zs1,zs2,zs3]
    refine zr 6 rfl (fun KK hKK=>?_)
    obtain⟨bk4,u3,hbk4,hu3,bu3,su3,lebk4,zu3⟩:=zal u2
    have gbk4:w9.heap.size≤bk4:=by rw [hbk4];exact hK.size
    have hk:=bu3
    have hK:=hK.trans (hk.mono hK.size)
    have hT1x:=hT1x.blw hk
    have Hu3:Hid (_=_):=hu3
    have Kbk4:Hid (_=_):=hbk4
    clear hu3 hbk4
    refine⟨?_⟩
    go_simp
    rw [← Hu3.out]
    try simp only [← Kbk4.out]
    refine hKK.out _ _ (hK) (fun hS=>?_)
    clear hKK KK
    try simp only [Act.put,zg1,zg2,zg3,zs1,zs2,zs3]
    clear hk Hu3
    refine zr 7 rfl (fun KK hKK=>?_)
    obtain⟨w95,hwz,zz2,kz,o0,o1,o2,o3,o4,o5,f0,f1,f2,f3,f4,f5⟩:=zst zu3 (.int .i64 X1.kind) (.int .i64 X1.n) (.string X1.name) (.slice ra1x X1.r.length rc1x) (.slice ka1x X1.kids.length kc1x) (.slice sa1x X1.sys.length sc1x)
    have Hwz:Hid (_=_):=hwz
    clear hwz
    have hT1x:TmIn Tt w95 X1 _:=(hT1x.kn kz (fun q h=>by have:=h.1;have:=h.2;show q≠_;omega)).tt
    have hK:Below w9.heap.size w9 w95:=hK.trans (kz.below (fun q hq=>by show q≠_;omega) hK.size)
    clear kz
    refine⟨?_⟩
    go_simp
    rw [← Hwz.out]
    refine hKK.out _ _ (hK) (fun hS=>?_)
    clear hKK KK
    try simp only [Act.put,zg1,zg2,zg3,zs1,zs2,zs3]
    refine zk 8 (.int .i64 0) rfl (by rfl) (fun w hS=>by go_simp) hS ?_
    try simp only [Act.put,zg1,zg2,zg3,zs1,zs2,zs3]
    refine wpAnyH_done (by kernel_rfl) ?_ _
    go_wp2_with fail
    go_meet
    refine⟨bk4,ra1x,rc1x,ka1x,kc1x,sa1x,sc1x,rfl,rfl,?_,?_,?_⟩
    ·with_reducible exact zz2
    ·with_reducible exact hT1x
    ·with_reducible exact hK
   ·skip
    obtain⟨bk7,u6,hbk7,hu6,bu6,su6,lebk7,zu6⟩:=zal u1
    have gbk7:w9.heap.size≤bk7:=by rw [hbk7];exact hK.size
    have hk:=bu6
    have hK:=hK.trans (hk.mono hK.size)
    have hO:=hO.blw hk
    have Hu6:Hid (_=_):=hu6
    have Kbk7:Hid (_=_):=hbk7
    clear hu6 hbk7
    refine⟨?_⟩
    go_simp
    rw [← Hu6.out]
    try simp only [← Kbk7.out]
    refine hKK.out _ _ (hK) (fun hS=>?_)
    clear hKK KK
    try simp only [Act.put,zg1,zg2,zg3,zs1,zs2,zs3]
    clear hk Hu6
    refine zr 2 rfl (fun KK hKK=>?_)
    refine⟨?_⟩
    have cc:=cT1.out u6 _ _ (HRn.out _ (b99.trans (hK.mono b99.size))).2 hO
    go_simp
    refine cc.mono ?_
    rintro e u8 ⟨vu8,rfl,hvu8,bu8⟩
    obtain⟨ra1x,rc1x,ka1x,kc1x,sa1x,sc1x,rfl,ht1x⟩:=hvu8.form
    have hT1x:TmIn (fun q=>u6.heap.size≤q∧q<u8.heap.size) u8 X1 _:=(ht1x.value).up (fun q h=>h)
    have hk:=bu8
    have hszu8:=hk.size
    have hK:=hK.trans (hk.mono hK.size)
    have zu6:=zu6.blw hk
    clear cc hvu8 ht1x hO
    refine hKK.out _ _ (hK) (fun hS=>?_)
    clear hKK KK
    try simp only [Act.put,zg1,zg2,zg3,zs1,zs2,zs3]
    clear hk
    refine zk 3 (.tuple #[.agg #[.int .i64 X1.kind,.int .i64 X1.n,.string X1.name,.slice ra1x X1.r.length rc1x,.slice ka1x X1.kids.length kc1x,.slice sa1x X1.sys.length sc1x],.int .i64 0]) rfl (by rfl) (fun w hS=>by go_simp) hS ?_
    try simp only [Act.put,zg1,zg2,zg3,zs1,zs2,zs3]
    refine zk 4 (.agg #[.int .i64 X1.kind,.int .i64 X1.n,.string X1.name,.slice ra1x X1.r.length rc1x,.slice ka1x X1.kids.length kc1x,.slice sa1x X1.sys.length sc1x]) rfl (by rfl) (fun w hS=>by go_simp) hS ?_
    try simp only [Act.put,zg1,zg2,zg3,zs1,zs2,zs3]
    refine zk 5 (.int .i64 0) rfl (by rfl) (fun w hS=>by go_simp) hS ?_
    try simp only [Act.put,zg1,zg2,zg3,zs1,zs2,zs3]
    refine zr 7 rfl (fun KK hKK=>?_)
    obtain⟨w99,hwz,zz2,kz,o0,o1,o2,o3,o4,o5,f0,f1,f2,f3,f4,f5⟩:=zst zu6 (.int .i64 X1.kind) (.int .i64 X1.n) (.string X1.name) (.slice ra1x X1.r.length rc1x) (.slice ka1x X1.kids.length kc1x) (.slice sa1x X1.sys.length sc1x)
    have Hwz:Hid (_=_):=hwz
    clear hwz
    have hT1x:TmIn Tt w99 X1 _:=(hT1x.kn kz (fun q h=>by have:=h.1;have:=h.2;show q≠_;omega)).tt
    have hK:Below w9.heap.size w9 w99:=hK.trans (kz.below (fun q hq=>by show q≠_;omega) hK.size)
    clear kz
    refine⟨?_⟩
    go_simp
    rw [← Hwz.out]
    refine hKK.out _ _ (hK) (fun hS=>?_)
    clear hKK KK
    try simp only [Act.put,zg1,zg2,zg3,zs1,zs2,zs3]
    refine zk 8 (.int .i64 0) rfl (by rfl) (fun w hS=>by go_simp) hS ?_
    try simp only [Act.put,zg1,zg2,zg3,zs1,zs2,zs3]
    refine wpAnyH_done (by kernel_rfl) ?_ _
    go_wp2_with fail
    go_meet
    refine⟨bk7,ra1x,rc1x,ka1x,kc1x,sa1x,sc1x,rfl,rfl,?_,?_,?_⟩
    ·with_reducible exact zz2
    ·with_reducible exact hT1x
    ·with_reducible exact hK
  ·skip
   obtain⟨bk11,u10,hbk11,hu10,bu10,su10,lebk11,zu10⟩:=zal wd
   have gbk11:w9.heap.size≤bk11:=by rw [hbk11];exact hK.size
   have hk:=bu10
   have hK:=hK.trans (hk.mono hK.size)
   have Hu10:Hid (_=_):=hu10
   have Kbk11:Hid (_=_):=hbk11
   clear hu10 hbk11
   refine⟨?_⟩
   go_simp
   rw [← Hu10.out]
   try simp only [← Kbk11.out]
   refine hKK.out _ _ (hK) (fun hS=>?_)
   clear hKK KK
   try simp only [Act.put,zg1,zg2,zg3,zs1,zs2,zs3]
   clear hk Hu10
   refine zr 1 rfl (fun KK hKK=>?_)
   refine⟨?_⟩
   have cc:=one_any u10
   go_simp
   refine cc.mono ?_
   rintro e u12 ⟨vu12,rfl,hvu12,bu12⟩
   obtain⟨ao,co,hvo⟩:=OwnsC.len hvu12
   subst hvo
   simp only [List.length_cons,List.length_nil,Nat.zero_add]
   have hO:ClRow Tt u12 [top0] (.slice ao 1 co):=(OwnsC.okn hvu12).keep (Nat.le_refl _) (fun _ _=>trivial) (fun _ _ _=>rfl)
   have hk:=bu12
   have hszu12:=hk.size
   have hK:=hK.trans (hk.mono hK.size)
   have zu10:=zu10.blw hk
   clear cc hvu12
   refine hKK.out _ _ (hK) (fun hS=>?_)
   clear hKK KK
   try simp only [Act.put,zg1,zg2,zg3,zs1,zs2,zs3]
   clear hk
   refine zr 2 rfl (fun KK hKK=>?_)
   refine⟨?_⟩
   have cc:=cT1.out u12 _ _ (HRn.out _ (b99.trans (hK.mono b99.size))).2 hO
   go_simp
   refine cc.mono ?_
   rintro e u13 ⟨vu13,rfl,hvu13,bu13⟩
   obtain⟨ra1x,rc1x,ka1x,kc1x,sa1x,sc1x,rfl,ht1x⟩:=hvu13.form
   have hT1x:TmIn (fun q=>u12.heap.size≤q∧q<u13.heap.size) u13 X1 _:=(ht1x.value).up (fun q h=>h)
   have hk:=bu13
   have hszu13:=hk.size
   have hK:=hK.trans (hk.mono hK.size)
   have zu10:=zu10.blw hk
   clear cc hvu13 ht1x hO
   refine hKK.out _ _ (hK) (fun hS=>?_)
   clear hKK KK
   try simp only [Act.put,zg1,zg2,zg3,zs1,zs2,zs3]
   clear hk
   refine zk 3 (.tuple #[.agg #[.int .i64 X1.kind,.int .i64 X1.n,.string X1.name,.slice ra1x X1.r.length rc1x,.slice ka1x X1.kids.length kc1x,.slice sa1x X1.sys.length sc1x],.int .i64 0]) rfl (by rfl) (fun w hS=>by go_simp) hS ?_
   try simp only [Act.put,zg1,zg2,zg3,zs1,zs2,zs3]
   refine zk 4 (.agg #[.int .i64 X1.kind,.int .i64 X1.n,.string X1.name,.slice ra1x X1.r.length rc1x,.slice ka1x X1.kids.length kc1x,.slice sa1x X1.sys.length sc1x]) rfl (by rfl) (fun w hS=>by go_simp) hS ?_
   try simp only [Act.put,zg1,zg2,zg3,zs1,zs2,zs3]
   refine zk 5 (.int .i64 0) rfl (by rfl) (fun w hS=>by go_simp) hS ?_
   try simp only [Act.put,zg1,zg2,zg3,zs1,zs2,zs3]
   refine zr 7 rfl (fun KK hKK=>?_)
   obtain⟨w914,hwz,zz2,kz,o0,o1,o2,o3,o4,o5,f0,f1,f2,f3,f4,f5⟩:=zst zu10 (.int .i64 X1.kind) (.int .i64 X1.n) (.string X1.name) (.slice ra1x X1.r.length rc1x) (.slice ka1x X1.kids.length kc1x) (.slice sa1x X1.sys.length sc1x)
   have Hwz:Hid (_=_):=hwz
   clear hwz
   have hT1x:TmIn Tt w914 X1 _:=(hT1x.kn kz (fun q h=>by have:=h.1;have:=h.2;show q≠_;omega)).tt
   have hK:Below w9.heap.size w9 w914:=hK.trans (kz.below (fun q hq=>by show q≠_;omega) hK.size)
   clear kz
   refine⟨?_⟩
   go_simp
   rw [← Hwz.out]
   refine hKK.out _ _ (hK) (fun hS=>?_)
   clear hKK KK
   try simp only [Act.put,zg1,zg2,zg3,zs1,zs2,zs3]
   refine zk 8 (.int .i64 0) rfl (by rfl) (fun w hS=>by go_simp) hS ?_
   try simp only [Act.put,zg1,zg2,zg3,zs1,zs2,zs3]
   refine wpAnyH_done (by kernel_rfl) ?_ _
   go_wp2_with fail
   go_meet
   refine⟨bk11,ra1x,rc1x,ka1x,kc1x,sa1x,sc1x,rfl,rfl,?_,?_,?_⟩
   ·with_reducible exact zz2
   ·with_reducible exact hT1x
   ·with_reducible exact hK
 case rest =>
 obtain⟨o10,x1,x2,x3,x4,x5,x6,rfl,rfl,n10,hT10,hK10⟩:=hcut
 obtain⟨wA,hw10⟩:∃ V,V=wc:=⟨_,rfl⟩
 subst hw10
 have b1A:Below w1.heap.size w1 wA:=b19.trans (Below.mono hK10 b19.size)
 have HXA:Hid (∀ W,Below wA.heap.size wA W→Six W o10 (.int .i64 X1.kind) (.int .i64 X1.n) (.string X1.name) (.slice x1 X1.r.length x2) (.slice x3 X1.kids.length x4) (.slice x5 X1.sys.length x6)∧TmIn Tt W X1 (.agg #[.int .i64 X1.kind,.int .i64 X1.n,.string X1.name,.slice x1 X1.r.length x2,.slice x3 X1.kids.length x4,.slice x5 X1.sys.length x6])):=fun W q=>⟨n10.blw q,hT10.blw q⟩
 clear n10 hT10
 have b9A:Below w9.heap.size w9 wA:=hK10
 go_upto_region 9 with fail
 go_cut [11,12] (fun s1 s2 wx=>∃ o x1 x2 x3 x4 x5 x6,s1=.pointer (some ⟨o,0,none⟩)∧s2=.int .i64 0∧Six wx o (.int .i64 X2.kind) (.int .i64 X2.n) (.string X2.name) (.slice x1 X2.r.length x2) (.slice x3 X2.kids.length x4) (.slice x5 X2.sys.length x6)∧TmIn Tt wx X2 (.agg #[.int .i64 X2.kind,.int .i64 X2.n,.string X2.name,.slice x1 X2.r.length x2,.slice x3 X2.kids.length x4,.slice x5 X2.sys.length x6])∧Below wA.heap.size wA wx)
 case first =>
  refine wp_region_held_drew (S:=fun V=>Below wA.heap.size wA V) (by kernel_rfl) ((Below.refl _ _).drew) (fun hS=>?_)
  obtain⟨wd,hwd⟩:∃ V,V=wA.drew:=⟨_,rfl⟩
  have hbd:Below wA.heap.size wA wd:=by rw [hwd];exact (Below.refl _ _).drew
  have hszd:wA.heap.size≤wd.heap.size:=hbd.size
  have hK:Below wA.heap.size wA wA:=Below.refl _ _
  rw [← hwd] at hS ⊢
  clear hwd
  have hK:=hK.trans (hbd.mono hK.size)
  clear hbd
  refine zk 0 (.agg #[.int .i64 R1.kind,.int .i64 R1.n,.string R1.name,.slice rg R1.r.length rh,.slice kg R1.kids.length kh,.slice sg R1.sys.length sh]) rfl (by rfl) (fun w hS=>by obtain⟨y0,y1,y2,y3,y4,y5,_⟩:=(HRn.out _ (b9A.trans (Below.mono hS b9A.size))).1.cells;go_simp) hS ?_
  try simp only [Act.put,zg1,zg2,zg3,zs1,zs2,zs3]
  refine wpAnyH_ready (rs:=[1,6]) (by kernel_rfl) (by simp) ?_
  refine ready_cons rfl (fun KK hKK=>?_) (ready_cons rfl (fun KK hKK=>?_) AllReadyH.nil)
  ·skip
   refine⟨?_⟩
   have cc:=zero_any wd
   go_simp
   refine cc.mono ?_
   intro e u1 hwu1
   rw [hwu1.1,hwu1.2]
   clear hwu1
   have hO:ClRow Tt wd [] (.slice none 0 0):=cl_nil0 _
   clear cc
   refine hKK.out _ _ (hK) (fun hS=>?_)
   clear hKK KK
   try simp only [Act.put,zg1,zg2,zg3,zs1,zs2,zs3]
   refine wpAnyH_ready (rs:=[2,6]) (by kernel_rfl) (by simp) ?_
   refine ready_cons rfl (fun KK hKK=>?_) (ready_cons rfl (fun KK hKK=>?_) AllReadyH.nil)
   ·skip
    refine⟨?_⟩
    have cc:=cT2.out wd _ _ (HRn.out _ (b9A.trans (hK.mono b9A.size))).2 hO
    go_simp
    refine cc.mono ?_
    rintro e u2 ⟨vu2,rfl,hvu2,bu2⟩
    obtain⟨ra2x,rc2x,ka2x,kc2x,sa2x,sc2x,rfl,ht2x⟩:=hvu2.form
    have hT2x:TmIn (fun q=>wd.heap.size≤q∧q<u2.heap.size) u2 X2 _:=(ht2x.value).up (fun q h=>h)
    have hk:=bu2
    have hszu2:=hk.size
    have hK:=hK.trans (hk.mono hK.size)
    clear cc hvu2 ht2x hO
    refine hKK.out _ _ (hK) (fun hS=>?_)
    clear hKK KK
    try simp only [Act.put,zg1,zg2,zg3,zs1,zs2,zs3]
    clear hk
    refine zk 3 (.tuple #[.agg #[.int .i64 X2.kind,.int .i64 X2.n,.string X2.name,.slice ra2x X2.r.length rc2x,.slice ka2x X2.kids.length kc2x,.slice sa2x X2.sys.length sc2x],.int .i64 0]) rfl (by rfl) (fun w hS=>by go_simp) hS ?_
    try simp only [Act.put,zg1,zg2,zg3,zs1,zs2,zs3]
    refine zk 4 (.agg #[.int .i64 X2.kind,.int .i64 X2.n,.string X2.name,.slice ra2x X2.r.length rc2x,.slice ka2x X2.kids.length kc2x,.slice sa2x X2.sys.length sc2x]) rfl (by rfl) (fun w hS=>by go_simp) hS ?_
    try simp only [Act.put,zg1,zg2,zg3,zs1,zs2,zs3]
    refine zk 5 (.int .i64 0) rfl (by rfl) (fun w hS=>by go_simp) hS ?_
    try simp only [Act.put,zg1,zg2,zg3,zs1,zs2,zs3]
    refine zr 6 rfl (fun KK hKK=>?_)
    obtain⟨bk4,u3,hbk4,hu3,bu3,su3,lebk4,zu3⟩:=zal u2
    have gbk4:wA.heap.size≤bk4:=by rw [hbk4];exact hK.size
    have hk:=bu3
    have hK:=hK.trans (hk.mono hK.size)
    have hT2x:=hT2x.blw hk
    have Hu3:Hid (_=_):=hu3
    have Kbk4:Hid (_=_):=hbk4
    clear hu3 hbk4
    refine⟨?_⟩
    go_simp
    rw [← Hu3.out]
    try simp only [← Kbk4.out]
    refine hKK.out _ _ (hK) (fun hS=>?_)
    clear hKK KK
    try simp only [Act.put,zg1,zg2,zg3,zs1,zs2,zs3]
    clear hk Hu3
    refine zr 7 rfl (fun KK hKK=>?_)
    obtain⟨w95,hwz,zz2,kz,o0,o1,o2,o3,o4,o5,f0,f1,f2,f3,f4,f5⟩:=zst zu3 (.int .i64 X2.kind) (.int .i64 X2.n) (.string X2.name) (.slice ra2x X2.r.length rc2x) (.slice ka2x X2.kids.length kc2x) (.slice sa2x X2.sys.length sc2x)
    have Hwz:Hid (_=_):=hwz
    clear hwz
    have hT2x:TmIn Tt w95 X2 _:=(hT2x.kn kz (fun q h=>by have:=h.1;have:=h.2;show q≠_;omega)).tt
    have hK:Below wA.heap.size wA w95:=hK.trans (kz.below (fun q hq=>by show q≠_;omega) hK.size)
    clear kz
    refine⟨?_⟩
    go_simp
    rw [← Hwz.out]
    refine hKK.out _ _ (hK) (fun hS=>?_)
    clear hKK KK
    try simp only [Act.put,zg1,zg2,zg3,zs1,zs2,zs3]
    refine zk 8 (.int .i64 0) rfl (by rfl) (fun w hS=>by go_simp) hS ?_
    try simp only [Act.put,zg1,zg2,zg3,zs1,zs2,zs3]
    refine wpAnyH_done (by kernel_rfl) ?_ _
    go_wp2_with fail
    go_meet
    refine⟨bk4,ra2x,rc2x,ka2x,kc2x,sa2x,sc2x,rfl,rfl,?_,?_,?_⟩
    ·with_reducible exact zz2
    ·with_reducible exact hT2x
    ·with_reducible exact hK
   ·skip
    obtain⟨bk7,u6,hbk7,hu6,bu6,su6,lebk7,zu6⟩:=zal wd
    have gbk7:wA.heap.size≤bk7:=by rw [hbk7];exact hK.size
    have hk:=bu6
    have hK:=hK.trans (hk.mono hK.size)
    have hO:=hO.blw hk
    have Hu6:Hid (_=_):=hu6
    have Kbk7:Hid (_=_):=hbk7
    clear hu6 hbk7
    refine⟨?_⟩
    go_simp
    rw [← Hu6.out]
    try simp only [← Kbk7.out]
    refine hKK.out _ _ (hK) (fun hS=>?_)
    clear hKK KK
    try simp only [Act.put,zg1,zg2,zg3,zs1,zs2,zs3]
    clear hk Hu6
    refine zr 2 rfl (fun KK hKK=>?_)
    refine⟨?_⟩
    have cc:=cT2.out u6 _ _ (HRn.out _ (b9A.trans (hK.mono b9A.size))).2 hO
    go_simp
    refine cc.mono ?_
    rintro e u8 ⟨vu8,rfl,hvu8,bu8⟩
    obtain⟨ra2x,rc2x,ka2x,kc2x,sa2x,sc2x,rfl,ht2x⟩:=hvu8.form
    have hT2x:TmIn (fun q=>u6.heap.size≤q∧q<u8.heap.size) u8 X2 _:=(ht2x.value).up (fun q h=>h)
    have hk:=bu8
    have hszu8:=hk.size
    have hK:=hK.trans (hk.mono hK.size)
    have zu6:=zu6.blw hk
    clear cc hvu8 ht2x hO
    refine hKK.out _ _ (hK) (fun hS=>?_)
    clear hKK KK
    try simp only [Act.put,zg1,zg2,zg3,zs1,zs2,zs3]
    clear hk
    refine zk 3 (.tuple #[.agg #[.int .i64 X2.kind,.int .i64 X2.n,.string X2.name,.slice ra2x X2.r.length rc2x,.slice ka2x X2.kids.length kc2x,.slice sa2x X2.sys.length sc2x],.int .i64 0]) rfl (by rfl) (fun w hS=>by go_simp) hS ?_
    try simp only [Act.put,zg1,zg2,zg3,zs1,zs2,zs3]
    refine zk 4 (.agg #[.int .i64 X2.kind,.int .i64 X2.n,.string X2.name,.slice ra2x X2.r.length rc2x,.slice ka2x X2.kids.length kc2x,.slice sa2x X2.sys.length sc2x]) rfl (by rfl) (fun w hS=>by go_simp) hS ?_
    try simp only [Act.put,zg1,zg2,zg3,zs1,zs2,zs3]
    refine zk 5 (.int .i64 0) rfl (by rfl) (fun w hS=>by go_simp) hS ?_
    try simp only [Act.put,zg1,zg2,zg3,zs1,zs2,zs3]
    refine zr 7 rfl (fun KK hKK=>?_)
    obtain⟨w99,hwz,zz2,kz,o0,o1,o2,o3,o4,o5,f0,f1,f2,f3,f4,f5⟩:=zst zu6 (.int .i64 X2.kind) (.int .i64 X2.n) (.string X2.name) (.slice ra2x X2.r.length rc2x) (.slice ka2x X2.kids.length kc2x) (.slice sa2x X2.sys.length sc2x)
    have Hwz:Hid (_=_):=hwz
    clear hwz
    have hT2x:TmIn Tt w99 X2 _:=(hT2x.kn kz (fun q h=>by have:=h.1;have:=h.2;show q≠_;omega)).tt
    have hK:Below wA.heap.size wA w99:=hK.trans (kz.below (fun q hq=>by show q≠_;omega) hK.size)
    clear kz
    refine⟨?_⟩
    go_simp
    rw [← Hwz.out]
    refine hKK.out _ _ (hK) (fun hS=>?_)
    clear hKK KK
    try simp only [Act.put,zg1,zg2,zg3,zs1,zs2,zs3]
    refine zk 8 (.int .i64 0) rfl (by rfl) (fun w hS=>by go_simp) hS ?_
    try simp only [Act.put,zg1,zg2,zg3,zs1,zs2,zs3]
    refine wpAnyH_done (by kernel_rfl) ?_ _
    go_wp2_with fail
    go_meet
    refine⟨bk7,ra2x,rc2x,ka2x,kc2x,sa2x,sc2x,rfl,rfl,?_,?_,?_⟩
    ·with_reducible exact zz2
    ·with_reducible exact hT2x
    ·with_reducible exact hK
  ·skip
   obtain⟨bk11,u10,hbk11,hu10,bu10,su10,lebk11,zu10⟩:=zal wd
   have gbk11:wA.heap.size≤bk11:=by rw [hbk11];exact hK.size
   have hk:=bu10
   have hK:=hK.trans (hk.mono hK.size)
   have Hu10:Hid (_=_):=hu10
   have Kbk11:Hid (_=_):=hbk11
   clear hu10 hbk11
   refine⟨?_⟩
   go_simp
   rw [← Hu10.out]
   try simp only [← Kbk11.out]
   refine hKK.out _ _ (hK) (fun hS=>?_)
   clear hKK KK
   try simp only [Act.put,zg1,zg2,zg3,zs1,zs2,zs3]
   clear hk Hu10
   refine zr 1 rfl (fun KK hKK=>?_)
   refine⟨?_⟩
   have cc:=zero_any u10
   go_simp
   refine cc.mono ?_
   intro e u12 hwu12
   rw [hwu12.1,hwu12.2]
   clear hwu12
   have hO:ClRow Tt u10 [] (.slice none 0 0):=cl_nil0 _
   clear cc
   refine hKK.out _ _ (hK) (fun hS=>?_)
   clear hKK KK
   try simp only [Act.put,zg1,zg2,zg3,zs1,zs2,zs3]
   refine zr 2 rfl (fun KK hKK=>?_)
   refine⟨?_⟩
   have cc:=cT2.out u10 _ _ (HRn.out _ (b9A.trans (hK.mono b9A.size))).2 hO
   go_simp
   refine cc.mono ?_
   rintro e u13 ⟨vu13,rfl,hvu13,bu13⟩
   obtain⟨ra2x,rc2x,ka2x,kc2x,sa2x,sc2x,rfl,ht2x⟩:=hvu13.form
   have hT2x:TmIn (fun q=>u10.heap.size≤q∧q<u13.heap.size) u13 X2 _:=(ht2x.value).up (fun q h=>h)
   have hk:=bu13
   have hszu13:=hk.size
   have hK:=hK.trans (hk.mono hK.size)
   have zu10:=zu10.blw hk
   clear cc hvu13 ht2x hO
   refine hKK.out _ _ (hK) (fun hS=>?_)
   clear hKK KK
   try simp only [Act.put,zg1,zg2,zg3,zs1,zs2,zs3]
   clear hk
   refine zk 3 (.tuple #[.agg #[.int .i64 X2.kind,.int .i64 X2.n,.string X2.name,.slice ra2x X2.r.length rc2x,.slice ka2x X2.kids.length kc2x,.slice sa2x X2.sys.length sc2x],.int .i64 0]) rfl (by rfl) (fun w hS=>by go_simp) hS ?_
   try simp only [Act.put,zg1,zg2,zg3,zs1,zs2,zs3]
   refine zk 4 (.agg #[.int .i64 X2.kind,.int .i64 X2.n,.string X2.name,.slice ra2x X2.r.length rc2x,.slice ka2x X2.kids.length kc2x,.slice sa2x X2.sys.length sc2x]) rfl (by rfl) (fun w hS=>by go_simp) hS ?_
   try simp only [Act.put,zg1,zg2,zg3,zs1,zs2,zs3]
   refine zk 5 (.int .i64 0) rfl (by rfl) (fun w hS=>by go_simp) hS ?_
   try simp only [Act.put,zg1,zg2,zg3,zs1,zs2,zs3]
   refine zr 7 rfl (fun KK hKK=>?_)
   obtain⟨w914,hwz,zz2,kz,o0,o1,o2,o3,o4,o5,f0,f1,f2,f3,f4,f5⟩:=zst zu10 (.int .i64 X2.kind) (.int .i64 X2.n) (.string X2.name) (.slice ra2x X2.r.length rc2x) (.slice ka2x X2.kids.length kc2x) (.slice sa2x X2.sys.length sc2x)
   have Hwz:Hid (_=_):=hwz
   clear hwz
   have hT2x:TmIn Tt w914 X2 _:=(hT2x.kn kz (fun q h=>by have:=h.1;have:=h.2;show q≠_;omega)).tt
   have hK:Below wA.heap.size wA w914:=hK.trans (kz.below (fun q hq=>by show q≠_;omega) hK.size)
   clear kz
   refine⟨?_⟩
   go_simp
   rw [← Hwz.out]
   refine hKK.out _ _ (hK) (fun hS=>?_)
   clear hKK KK
   try simp only [Act.put,zg1,zg2,zg3,zs1,zs2,zs3]
   refine zk 8 (.int .i64 0) rfl (by rfl) (fun w hS=>by go_simp) hS ?_
   try simp only [Act.put,zg1,zg2,zg3,zs1,zs2,zs3]
   refine wpAnyH_done (by kernel_rfl) ?_ _
   go_wp2_with fail
   go_meet
   refine⟨bk11,ra2x,rc2x,ka2x,kc2x,sa2x,sc2x,rfl,rfl,?_,?_,?_⟩
   ·with_reducible exact zz2
   ·with_reducible exact hT2x
   ·with_reducible exact hK
 case rest =>
 obtain⟨o11,k1,k2,k3,k4,k5,k6,rfl,rfl,n11,hT11,hK11⟩:=hcut
 obtain⟨wB,hw11⟩:∃ V,V=wc:=⟨_,rfl⟩
 subst hw11
 have b1B:Below w1.heap.size w1 wB:=b1A.trans (Below.mono hK11 b1A.size)
 have HXB:Hid (∀ W,Below wB.heap.size wB W→Six W o11 (.int .i64 X2.kind) (.int .i64 X2.n) (.string X2.name) (.slice k1 X2.r.length k2) (.slice k3 X2.kids.length k4) (.slice k5 X2.sys.length k6)∧TmIn Tt W X2 (.agg #[.int .i64 X2.kind,.int .i64 X2.n,.string X2.name,.slice k1 X2.r.length k2,.slice k3 X2.kids.length k4,.slice k5 X2.sys.length k6])):=fun W q=>⟨n11.blw q,hT11.blw q⟩
 clear n11 hT11
 have bAB:Below wA.heap.size wA wB:=hK11
 clear hK10 hK11 b19 b1A b99 b9A
 obtain⟨o8,ho8⟩:∃ q,q=wB.heap.size:=⟨_,rfl⟩
 obtain⟨wc1,hwc1⟩:∃ W,W=wB.alloc (.cells #[.int .i64 t.kind,.int .i64 t.n,.string t.name,.slice ra t.r.length rc,.slice ka t.kids.length kc,.slice sa t.sys.length sc,.int .i64 u.kind,.int .i64 u.n,.string u.name,.slice rb u.r.length rd,.slice kb u.kids.length kd,.slice sb u.sys.length sd] 26):=⟨_,rfl⟩
 have bb1:Below wB.heap.size wB wc1:=by rw [hwc1];exact belowA _ _
 have z8:wc1.heap[o8]? = some (.cells #[.int .i64 t.kind,.int .i64 t.n,.string t.name,.slice ra t.r.length rc,.slice ka t.kids.length kc,.slice sa t.sys.length sc,.int .i64 u.kind,.int .i64 u.n,.string u.name,.slice rb u.r.length rd,.slice kb u.kids.length kd,.slice sb u.sys.length sd] 26 (0,0)):=by rw [hwc1,ho8];exact heapNew _ _
 obtain⟨o9,ho9⟩:∃ q,q=wc1.heap.size:=⟨_,rfl⟩
 obtain⟨wC,hwC⟩:∃ W,W=wc1.alloc (.cells #[.int .i64 15,.int .i64 0,.string ⟨#[]⟩,.slice none 0 0,.slice (some ⟨o8,0,none⟩) 2 2,.slice ar LR cr] 26):=⟨_,rfl⟩
 have bb2:Below wc1.heap.size wc1 wC:=by rw [hwC];exact belowA _ _
 have n9:Six wC o9 (.int .i64 15) (.int .i64 0) (.string ⟨#[]⟩) (.slice none 0 0) (.slice (some ⟨o8,0,none⟩) 2 2) (.slice ar LR cr):=⟨by rw [hwC,ho9];exact heapNew _ _⟩
 have bBC:Below wB.heap.size wB wC:=bchain bb1 bb2
 have b1C:Below w1.heap.size w1 wC:=b1B.trans (bBC.mono b1B.size)
 have bAC:Below wA.heap.size wA wC:=bAB.trans (bBC.mono bAB.size)
 have bc1:Below w1.heap.size w1 wc1:=b1B.trans (bb1.mono b1B.size)
 have kd8:KdT Tt wc1 (TmIn Tt wc1) [t,u] (.slice (some ⟨o8,0,none⟩) 2 2):=kd_two z8 trivial (HT.out _ bc1) (HU.out _ bc1)
 have tmS:TmIn Tt wC (.mk 15 0 ⟨#[]⟩ [] [t,u] l) (.agg #[.int .i64 15,.int .i64 0,.string ⟨#[]⟩,.slice none 0 0,.slice (some ⟨o8,0,none⟩) 2 2,.slice ar LR cr]):=TmIn.mk 15 0 ⟨#[]⟩ [] [t,u] l _ _ _ ⟨by decide,by decide⟩ ⟨by decide,by decide⟩ (cl_nil0 _) (kd8.blw bb2) (HR.out _ b1C)
 have HSm:Hid (∀ W,Below wC.heap.size wC W→Six W o9 (.int .i64 15) (.int .i64 0) (.string ⟨#[]⟩) (.slice none 0 0) (.slice (some ⟨o8,0,none⟩) 2 2) (.slice ar LR cr)∧TmIn Tt W (.mk 15 0 ⟨#[]⟩ [] [t,u] l) (.agg #[.int .i64 15,.int .i64 0,.string ⟨#[]⟩,.slice none 0 0,.slice (some ⟨o8,0,none⟩) 2 2,.slice ar LR cr])):=fun W q=>⟨n9.blw q,tmS.blw q⟩
 obtain⟨Z,hZ⟩:∃ z,z=totF (X2.sys.map Prod.fst):=⟨_,rfl⟩
 have hZ0:0≤Z:=by rw [hZ];exact HE3.out
 have HZ:Hid (Z=totF (X2.sys.map Prod.fst)):=hZ
 have hk2:X2.kids.length=2:=by obtain⟨x,hx⟩:=HE2.out;rw [hx];rfl
 have hku:X2.kids[1]? = some u:=by obtain⟨x,hx⟩:=HE2.out;rw [hx];rfl
 have HSy:Hid (∀ W,Below wC.heap.size wC W→SyT Tt W (TmIn Tt W) X2.sys (.slice k5 X2.sys.length k6)):=fun W q=>tm_s (HXB.out _ (bBC.trans (q.mono bBC.size))).2
 have q1:=tm_k (HXB.out _ bBC).2
 obtain⟨g,off,ru,rv,ku,kv,su,sv',rfl,_,hcs,htp⟩:=q1.at hku
 have HUu:Hid (∀ W,Below wC.heap.size wC W→Cs6 W g (off+1*6) u ru rv ku kv su sv'∧TmIn Tt W u (.agg #[.int .i64 u.kind,.int .i64 u.n,.string u.name,.slice ru u.r.length rv,.slice ku u.kids.length kv,.slice su u.sys.length sv'])):=fun W q=>⟨hcs.blw q,(htp.blw q).value⟩
 rw [hk2] at HXB
 have H8:Hid (_=_):=ho8
 have H9:Hid (o9=o8+1):=(by rw [ho9,hwc1,ho8];simp:o9=o8+1)
 have Hc1:Hid (_=_):=hwc1
 have HwC:Hid (_=_):=hwC
 clear hwc1 hwC ho8 ho9 z8 n9 bb1 bb2 bc1 kd8 tmS hZ hk2 hku q1 hcs htp bAB
 go_upto_region 10 with fail
 obtain⟨y0,y1,y2,y3,y4,y5,_⟩:=(HC.out _ b1B).cells
 obtain⟨z0,z1,z2,z3,z4,z5,_⟩:=(HD.out _ b1B).cells
 go_upto_region 11 with fail
 rw [← Hc1.out]
 simp only [← H8.out]
 rw [← HwC.out]
 simp only [← H9.out]
 clear y0 y1 y2 y3 y4 y5 z0 z1 z2 z3 z4 z5 Hc1 HwC H8 H9
 refine wp_region_held_drew (S:=fun V=>Below wC.heap.size wC V) (by kernel_rfl) ((Below.refl _ _).drew) (fun hS=>?_)
 obtain⟨wd,hwd⟩:∃ V,V=wC.drew:=⟨_,rfl⟩
 have hbd:Below wC.heap.size wC wd:=by rw [hwd];exact (Below.refl _ _).drew
 have hszd:wC.heap.size≤wd.heap.size:=hbd.size
 have hK:Below wC.heap.size wC wC:=Below.refl _ _
 rw [← hwd] at hS ⊢
 clear hwd
 have hK:=hK.trans (hbd.mono hK.size)
 clear hbd
 refine zk 0 (.int .i64 0) rfl (by rfl) (fun w hS=>by go_simp) hS ?_
 try simp only [Act.put,zg1,zg2,zg3,zs1,zs2,zs3]
 refine zk 1 (.bool true) rfl (by rfl) (fun w hS=>by go_simp) hS ?_
 try simp only [Act.put,zg1,zg2,zg3,zs1,zs2,zs3]
 refine zk 2 (.bool true) rfl (by rfl) (fun w hS=>by go_simp) hS ?_
 try simp only [Act.put,zg1,zg2,zg3,zs1,zs2,zs3]
 refine zk 3 (.agg #[.int .i64 X1.kind,.int .i64 X1.n,.string X1.name,.slice x1 X1.r.length x2,.slice x3 X1.kids.length x4,.slice x5 X1.sys.length x6]) rfl (by rfl) (fun w hS=>by obtain⟨y0,y1,y2,y3,y4,y5,_⟩:=(HXA.out _ (bAC.trans (Below.mono hS bAC.size))).1.cells;go_simp) hS ?_
 try simp only [Act.put,zg1,zg2,zg3,zs1,zs2,zs3]
 refine zk 4 (.agg #[.int .i64 15,.int .i64 0,.string ⟨#[]⟩,.slice none 0 0,.slice (some ⟨o8,0,none⟩) 2 2,.slice ar LR cr]) rfl (by rfl) (fun w hS=>by obtain⟨y0,y1,y2,y3,y4,y5,_⟩:=(HSm.out _ hS).1.cells;go_simp) hS ?_
 try simp only [Act.put,zg1,zg2,zg3,zs1,zs2,zs3]
 refine zr 5 rfl (fun KK hKK=>?_)
 refine⟨?_⟩
 have cc:=rsame_any _ X1 (.mk 15 0 ⟨#[]⟩ [] [t,u] l) true _ _ wd (HXA.out _ (bAC.trans (hK.mono bAC.size))).2 (HSm.out _ hK).2 (Nat.le_refl _) (by rw [HE1.out];have h1:=HG.out.1;have h2:=HG.out.2.1;have h3:=HG.out.2.2;rw [ts_eq] at h3;rw [blk_eq];show 1+0+0+blkL [t,u] + blkS l≤_;have h4:blkL [t,u]=blk t+blk u:=(by simp [blkL]);omega) ⟨fun _=>HE1.out,fun _=>rfl⟩
 go_simp
 refine cc.mono ?_
 rintro e u1 ⟨rfl,hk⟩
 have hszu1:=hk.size
 have hK:=hK.trans (hk.mono hK.size)
 clear cc
 refine hKK.out _ _ (hK) (fun hS=>?_)
 clear hKK KK
 try simp only [Act.put,zg1,zg2,zg3,zs1,zs2,zs3]
 clear hk
 refine zk 6 (.bool true) rfl (by rfl) (fun w hS=>by go_simp) hS ?_
 try simp only [Act.put,zg1,zg2,zg3,zs1,zs2,zs3]
 refine zk 7 (.bool true) rfl (by rfl) (fun w hS=>by go_simp) hS ?_
 try simp only [Act.put,zg1,zg2,zg3,zs1,zs2,zs3]
 refine zk 8 (.int .i64 0) rfl (by rfl) (fun w hS=>by go_simp) hS ?_
 try simp only [Act.put,zg1,zg2,zg3,zs1,zs2,zs3]
 refine zk 9 (.bool true) rfl (by rfl) (fun w hS=>by go_simp) hS ?_
 try simp only [Act.put,zg1,zg2,zg3,zs1,zs2,zs3]
 refine zk 10 (.bool true) rfl (by rfl) (fun w hS=>by go_simp) hS ?_
 try simp only [Act.put,zg1,zg2,zg3,zs1,zs2,zs3]
 refine zk 11 (.bool true) rfl (by rfl) (fun w hS=>by go_simp) hS ?_
 try simp only [Act.put,zg1,zg2,zg3,zs1,zs2,zs3]
 refine zk 12 (.pointer (some ⟨o11,5,none⟩)) rfl (by rfl) (fun w hS=>by go_simp) hS ?_
 try simp only [Act.put,zg1,zg2,zg3,zs1,zs2,zs3]
 refine zk 13 (.slice k5 X2.sys.length k6) rfl (by rfl) (fun w hS=>by obtain⟨y0,y1,y2,y3,y4,y5,_⟩:=(HXB.out _ (bBC.trans (Below.mono hS bBC.size))).1.cells;go_simp) hS ?_
 try simp only [Act.put,zg1,zg2,zg3,zs1,zs2,zs3]
 refine zr 14 rfl (fun KK hKK=>?_)
 refine⟨?_⟩
 have cc:=total_any X2.sys _ u1 (HSy.out _ hK) HLs.out
 rw [← HZ.out] at cc
 go_simp
 refine cc.mono ?_
 rintro e u2 ⟨rfl,hk⟩
 have hszu2:=hk.size
 have hK:=hK.trans (hk.mono hK.size)
 clear cc
 refine hKK.out _ _ (hK) (fun hS=>?_)
 clear hKK KK
 try simp only [Act.put,zg1,zg2,zg3,zs1,zs2,zs3]
 clear hk
 refine zk 15 (.bool true) rfl (by rfl) (fun w hS=>by have hq1:=hZ0;have hq2:decide (0≤Z)=true:=decide_eq_true hZ0;go_simp) hS ?_
 try simp only [Act.put,zg1,zg2,zg3,zs1,zs2,zs3]
 refine zk 16 (.bool true) rfl (by rfl) (fun w hS=>by go_simp) hS ?_
 try simp only [Act.put,zg1,zg2,zg3,zs1,zs2,zs3]
 refine zk 17 (.bool true) rfl (by rfl) (fun w hS=>by go_simp) hS ?_
 try simp only [Act.put,zg1,zg2,zg3,zs1,zs2,zs3]
 refine zk 18 (.pointer (some ⟨o11,4,none⟩)) rfl (by rfl) (fun w hS=>by go_simp) hS ?_
 try simp only [Act.put,zg1,zg2,zg3,zs1,zs2,zs3]
 refine zk 19 (.slice (some ⟨g,off,none⟩) 2 k4) rfl (by rfl) (fun w hS=>by obtain⟨y0,y1,y2,y3,y4,y5,_⟩:=(HXB.out _ (bBC.trans (Below.mono hS bBC.size))).1.cells;go_simp) hS ?_
 try simp only [Act.put,zg1,zg2,zg3,zs1,zs2,zs3]
 refine zk 20 (.int .i64 2) rfl (by rfl) (fun w hS=>by go_simp) hS ?_
 try simp only [Act.put,zg1,zg2,zg3,zs1,zs2,zs3]
 refine zk 21 (.bool true) rfl (by rfl) (fun w hS=>by go_simp) hS ?_
 try simp only [Act.put,zg1,zg2,zg3,zs1,zs2,zs3]
 refine zk 22 (.bool true) rfl (by rfl) (fun w hS=>by go_simp) hS ?_
 try simp only [Act.put,zg1,zg2,zg3,zs1,zs2,zs3]
 refine zk 23 (.bool true) rfl (by rfl) (fun w hS=>by go_simp) hS ?_
 try simp only [Act.put,zg1,zg2,zg3,zs1,zs2,zs3]
 refine zk 24 (.pointer (some ⟨o11,4,none⟩)) rfl (by rfl) (fun w hS=>by go_simp) hS ?_
 try simp only [Act.put,zg1,zg2,zg3,zs1,zs2,zs3]
 refine zk 25 (.slice (some ⟨g,off,none⟩) 2 k4) rfl (by rfl) (fun w hS=>by obtain⟨y0,y1,y2,y3,y4,y5,_⟩:=(HXB.out _ (bBC.trans (Below.mono hS bBC.size))).1.cells;go_simp) hS ?_
 try simp only [Act.put,zg1,zg2,zg3,zs1,zs2,zs3]
 refine zk 26 (.pointer (some ⟨g,off+6,none⟩)) rfl (by rfl) (fun w hS=>by go_simp) hS ?_
 try simp only [Act.put,zg1,zg2,zg3,zs1,zs2,zs3]
 refine zk 27 (.agg #[.int .i64 u.kind,.int .i64 u.n,.string u.name,.slice ru u.r.length rv,.slice ku u.kids.length kv,.slice su u.sys.length sv']) rfl (by rfl) (fun w hS=>by have cs:=(HUu.out _ hS).1;have y0:=cs.c0;have y1:=cs.c1;have y2:=cs.c2;have y3:=cs.c3;have y4:=cs.c4;have y5:=cs.c5;try simp only [Nat.one_mul,Nat.add_assoc,Nat.reduceAdd] at y0 y1 y2 y3 y4 y5;go_simp) hS ?_
 try simp only [Act.put,zg1,zg2,zg3,zs1,zs2,zs3]
 refine zk 28 (.agg #[.int .i64 u.kind,.int .i64 u.n,.string u.name,.slice rb u.r.length rd,.slice kb u.kids.length kd,.slice sb u.sys.length sd]) rfl (by rfl) (fun w hS=>by obtain⟨y0,y1,y2,y3,y4,y5,_⟩:=(HD.out _ (b1C.trans (Below.mono hS b1C.size))).cells;go_simp) hS ?_
 try simp only [Act.put,zg1,zg2,zg3,zs1,zs2,zs3]
 refine zr 29 rfl (fun KK hKK=>?_)
 refine⟨?_⟩
 have cc:=rsame_any _ u u true _ _ u2 (HUu.out _ hK).2 (HU.out _ (b1C.trans (hK.mono b1C.size))) (Nat.le_refl _) (by have h2:=HG.out.2.1;omega) ⟨fun _=>rfl,fun _=>rfl⟩
 go_simp
 refine cc.mono ?_
 rintro e u3 ⟨rfl,hk⟩
 have hszu3:=hk.size
 have hK:=hK.trans (hk.mono hK.size)
 clear cc
 refine hKK.out _ _ (hK) (fun hS=>?_)
 clear hKK KK
 try simp only [Act.put,zg1,zg2,zg3,zs1,zs2,zs3]
 clear hk
 refine zk 30 (.bool true) rfl (by rfl) (fun w hS=>by go_simp) hS ?_
 try simp only [Act.put,zg1,zg2,zg3,zs1,zs2,zs3]
 refine zk 31 (.bool true) rfl (by rfl) (fun w hS=>by go_simp) hS ?_
 try simp only [Act.put,zg1,zg2,zg3,zs1,zs2,zs3]
 refine wpAnyH_done (by kernel_rfl) ?_ _
 have hF:=HB.out _ (b1C.trans (hK.mono b1C.size))
 go_wp2_with fail
 go_ret
 exact⟨rfl,hF⟩
end Go.Proofs.YtmblbmdchinflaaGreat
