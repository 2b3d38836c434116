/- What an application of a function of one variable becomes, and a pair's parts. -/
import Derived.Test.YtmblbmdchinflaaGreatBYBtE
import Derived.Test.YtmblbmdchinflaaGreatBG36
set_option linter.unusedVariables false
set_option linter.unusedSimpArgs false
namespace Go.Proofs.YtmblbmdchinflaaGreat
open Go.RowKit
set_option maxRecDepth 100000 in
set_option maxHeartbeats 16000000 in
theorem walk_BetaPlugs (t:Tm) (v0:Value) (u:Tm) (v1:Value) (w:World) (hv0:TmIn Tt w t v0) (hv1:TmIn Tt w u v1) :
  Calls Tryz.prog 5 #[v0,v1] w fun e w'=>e=.returned (.bool true)∧Below w.heap.size w w':=by
 have hLA:LAll:=fun s hs N=>lf_any hs N
 obtain⟨ra,rc,ka,kc,sa,sc,rfl,ht⟩:=hv0.form
 obtain⟨rb,rd,kb,kd,sb,sd,rfl,htu⟩:=hv1.form
 obtain⟨wa,hwa⟩:∃ W,W=w.alloc (.cells #[.int .i64 t.kind,.int .i64 t.n,.string t.name,.slice ra t.r.length rc,.slice ka t.kids.length kc,.slice sa t.sys.length sc] 26):=⟨_,rfl⟩
 have ba:Below w.heap.size w wa:=by rw [hwa];exact belowA _ _
 obtain⟨w1,hw1⟩:∃ W,W=wa.alloc (.cells #[.int .i64 u.kind,.int .i64 u.n,.string u.name,.slice rb u.r.length rd,.slice kb u.kids.length kd,.slice sb u.sys.length sd] 26):=⟨_,rfl⟩
 have ba1:Below wa.heap.size wa w1:=by rw [hw1];exact belowA _ _
 have b1:Below w.heap.size w w1:=bchain ba ba1
 obtain⟨X,hX⟩:∃ X,X=w.heap.size:=⟨_,rfl⟩
 have hX1:X+1=wa.heap.size:=by rw [hwa,hX];simp
 have n0:Six wa X (.int .i64 t.kind) (.int .i64 t.n) (.string t.name) (.slice ra t.r.length rc) (.slice ka t.kids.length kc) (.slice sa t.sys.length sc):=⟨by rw [hwa,hX];exact heapNew _ _⟩
 have n1:Six w1 (X+1) (.int .i64 u.kind) (.int .i64 u.n) (.string u.name) (.slice rb u.r.length rd) (.slice kb u.kids.length kd) (.slice sb u.sys.length sd):=⟨by rw [hw1,hX1];exact heapNew _ _⟩
 have HC:Hid (∀ W,Below w1.heap.size w1 W→Six W X (.int .i64 t.kind) (.int .i64 t.n) (.string t.name) (.slice ra t.r.length rc) (.slice ka t.kids.length kc) (.slice sa t.sys.length sc)):=fun W q=>(n0.blw ba1).blw q
 have HD:Hid (∀ W,Below w1.heap.size w1 W→Six W (X+1) (.int .i64 u.kind) (.int .i64 u.n) (.string u.name) (.slice rb u.r.length rd) (.slice kb u.kids.length kd) (.slice sb u.sys.length sd)):=fun W q=>n1.blw q
 have HT:Hid (∀ W,Below w1.heap.size w1 W→TmIn Tt W t (.agg #[.int .i64 t.kind,.int .i64 t.n,.string t.name,.slice ra t.r.length rc,.slice ka t.kids.length kc,.slice sa t.sys.length sc])):=fun W q=>((ht.blw b1).blw q).value
 have HU:Hid (∀ W,Below w1.heap.size w1 W→TmIn Tt W u (.agg #[.int .i64 u.kind,.int .i64 u.n,.string u.name,.slice rb u.r.length rd,.slice kb u.kids.length kd,.slice sb u.sys.length sd])):=fun W q=>((htu.blw b1).blw q).value
 have HB:Hid (∀ W,Below w1.heap.size w1 W→Below X w W):=fun W q=>by rw [hX];exact bchain b1 q
 have HXx:Hid (X=w.heap.size∧X+1=wa.heap.size):=⟨hX,hX1⟩
 have Hwa:Hid (_=_):=hwa
 have HW:Hid (_=_):=hw1
 rw [← hX]
 clear hwa hw1 hX hX1 n0 n1 ht htu hv0 hv1 b1 ba ba1
 go_enter Tryz.func5,Tryz.ntmps5
 go_upto_region 1 with fail
 rw [← Hwa.out]
 simp only [← HXx.out.1,← HXx.out.2]
 rw [← HW.out]
 clear HW Hwa
 have cw:=works16_any w1
 go_wp2_with fail
 refine cw.mono ?_
 rintro e w2 ⟨rfl,b2⟩
 clear cw
 have cg:=great16_any t _ w2 (HT.out w2 b2)
 obtain⟨y0,y1,y2,y3,y4,y5,_⟩:=(HC.out w2 b2).cells
 go_wp2_with fail
 refine cg.mono ?_
 rintro e w3 ⟨rfl,b3⟩
 clear cg y0 y1 y2 y3 y4 y5
 have b13:Below w1.heap.size w1 w3:=b2.trans (b3.mono b2.size)
 clear b2 b3
 by_cases hg:200<blk t
 ·rw [decide_eq_true hg]
  have hF:=HB.out w3 b13
  go_wp2_with fail
  go_ret
  exact⟨rfl,hF⟩
 rw [decide_eq_false hg]
 have HG1:Hid (blk t≤200):=Nat.le_of_not_lt hg
 clear hg
 have cg:=great16_any u _ w3 (HU.out w3 b13)
 obtain⟨y0,y1,y2,y3,y4,y5,_⟩:=(HD.out w3 b13).cells
 go_wp2_with fail
 refine cg.mono ?_
 rintro e w4 ⟨rfl,b4⟩
 clear cg y0 y1 y2 y3 y4 y5
 have b14:Below w1.heap.size w1 w4:=b13.trans (b4.mono b13.size)
 clear b13 b4
 by_cases hg:200<blk u
 ·rw [decide_eq_true hg]
  have hF:=HB.out w4 b14
  go_wp2_with fail
  go_ret
  exact⟨rfl,hF⟩
 rw [decide_eq_false hg]
 have HG2:Hid (blk u≤200):=Nat.le_of_not_lt hg
 clear hg
 have cf:=formed_any t _ w4 (HT.out w4 b14) (by have:=HG1.out;omega)
 obtain⟨ft,hft⟩:∃ n,n=wrongN true 0 0 t:=⟨_,rfl⟩
 rw [← hft] at cf
 have Hft:Hid (ft=wrongN true 0 0 t):=hft
 clear hft
 obtain⟨y0,y1,y2,y3,y4,y5,_⟩:=(HC.out w4 b14).cells
 go_wp2_with fail
 refine cf.mono ?_
 rintro e w5 ⟨rfl,bq⟩
 clear cf y0 y1 y2 y3 y4 y5
 have b15:Below w1.heap.size w1 w5:=b14.trans (bq.mono b14.size)
 clear b14 bq
 by_cases hz:ft=0
 rotate_left
 ·have hz1:(((ft:Nat):Int) == 0)=false:=by simpa using hz
  have hF:=HB.out w5 b15
  go_wp2_with fail
  go_ret
  exact⟨rfl,hF⟩
 subst hz
 have Hftz:Hid (wrongN true 0 0 t=0):=Hft.out.symm
 clear Hft
 have cf:=formed_any u _ w5 (HU.out w5 b15) (by have:=HG2.out;omega)
 obtain⟨fu,hfu⟩:∃ n,n=wrongN true 0 0 u:=⟨_,rfl⟩
 rw [← hfu] at cf
 have Hfu:Hid (fu=wrongN true 0 0 u):=hfu
 clear hfu
 obtain⟨y0,y1,y2,y3,y4,y5,_⟩:=(HD.out w5 b15).cells
 go_wp2_with fail
 refine cf.mono ?_
 rintro e w6 ⟨rfl,bq⟩
 clear cf y0 y1 y2 y3 y4 y5
 have b16:Below w1.heap.size w1 w6:=b15.trans (bq.mono b15.size)
 clear b15 bq
 by_cases hz:fu=0
 rotate_left
 ·have hz1:(((fu:Nat):Int) == 0)=false:=by simpa using hz
  have hF:=HB.out w6 b16
  go_wp2_with fail
  go_ret
  exact⟨rfl,hF⟩
 subst hz
 have Hfuz:Hid (wrongN true 0 0 u=0):=Hfu.out.symm
 clear Hfu
 obtain⟨PE,hPE⟩:∃ x,x=plE 0 t u:=⟨_,rfl⟩
 obtain⟨PT,hPT⟩:∃ x,x=plT 0 t u:=⟨_,rfl⟩
 obtain⟨SB,hSB⟩:∃ x,x=stB 1 (plE 0 t u) (mkT 6 [mkT 5 [t],u]) (plT 0 t u):=⟨_,rfl⟩
 obtain⟨SE,hSE⟩:∃ x,x=stE 1 (plE 0 t u) (mkT 6 [mkT 5 [t],u]) (plT 0 t u):=⟨_,rfl⟩
 obtain⟨ST,hST⟩:∃ x,x=stT 1 (plE 0 t u) (mkT 6 [mkT 5 [t],u]) (plT 0 t u):=⟨_,rfl⟩
 have HS:Hid ((PE≠0→SB=false)∧(SE=0→PE=0→SB=true∧ST=PT)):=by
  rw [hPE,hSB,hSE,hST,hPT]
  refine⟨fun h=>(st_bad fun q=>h q.2.2.1).1,fun h1 h2=>?_⟩
  have q:wrongN true 0 0 (mkT 6 [mkT 5 [t],u])=0∧(1:Int)≠0∧plE 0 t u=0∧wrongN true 0 0 (plT 0 t u)=0:=by
   unfold stE at h1
   by_cases a1:wrongN true 0 0 (mkT 6 [mkT 5 [t],u])=0
   ·rw [if_pos a1,if_neg (by decide),if_pos h2] at h1
    exact⟨a1,by decide,h2,by omega⟩
   ·rw [if_neg a1] at h1
    omega
  exact⟨(st_ok q).1,(st_ok q).2.1⟩
 have HPb:Hid (blk PT≤50000):=by
  rw [hPT]
  by_cases q:plE 0 t u=0
  ·exact (bt_pl HG1.out HG2.out q).1
  ·unfold plT;rw [if_neg q,zero_t.1];show (1:Nat)≤50000;decide
 have cS:Hid (∀ V v,TmIn Tt V (mkT 6 [mkT 5 [t],u]) v→Calls Tryz.prog 22 #[v] V fun e w'=>∃ v',e=.returned (.tuple #[v',.bool SB,.int .i64 SE])∧TmIn (fun q=>V.heap.size≤q∧q<w'.heap.size) w' ST v'∧Below V.heap.size V w'):=fun V v h=>by
  rw [hSB,hSE,hST]
  refine (st_app hLA t u v V h HG1.out HG2.out).mono ?_
  rintro e w' ⟨v',q1,q2,q3⟩
  exact⟨v',q1,q2.lt' fun q z1 z2=>⟨z1,z2⟩,q3⟩
 have cP:Hid (∀ V v v',TmIn Tt V t v→TmIn Tt V u v'→Calls Tryz.prog 24 #[v,.int .i64 0,v'] V fun e w'=>∃ v',e=.returned (.tuple #[v',.int .i64 PE])∧TmIn (fun q=>V.heap.size≤q) w' PT v'∧Below V.heap.size V w'):=fun V v v' h h'=>by
  rw [hPE,hPT]
  exact plat_any hLA t u 0 ⟨by decide,by decide⟩ v v' V h h' (by have:=HG1.out;omega) (by have:=HG2.out;omega) (fun _ _ _=>by have:=bt_put HG1.out HG2.out;omega)
 clear hPE hPT hSB hSE hST
 go_upto_region 5 with fail
 go_cut [5,6,7] (fun s1 s2 s3 wx=>∃ o x1 x2 x3 x4 x5 x6,s1=.pointer (some ⟨o,0,none⟩)∧s2=.bool SB∧s3=.int .i64 SE∧Six wx o (.int .i64 ST.kind) (.int .i64 ST.n) (.string ST.name) (.slice x1 ST.r.length x2) (.slice x3 ST.kids.length x4) (.slice x5 ST.sys.length x6)∧TmIn Tt wx ST (.agg #[.int .i64 ST.kind,.int .i64 ST.n,.string ST.name,.slice x1 ST.r.length x2,.slice x3 ST.kids.length x4,.slice x5 ST.sys.length x6])∧Below w6.heap.size w6 wx)
 case first =>
  refine wp_region_held_drew (S:=fun V=>Below w6.heap.size w6 V) (by kernel_rfl) ((Below.refl _ _).drew) (fun hS=>?_)
  obtain⟨wd,hwd⟩:∃ V,V=w6.drew:=⟨_,rfl⟩
  have hbd:Below w6.heap.size w6 wd:=by rw [hwd];exact (Below.refl _ _).drew
  have hszd:w6.heap.size≤wd.heap.size:=hbd.size
  have hK:Below w6.heap.size w6 w6:=Below.refl _ _
  rw [← hwd] at hS ⊢
  clear hwd
  have hK:=hK.trans (hbd.mono hK.size)
  clear hbd
  refine wpAnyH_take (i:=0) (v:=.agg #[.int .i64 t.kind,.int .i64 t.n,.string t.name,.slice ra t.r.length rc,.slice ka t.kids.length kc,.slice sa t.sys.length sc]) rfl (by kernel_rfl) (by kernel_rfl) (by kernel_rfl) (fun _ _ _ h=>h) (Or.inl ⟨by rfl,fun w hS=>by obtain⟨y0,y1,y2,y3,y4,y5,_⟩:=(HC.out _ (b16.trans (Below.mono hS b16.size))).cells;go_simp⟩) hS ?_
  try simp only [Act.put,List.getElem_toArray,List.getElem_cons_zero,List.getElem_cons_succ,List.setIfInBounds_toArray,List.set_cons_zero,List.set_cons_succ]
  refine wpAnyH_take (i:=3) (v:=.agg #[.int .i64 u.kind,.int .i64 u.n,.string u.name,.slice rb u.r.length rd,.slice kb u.kids.length kd,.slice sb u.sys.length sd]) rfl (by kernel_rfl) (by kernel_rfl) (by kernel_rfl) (fun _ _ _ h=>h) (Or.inl ⟨by rfl,fun w hS=>by obtain⟨y0,y1,y2,y3,y4,y5,_⟩:=(HD.out _ (b16.trans (Below.mono hS b16.size))).cells;go_simp⟩) hS ?_
  try simp only [Act.put,List.getElem_toArray,List.getElem_cons_zero,List.getElem_cons_succ,List.setIfInBounds_toArray,List.set_cons_zero,List.set_cons_succ]
  refine wpAnyH_ready (rs:=[1,11]) (by kernel_rfl) (by simp) ?_
  refine ready_cons rfl (fun KK hKK=>?_) (ready_cons rfl (fun KK hKK=>?_) AllReadyH.nil)
  ·skip
   obtain⟨bk2,hbk2⟩:∃ q,q=wd.heap.size:=⟨_,rfl⟩
   obtain⟨u1,hu1⟩:∃ W,W=wd.alloc (.cells #[.int .i64 t.kind,.int .i64 t.n,.string t.name,.slice ra t.r.length rc,.slice ka t.kids.length kc,.slice sa t.sys.length sc] 26):=⟨_,rfl⟩
   have bu1:Below wd.heap.size wd u1:=by rw [hu1];exact belowA _ _
   have zu1:u1.heap[bk2]? = some (.cells #[.int .i64 t.kind,.int .i64 t.n,.string t.name,.slice ra t.r.length rc,.slice ka t.kids.length kc,.slice sa t.sys.length sc] 26 (0,0)):=by rw [hu1,hbk2];exact heapNew _ _
   have hk:=bu1
   have hszu1:=hk.size
   have hK:=hK.trans (hk.mono hK.size)
   have kdS:KdT Tt u1 (TmIn Tt u1) [t] (.slice (some ⟨bk2,0,none⟩) 1 1):=kd_one zu1 trivial (HT.out _ (b16.trans (hK.mono b16.size)))
   have Hu1:Hid (_=_):=hu1
   have Kbk2:Hid (_=_):=hbk2
   clear hu1 hbk2 zu1
   refine⟨?_⟩
   go_simp
   rw [← Hu1.out]
   try simp only [← Kbk2.out]
   refine hKK.out _ _ (hK) (fun hS=>?_)
   clear hKK KK
   try simp only [Act.put,List.getElem_toArray,List.getElem_cons_zero,List.getElem_cons_succ,List.setIfInBounds_toArray,List.set_cons_zero,List.set_cons_succ]
   clear hk Hu1
   refine wpAnyH_ready (rs:=[2,11]) (by kernel_rfl) (by simp) ?_
   refine ready_cons rfl (fun KK hKK=>?_) (ready_cons rfl (fun KK hKK=>?_) AllReadyH.nil)
   ·skip
    refine⟨?_⟩
    have cc:=of16_any 5 (some ⟨bk2,0,none⟩) 1 1 u1
    go_simp
    refine cc.mono ?_
    rintro e u3 ⟨rfl,hk⟩
    have hszu3:=hk.size
    clear cc
    have hK:=hK.trans (hk.mono hK.size)
    have kdS:=kdS.blw hk
    have tmS:=mk_in (k:=5) ⟨by decide,by decide⟩ kdS
    clear kdS
    refine hKK.out _ _ (hK) (fun hS=>?_)
    clear hKK KK
    try simp only [Act.put,List.getElem_toArray,List.getElem_cons_zero,List.getElem_cons_succ,List.setIfInBounds_toArray,List.set_cons_zero,List.set_cons_succ]
    clear hk
    refine wpAnyH_ready (rs:=[4,11]) (by kernel_rfl) (by simp) ?_
    refine ready_cons rfl (fun KK hKK=>?_) (ready_cons rfl (fun KK hKK=>?_) AllReadyH.nil)
    ·skip
     obtain⟨bk5,hbk5⟩:∃ q,q=u3.heap.size:=⟨_,rfl⟩
     obtain⟨u4,hu4⟩:∃ W,W=u3.alloc (.cells #[.int .i64 5,.int .i64 0,.string ⟨#[]⟩,.slice none 0 0,.slice (some ⟨bk2,0,none⟩) 1 1,.slice none 0 0,.int .i64 u.kind,.int .i64 u.n,.string u.name,.slice rb u.r.length rd,.slice kb u.kids.length kd,.slice sb u.sys.length sd] 26):=⟨_,rfl⟩
     have bu4:Below u3.heap.size u3 u4:=by rw [hu4];exact belowA _ _
     have zu4:u4.heap[bk5]? = some (.cells #[.int .i64 5,.int .i64 0,.string ⟨#[]⟩,.slice none 0 0,.slice (some ⟨bk2,0,none⟩) 1 1,.slice none 0 0,.int .i64 u.kind,.int .i64 u.n,.string u.name,.slice rb u.r.length rd,.slice kb u.kids.length kd,.slice sb u.sys.length sd] 26 (0,0)):=by rw [hu4,hbk5];exact heapNew _ _
     have hk:=bu4
     have hszu4:=hk.size
     have hK:=hK.trans (hk.mono hK.size)
     have tmS:=tmS.blw hk
     have kdS:KdT Tt u4 (TmIn Tt u4) [mkT 5 [t],u] (.slice (some ⟨bk5,0,none⟩) 2 2):=kd_two zu4 trivial tmS (HU.out _ (b16.trans (hK.mono b16.size)))
     clear tmS
     have Hu4:Hid (_=_):=hu4
     have Kbk5:Hid (_=_):=hbk5
     clear hu4 hbk5 zu4
     refine⟨?_⟩
     go_simp
     rw [← Hu4.out]
     try simp only [← Kbk5.out]
     refine hKK.out _ _ (hK) (fun hS=>?_)
     clear hKK KK
     try simp only [Act.put,List.getElem_toArray,List.getElem_cons_zero,List.getElem_cons_succ,List.setIfInBounds_toArray,List.set_cons_zero,List.set_cons_succ]
     clear hk Hu4
     refine wpAnyH_ready (rs:=[5,11]) (by kernel_rfl) (by simp) ?_
     refine ready_cons rfl (fun KK hKK=>?_) (ready_cons rfl (fun KK hKK=>?_) AllReadyH.nil)
     ·skip
      refine⟨?_⟩
      have cc:=of16_any 6 (some ⟨bk5,0,none⟩) 2 2 u4
      go_simp
      refine cc.mono ?_
      rintro e u6 ⟨rfl,hk⟩
      have hszu6:=hk.size
      clear cc
      have hK:=hK.trans (hk.mono hK.size)
      have kdS:=kdS.blw hk
      have tmS:=mk_in (k:=6) ⟨by decide,by decide⟩ kdS
      clear kdS
      refine hKK.out _ _ (hK) (fun hS=>?_)
      clear hKK KK
      try simp only [Act.put,List.getElem_toArray,List.getElem_cons_zero,List.getElem_cons_succ,List.setIfInBounds_toArray,List.set_cons_zero,List.set_cons_succ]
      clear hk
      refine wpAnyH_ready (rs:=[6,11]) (by kernel_rfl) (by simp) ?_
      refine ready_cons rfl (fun KK hKK=>?_) (ready_cons rfl (fun KK hKK=>?_) AllReadyH.nil)
      ·skip
       refine⟨?_⟩
       have cc:=cS.out u6 _ tmS
       go_simp
       refine cc.mono ?_
       rintro e u7 ⟨vu7,rfl,hvu7,hk⟩
       obtain⟨ra9x,rc9x,ka9x,kc9x,sa9x,sc9x,rfl,ht9x⟩:=hvu7.form
       have hT9:TmIn (fun q=>u6.heap.size≤q∧q<u7.heap.size) u7 ST _:=(ht9x.value).up (fun q h=>h)
       have hszu7:=hk.size
       have hK:=hK.trans (hk.mono hK.size)
       clear cc hvu7 ht9x tmS
       refine hKK.out _ _ (hK) (fun hS=>?_)
       clear hKK KK
       try simp only [Act.put,List.getElem_toArray,List.getElem_cons_zero,List.getElem_cons_succ,List.setIfInBounds_toArray,List.set_cons_zero,List.set_cons_succ]
       clear hk
       refine wpAnyH_take (i:=7) (v:=.tuple #[.agg #[.int .i64 ST.kind,.int .i64 ST.n,.string ST.name,.slice ra9x ST.r.length rc9x,.slice ka9x ST.kids.length kc9x,.slice sa9x ST.sys.length sc9x],.bool SB,.int .i64 SE]) rfl (by kernel_rfl) (by kernel_rfl) (by kernel_rfl) (fun _ _ _ h=>h) (Or.inl ⟨by rfl,fun w hS=>by go_simp⟩) hS ?_
       try simp only [Act.put,List.getElem_toArray,List.getElem_cons_zero,List.getElem_cons_succ,List.setIfInBounds_toArray,List.set_cons_zero,List.set_cons_succ]
       refine wpAnyH_take (i:=8) (v:=.agg #[.int .i64 ST.kind,.int .i64 ST.n,.string ST.name,.slice ra9x ST.r.length rc9x,.slice ka9x ST.kids.length kc9x,.slice sa9x ST.sys.length sc9x]) rfl (by kernel_rfl) (by kernel_rfl) (by kernel_rfl) (fun _ _ _ h=>h) (Or.inl ⟨by rfl,fun w hS=>by go_simp⟩) hS ?_
       try simp only [Act.put,List.getElem_toArray,List.getElem_cons_zero,List.getElem_cons_succ,List.setIfInBounds_toArray,List.set_cons_zero,List.set_cons_succ]
       refine wpAnyH_take (i:=9) (v:=.bool SB) rfl (by kernel_rfl) (by kernel_rfl) (by kernel_rfl) (fun _ _ _ h=>h) (Or.inl ⟨by rfl,fun w hS=>by go_simp⟩) hS ?_
       try simp only [Act.put,List.getElem_toArray,List.getElem_cons_zero,List.getElem_cons_succ,List.setIfInBounds_toArray,List.set_cons_zero,List.set_cons_succ]
       refine wpAnyH_take (i:=10) (v:=.int .i64 SE) rfl (by kernel_rfl) (by kernel_rfl) (by kernel_rfl) (fun _ _ _ h=>h) (Or.inl ⟨by rfl,fun w hS=>by go_simp⟩) hS ?_
       try simp only [Act.put,List.getElem_toArray,List.getElem_cons_zero,List.getElem_cons_succ,List.setIfInBounds_toArray,List.set_cons_zero,List.set_cons_succ]
       refine wpAnyH_ready (rs:=[11]) (by kernel_rfl) (by simp) ?_
       refine ready_cons rfl (fun KK hKK=>?_) AllReadyH.nil
       obtain⟨bk9,hbk9⟩:∃ q,q=u7.heap.size:=⟨_,rfl⟩
       obtain⟨u8,hu8⟩:∃ W,W=u7.alloc (.cells #[.int .i64 0,.int .i64 0,.string ⟨#[]⟩,.slice none 0 0,.slice none 0 0,.slice none 0 0] 26):=⟨_,rfl⟩
       have bu8:Below u7.heap.size u7 u8:=by rw [hu8];exact belowA _ _
       have su8:bk9<u8.heap.size∧u8.heap.size≤bk9+1:=by rw [hu8,hbk9];simp
       have lebk9:u7.heap.size≤bk9:=by omega
       have gbk9:w6.heap.size≤bk9:=by rw [hbk9];exact hK.size
       have zu8:Six u8 bk9 (.int .i64 0) (.int .i64 0) (.string ⟨#[]⟩) (.slice none 0 0) (.slice none 0 0) (.slice none 0 0):=⟨by rw [hu8,hbk9];exact heapNew _ _⟩
       have hk:=bu8
       have hK:=hK.trans (hk.mono hK.size)
       have hT9:=hT9.blw hk
       have Hu8:Hid (_=_):=hu8
       have Kbk9:Hid (_=_):=hbk9
       clear hu8 hbk9
       refine⟨?_⟩
       go_simp
       rw [← Hu8.out]
       try simp only [← Kbk9.out]
       refine hKK.out _ _ (hK) (fun hS=>?_)
       clear hKK KK
       try simp only [Act.put,List.getElem_toArray,List.getElem_cons_zero,List.getElem_cons_succ,List.setIfInBounds_toArray,List.set_cons_zero,List.set_cons_succ]
       clear hk Hu8
       refine wpAnyH_ready (rs:=[12]) (by kernel_rfl) (by simp) ?_
       refine ready_cons rfl (fun KK hKK=>?_) AllReadyH.nil
       have zz2:=zu8.set6 (.int .i64 ST.kind) (.int .i64 ST.n) (.string ST.name) (.slice ra9x ST.r.length rc9x) (.slice ka9x ST.kids.length kc9x) (.slice sa9x ST.sys.length sc9x)
       obtain⟨o0,o1,o2,o3,o4,o5,ff⟩:=zu8.cells
       have f0:=ff 0
       have f1:=ff 1
       have f2:=ff 2
       have f3:=ff 3
       have f4:=ff 4
       have f5:=ff 5
       obtain⟨w910,hwz⟩:∃ W,W=(((((u8.setCell ⟨bk9,0,none⟩ (.int .i64 ST.kind)).setCell ⟨bk9,1,none⟩ (.int .i64 ST.n)).setCell ⟨bk9,2,none⟩ (.string ST.name)).setCell ⟨bk9,3,none⟩ (.slice ra9x ST.r.length rc9x)).setCell ⟨bk9,4,none⟩ (.slice ka9x ST.kids.length kc9x)).setCell ⟨bk9,5,none⟩ (.slice sa9x ST.sys.length sc9x):=⟨_,rfl⟩
       rw [← hwz] at zz2
       have kz:Kn (fun q=>q≠bk9) u8 w910:=by rw [hwz];exact kn_set66 _ _ _ _ _ _ _ _
       have Hwz:Hid (_=_):=hwz
       clear hwz ff
       have hT9:TmIn Tt w910 ST _:=(hT9.kn kz (fun q h=>by have:=h.1;have:=h.2;show q≠_;omega)).tt
       have hK:Below w6.heap.size w6 w910:=hK.trans (kz.below (fun q hq=>by show q≠_;omega) hK.size)
       clear kz
       refine⟨?_⟩
       go_simp
       rw [← Hwz.out]
       refine hKK.out _ _ (hK) (fun hS=>?_)
       clear hKK KK
       try simp only [Act.put,List.getElem_toArray,List.getElem_cons_zero,List.getElem_cons_succ,List.setIfInBounds_toArray,List.set_cons_zero,List.set_cons_succ]
       refine wpAnyH_take (i:=13) (v:=.bool SB) rfl (by kernel_rfl) (by kernel_rfl) (by kernel_rfl) (fun _ _ _ h=>h) (Or.inl ⟨by rfl,fun w hS=>by go_simp⟩) hS ?_
       try simp only [Act.put,List.getElem_toArray,List.getElem_cons_zero,List.getElem_cons_succ,List.setIfInBounds_toArray,List.set_cons_zero,List.set_cons_succ]
       refine wpAnyH_take (i:=14) (v:=.int .i64 SE) rfl (by kernel_rfl) (by kernel_rfl) (by kernel_rfl) (fun _ _ _ h=>h) (Or.inl ⟨by rfl,fun w hS=>by go_simp⟩) hS ?_
       try simp only [Act.put,List.getElem_toArray,List.getElem_cons_zero,List.getElem_cons_succ,List.setIfInBounds_toArray,List.set_cons_zero,List.set_cons_succ]
       refine wpAnyH_done (by kernel_rfl) ?_ _
       go_wp2_with fail
       go_meet
       refine⟨bk9,ra9x,rc9x,ka9x,kc9x,sa9x,sc9x,rfl,rfl,rfl,?_,?_,?_⟩
       ·with_reducible exact zz2
       ·with_reducible exact hT9
       ·with_reducible exact hK
      ·skip
       obtain⟨bk12,hbk12⟩:∃ q,q=u6.heap.size:=⟨_,rfl⟩
       obtain⟨u11,hu11⟩:∃ W,W=u6.alloc (.cells #[.int .i64 0,.int .i64 0,.string ⟨#[]⟩,.slice none 0 0,.slice none 0 0,.slice none 0 0] 26):=⟨_,rfl⟩
       have bu11:Below u6.heap.size u6 u11:=by rw [hu11];exact belowA _ _
       have su11:bk12<u11.heap.size∧u11.heap.size≤bk12+1:=by rw [hu11,hbk12];simp
       have lebk12:u6.heap.size≤bk12:=by omega
       have gbk12:w6.heap.size≤bk12:=by rw [hbk12];exact hK.size
       have zu11:Six u11 bk12 (.int .i64 0) (.int .i64 0) (.string ⟨#[]⟩) (.slice none 0 0) (.slice none 0 0) (.slice none 0 0):=⟨by rw [hu11,hbk12];exact heapNew _ _⟩
       have hk:=bu11
       have hK:=hK.trans (hk.mono hK.size)
       have tmS:=tmS.blw hk
       have Hu11:Hid (_=_):=hu11
       have Kbk12:Hid (_=_):=hbk12
       clear hu11 hbk12
       refine⟨?_⟩
       go_simp
       rw [← Hu11.out]
       try simp only [← Kbk12.out]
       refine hKK.out _ _ (hK) (fun hS=>?_)
       clear hKK KK
       try simp only [Act.put,List.getElem_toArray,List.getElem_cons_zero,List.getElem_cons_succ,List.setIfInBounds_toArray,List.set_cons_zero,List.set_cons_succ]
       clear hk Hu11
       refine wpAnyH_ready (rs:=[6]) (by kernel_rfl) (by simp) ?_
       refine ready_cons rfl (fun KK hKK=>?_) AllReadyH.nil
       refine⟨?_⟩
       have cc:=cS.out u11 _ tmS
       go_simp
       refine cc.mono ?_
       rintro e u13 ⟨vu13,rfl,hvu13,hk⟩
       obtain⟨ra9x,rc9x,ka9x,kc9x,sa9x,sc9x,rfl,ht9x⟩:=hvu13.form
       have hT9:TmIn (fun q=>u11.heap.size≤q∧q<u13.heap.size) u13 ST _:=(ht9x.value).up (fun q h=>h)
       have hszu13:=hk.size
       have hK:=hK.trans (hk.mono hK.size)
       have zu11:=zu11.blw hk
       clear cc hvu13 ht9x tmS
       refine hKK.out _ _ (hK) (fun hS=>?_)
       clear hKK KK
       try simp only [Act.put,List.getElem_toArray,List.getElem_cons_zero,List.getElem_cons_succ,List.setIfInBounds_toArray,List.set_cons_zero,List.set_cons_succ]
       clear hk
       refine wpAnyH_take (i:=7) (v:=.tuple #[.agg #[.int .i64 ST.kind,.int .i64 ST.n,.string ST.name,.slice ra9x ST.r.length rc9x,.slice ka9x ST.kids.length kc9x,.slice sa9x ST.sys.length sc9x],.bool SB,.int .i64 SE]) rfl (by kernel_rfl) (by kernel_rfl) (by kernel_rfl) (fun _ _ _ h=>h) (Or.inl ⟨by rfl,fun w hS=>by go_simp⟩) hS ?_
       try simp only [Act.put,List.getElem_toArray,List.getElem_cons_zero,List.getElem_cons_succ,List.setIfInBounds_toArray,List.set_cons_zero,List.set_cons_succ]
       refine wpAnyH_take (i:=8) (v:=.agg #[.int .i64 ST.kind,.int .i64 ST.n,.string ST.name,.slice ra9x ST.r.length rc9x,.slice ka9x ST.kids.length kc9x,.slice sa9x ST.sys.length sc9x]) rfl (by kernel_rfl) (by kernel_rfl) (by kernel_rfl) (fun _ _ _ h=>h) (Or.inl ⟨by rfl,fun w hS=>by go_simp⟩) hS ?_
       try simp only [Act.put,List.getElem_toArray,List.getElem_cons_zero,List.getElem_cons_succ,List.setIfInBounds_toArray,List.set_cons_zero,List.set_cons_succ]
       refine wpAnyH_take (i:=9) (v:=.bool SB) rfl (by kernel_rfl) (by kernel_rfl) (by kernel_rfl) (fun _ _ _ h=>h) (Or.inl ⟨by rfl,fun w hS=>by go_simp⟩) hS ?_
       try simp only [Act.put,List.getElem_toArray,List.getElem_cons_zero,List.getElem_cons_succ,List.setIfInBounds_toArray,List.set_cons_zero,List.set_cons_succ]
       refine wpAnyH_take (i:=10) (v:=.int .i64 SE) rfl (by kernel_rfl) (by kernel_rfl) (by kernel_rfl) (fun _ _ _ h=>h) (Or.inl ⟨by rfl,fun w hS=>by go_simp⟩) hS ?_
       try simp only [Act.put,List.getElem_toArray,List.getElem_cons_zero,List.getElem_cons_succ,List.setIfInBounds_toArray,List.set_cons_zero,List.set_cons_succ]
       refine wpAnyH_ready (rs:=[12]) (by kernel_rfl) (by simp) ?_
       refine ready_cons rfl (fun KK hKK=>?_) AllReadyH.nil
       have zz2:=zu11.set6 (.int .i64 ST.kind) (.int .i64 ST.n) (.string ST.name) (.slice ra9x ST.r.length rc9x) (.slice ka9x ST.kids.length kc9x) (.slice sa9x ST.sys.length sc9x)
       obtain⟨o0,o1,o2,o3,o4,o5,ff⟩:=zu11.cells
       have f0:=ff 0
       have f1:=ff 1
       have f2:=ff 2
       have f3:=ff 3
       have f4:=ff 4
       have f5:=ff 5
       obtain⟨w914,hwz⟩:∃ W,W=(((((u13.setCell ⟨bk12,0,none⟩ (.int .i64 ST.kind)).setCell ⟨bk12,1,none⟩ (.int .i64 ST.n)).setCell ⟨bk12,2,none⟩ (.string ST.name)).setCell ⟨bk12,3,none⟩ (.slice ra9x ST.r.length rc9x)).setCell ⟨bk12,4,none⟩ (.slice ka9x ST.kids.length kc9x)).setCell ⟨bk12,5,none⟩ (.slice sa9x ST.sys.length sc9x):=⟨_,rfl⟩
       rw [← hwz] at zz2
       have kz:Kn (fun q=>q≠bk12) u13 w914:=by rw [hwz];exact kn_set66 _ _ _ _ _ _ _ _
       have Hwz:Hid (_=_):=hwz
       clear hwz ff
       have hT9:TmIn Tt w914 ST _:=(hT9.kn kz (fun q h=>by have:=h.1;have:=h.2;show q≠_;omega)).tt
       have hK:Below w6.heap.size w6 w914:=hK.trans (kz.below (fun q hq=>by show q≠_;omega) hK.size)
       clear kz
       refine⟨?_⟩
       go_simp
       rw [← Hwz.out]
       refine hKK.out _ _ (hK) (fun hS=>?_)
       clear hKK KK
       try simp only [Act.put,List.getElem_toArray,List.getElem_cons_zero,List.getElem_cons_succ,List.setIfInBounds_toArray,List.set_cons_zero,List.set_cons_succ]
       refine wpAnyH_take (i:=13) (v:=.bool SB) rfl (by kernel_rfl) (by kernel_rfl) (by kernel_rfl) (fun _ _ _ h=>h) (Or.inl ⟨by rfl,fun w hS=>by go_simp⟩) hS ?_
       try simp only [Act.put,List.getElem_toArray,List.getElem_cons_zero,List.getElem_cons_succ,List.setIfInBounds_toArray,List.set_cons_zero,List.set_cons_succ]
       refine wpAnyH_take (i:=14) (v:=.int .i64 SE) rfl (by kernel_rfl) (by kernel_rfl) (by kernel_rfl) (fun _ _ _ h=>h) (Or.inl ⟨by rfl,fun w hS=>by go_simp⟩) hS ?_
       try simp only [Act.put,List.getElem_toArray,List.getElem_cons_zero,List.getElem_cons_succ,List.setIfInBounds_toArray,List.set_cons_zero,List.set_cons_succ]
       refine wpAnyH_done (by kernel_rfl) ?_ _
       go_wp2_with fail
       go_meet
       refine⟨bk12,ra9x,rc9x,ka9x,kc9x,sa9x,sc9x,rfl,rfl,rfl,?_,?_,?_⟩
       ·with_reducible exact zz2
       ·with_reducible exact hT9
       ·with_reducible exact hK
     ·skip
      obtain⟨bk16,hbk16⟩:∃ q,q=u4.heap.size:=⟨_,rfl⟩
      obtain⟨u15,hu15⟩:∃ W,W=u4.alloc (.cells #[.int .i64 0,.int .i64 0,.string ⟨#[]⟩,.slice none 0 0,.slice none 0 0,.slice none 0 0] 26):=⟨_,rfl⟩
      have bu15:Below u4.heap.size u4 u15:=by rw [hu15];exact belowA _ _
      have su15:bk16<u15.heap.size∧u15.heap.size≤bk16+1:=by rw [hu15,hbk16];simp
      have lebk16:u4.heap.size≤bk16:=by omega
      have gbk16:w6.heap.size≤bk16:=by rw [hbk16];exact hK.size
      have zu15:Six u15 bk16 (.int .i64 0) (.int .i64 0) (.string ⟨#[]⟩) (.slice none 0 0) (.slice none 0 0) (.slice none 0 0):=⟨by rw [hu15,hbk16];exact heapNew _ _⟩
      have hk:=bu15
      have hK:=hK.trans (hk.mono hK.size)
      have kdS:=kdS.blw hk
      have Hu15:Hid (_=_):=hu15
      have Kbk16:Hid (_=_):=hbk16
      clear hu15 hbk16
      refine⟨?_⟩
      go_simp
      rw [← Hu15.out]
      try simp only [← Kbk16.out]
      refine hKK.out _ _ (hK) (fun hS=>?_)
      clear hKK KK
      try simp only [Act.put,List.getElem_toArray,List.getElem_cons_zero,List.getElem_cons_succ,List.setIfInBounds_toArray,List.set_cons_zero,List.set_cons_succ]
      clear hk Hu15
      refine wpAnyH_ready (rs:=[5]) (by kernel_rfl) (by simp) ?_
      refine ready_cons rfl (fun KK hKK=>?_) AllReadyH.nil
      refine⟨?_⟩
      have cc:=of16_any 6 (some ⟨bk5,0,none⟩) 2 2 u15
      go_simp
      refine cc.mono ?_
      rintro e u17 ⟨rfl,hk⟩
      have hszu17:=hk.size
      clear cc
      have hK:=hK.trans (hk.mono hK.size)
      have kdS:=kdS.blw hk
      have zu15:=zu15.blw hk
      have tmS:=mk_in (k:=6) ⟨by decide,by decide⟩ kdS
      clear kdS
      refine hKK.out _ _ (hK) (fun hS=>?_)
      clear hKK KK
      try simp only [Act.put,List.getElem_toArray,List.getElem_cons_zero,List.getElem_cons_succ,List.setIfInBounds_toArray,List.set_cons_zero,List.set_cons_succ]
      clear hk
      refine wpAnyH_ready (rs:=[6]) (by kernel_rfl) (by simp) ?_
      refine ready_cons rfl (fun KK hKK=>?_) AllReadyH.nil
      refine⟨?_⟩
      have cc:=cS.out u17 _ tmS
      go_simp
      refine cc.mono ?_
      rintro e u18 ⟨vu18,rfl,hvu18,hk⟩
      obtain⟨ra9x,rc9x,ka9x,kc9x,sa9x,sc9x,rfl,ht9x⟩:=hvu18.form
      have hT9:TmIn (fun q=>u17.heap.size≤q∧q<u18.heap.size) u18 ST _:=(ht9x.value).up (fun q h=>h)
      have hszu18:=hk.size
      have hK:=hK.trans (hk.mono hK.size)
      have zu15:=zu15.blw hk
      clear cc hvu18 ht9x tmS
      refine hKK.out _ _ (hK) (fun hS=>?_)
      clear hKK KK
      try simp only [Act.put,List.getElem_toArray,List.getElem_cons_zero,List.getElem_cons_succ,List.setIfInBounds_toArray,List.set_cons_zero,List.set_cons_succ]
      clear hk
      refine wpAnyH_take (i:=7) (v:=.tuple #[.agg #[.int .i64 ST.kind,.int .i64 ST.n,.string ST.name,.slice ra9x ST.r.length rc9x,.slice ka9x ST.kids.length kc9x,.slice sa9x ST.sys.length sc9x],.bool SB,.int .i64 SE]) rfl (by kernel_rfl) (by kernel_rfl) (by kernel_rfl) (fun _ _ _ h=>h) (Or.inl ⟨by rfl,fun w hS=>by go_simp⟩) hS ?_
      try simp only [Act.put,List.getElem_toArray,List.getElem_cons_zero,List.getElem_cons_succ,List.setIfInBounds_toArray,List.set_cons_zero,List.set_cons_succ]
      refine wpAnyH_take (i:=8) (v:=.agg #[.int .i64 ST.kind,.int .i64 ST.n,.string ST.name,.slice ra9x ST.r.length rc9x,.slice ka9x ST.kids.length kc9x,.slice sa9x ST.sys.length sc9x]) rfl (by kernel_rfl) (by kernel_rfl) (by kernel_rfl) (fun _ _ _ h=>h) (Or.inl ⟨by rfl,fun w hS=>by go_simp⟩) hS ?_
      try simp only [Act.put,List.getElem_toArray,List.getElem_cons_zero,List.getElem_cons_succ,List.setIfInBounds_toArray,List.set_cons_zero,List.set_cons_succ]
      refine wpAnyH_take (i:=9) (v:=.bool SB) rfl (by kernel_rfl) (by kernel_rfl) (by kernel_rfl) (fun _ _ _ h=>h) (Or.inl ⟨by rfl,fun w hS=>by go_simp⟩) hS ?_
      try simp only [Act.put,List.getElem_toArray,List.getElem_cons_zero,List.getElem_cons_succ,List.setIfInBounds_toArray,List.set_cons_zero,List.set_cons_succ]
      refine wpAnyH_take (i:=10) (v:=.int .i64 SE) rfl (by kernel_rfl) (by kernel_rfl) (by kernel_rfl) (fun _ _ _ h=>h) (Or.inl ⟨by rfl,fun w hS=>by go_simp⟩) hS ?_
      try simp only [Act.put,List.getElem_toArray,List.getElem_cons_zero,List.getElem_cons_succ,List.setIfInBounds_toArray,List.set_cons_zero,List.set_cons_succ]
      refine wpAnyH_ready (rs:=[12]) (by kernel_rfl) (by simp) ?_
      refine ready_cons rfl (fun KK hKK=>?_) AllReadyH.nil
      have zz2:=zu15.set6 (.int .i64 ST.kind) (.int .i64 ST.n) (.string ST.name) (.slice ra9x ST.r.length rc9x) (.slice ka9x ST.kids.length kc9x) (.slice sa9x ST.sys.length sc9x)
      obtain⟨o0,o1,o2,o3,o4,o5,ff⟩:=zu15.cells
      have f0:=ff 0
      have f1:=ff 1
      have f2:=ff 2
      have f3:=ff 3
      have f4:=ff 4
      have f5:=ff 5
      obtain⟨w919,hwz⟩:∃ W,W=(((((u18.setCell ⟨bk16,0,none⟩ (.int .i64 ST.kind)).setCell ⟨bk16,1,none⟩ (.int .i64 ST.n)).setCell ⟨bk16,2,none⟩ (.string ST.name)).setCell ⟨bk16,3,none⟩ (.slice ra9x ST.r.length rc9x)).setCell ⟨bk16,4,none⟩ (.slice ka9x ST.kids.length kc9x)).setCell ⟨bk16,5,none⟩ (.slice sa9x ST.sys.length sc9x):=⟨_,rfl⟩
      rw [← hwz] at zz2
      have kz:Kn (fun q=>q≠bk16) u18 w919:=by rw [hwz];exact kn_set66 _ _ _ _ _ _ _ _
      have Hwz:Hid (_=_):=hwz
      clear hwz ff
      have hT9:TmIn Tt w919 ST _:=(hT9.kn kz (fun q h=>by have:=h.1;have:=h.2;show q≠_;omega)).tt
      have hK:Below w6.heap.size w6 w919:=hK.trans (kz.below (fun q hq=>by show q≠_;omega) hK.size)
      clear kz
      refine⟨?_⟩
      go_simp
      rw [← Hwz.out]
      refine hKK.out _ _ (hK) (fun hS=>?_)
      clear hKK KK
      try simp only [Act.put,List.getElem_toArray,List.getElem_cons_zero,List.getElem_cons_succ,List.setIfInBounds_toArray,List.set_cons_zero,List.set_cons_succ]
      refine wpAnyH_take (i:=13) (v:=.bool SB) rfl (by kernel_rfl) (by kernel_rfl) (by kernel_rfl) (fun _ _ _ h=>h) (Or.inl ⟨by rfl,fun w hS=>by go_simp⟩) hS ?_
      try simp only [Act.put,List.getElem_toArray,List.getElem_cons_zero,List.getElem_cons_succ,List.setIfInBounds_toArray,List.set_cons_zero,List.set_cons_succ]
      refine wpAnyH_take (i:=14) (v:=.int .i64 SE) rfl (by kernel_rfl) (by kernel_rfl) (by kernel_rfl) (fun _ _ _ h=>h) (Or.inl ⟨by rfl,fun w hS=>by go_simp⟩) hS ?_
      try simp only [Act.put,List.getElem_toArray,List.getElem_cons_zero,List.getElem_cons_succ,List.setIfInBounds_toArray,List.set_cons_zero,List.set_cons_succ]
      refine wpAnyH_done (by kernel_rfl) ?_ _
      go_wp2_with fail
      go_meet
      refine⟨bk16,ra9x,rc9x,ka9x,kc9x,sa9x,sc9x,rfl,rfl,rfl,?_,?_,?_⟩
      ·with_reducible exact zz2
      ·with_reducible exact hT9
      ·with_reducible exact hK
    ·skip
     obtain⟨bk21,hbk21⟩:∃ q,q=u3.heap.size:=⟨_,rfl⟩
     obtain⟨u20,hu20⟩:∃ W,W=u3.alloc (.cells #[.int .i64 0,.int .i64 0,.string ⟨#[]⟩,.slice none 0 0,.slice none 0 0,.slice none 0 0] 26):=⟨_,rfl⟩
     have bu20:Below u3.heap.size u3 u20:=by rw [hu20];exact belowA _ _
     have su20:bk21<u20.heap.size∧u20.heap.size≤bk21+1:=by rw [hu20,hbk21];simp
     have lebk21:u3.heap.size≤bk21:=by omega
     have gbk21:w6.heap.size≤bk21:=by rw [hbk21];exact hK.size
     have zu20:Six u20 bk21 (.int .i64 0) (.int .i64 0) (.string ⟨#[]⟩) (.slice none 0 0) (.slice none 0 0) (.slice none 0 0):=⟨by rw [hu20,hbk21];exact heapNew _ _⟩
     have hk:=bu20
     have hK:=hK.trans (hk.mono hK.size)
     have tmS:=tmS.blw hk
     have Hu20:Hid (_=_):=hu20
     have Kbk21:Hid (_=_):=hbk21
     clear hu20 hbk21
     refine⟨?_⟩
     go_simp
     rw [← Hu20.out]
     try simp only [← Kbk21.out]
     refine hKK.out _ _ (hK) (fun hS=>?_)
     clear hKK KK
     try simp only [Act.put,List.getElem_toArray,List.getElem_cons_zero,List.getElem_cons_succ,List.setIfInBounds_toArray,List.set_cons_zero,List.set_cons_succ]
     clear hk Hu20
     refine wpAnyH_ready (rs:=[4]) (by kernel_rfl) (by simp) ?_
     refine ready_cons rfl (fun KK hKK=>?_) AllReadyH.nil
     obtain⟨bk23,hbk23⟩:∃ q,q=u20.heap.size:=⟨_,rfl⟩
     obtain⟨u22,hu22⟩:∃ W,W=u20.alloc (.cells #[.int .i64 5,.int .i64 0,.string ⟨#[]⟩,.slice none 0 0,.slice (some ⟨bk2,0,none⟩) 1 1,.slice none 0 0,.int .i64 u.kind,.int .i64 u.n,.string u.name,.slice rb u.r.length rd,.slice kb u.kids.length kd,.slice sb u.sys.length sd] 26):=⟨_,rfl⟩
     have bu22:Below u20.heap.size u20 u22:=by rw [hu22];exact belowA _ _
     have zu22:u22.heap[bk23]? = some (.cells #[.int .i64 5,.int .i64 0,.string ⟨#[]⟩,.slice none 0 0,.slice (some ⟨bk2,0,none⟩) 1 1,.slice none 0 0,.int .i64 u.kind,.int .i64 u.n,.string u.name,.slice rb u.r.length rd,.slice kb u.kids.length kd,.slice sb u.sys.length sd] 26 (0,0)):=by rw [hu22,hbk23];exact heapNew _ _
     have hk:=bu22
     have hszu22:=hk.size
     have hK:=hK.trans (hk.mono hK.size)
     have tmS:=tmS.blw hk
     have zu20:=zu20.blw hk
     have kdS:KdT Tt u22 (TmIn Tt u22) [mkT 5 [t],u] (.slice (some ⟨bk23,0,none⟩) 2 2):=kd_two zu22 trivial tmS (HU.out _ (b16.trans (hK.mono b16.size)))
     clear tmS
     have Hu22:Hid (_=_):=hu22
     have Kbk23:Hid (_=_):=hbk23
     clear hu22 hbk23 zu22
     refine⟨?_⟩
     go_simp
     rw [← Hu22.out]
     try simp only [← Kbk23.out]
     refine hKK.out _ _ (hK) (fun hS=>?_)
     clear hKK KK
     try simp only [Act.put,List.getElem_toArray,List.getElem_cons_zero,List.getElem_cons_succ,List.setIfInBounds_toArray,List.set_cons_zero,List.set_cons_succ]
     clear hk Hu22
     refine wpAnyH_ready (rs:=[5]) (by kernel_rfl) (by simp) ?_
     refine ready_cons rfl (fun KK hKK=>?_) AllReadyH.nil
     refine⟨?_⟩
     have cc:=of16_any 6 (some ⟨bk23,0,none⟩) 2 2 u22
     go_simp
     refine cc.mono ?_
     rintro e u24 ⟨rfl,hk⟩
     have hszu24:=hk.size
     clear cc
     have hK:=hK.trans (hk.mono hK.size)
     have zu20:=zu20.blw hk
     have kdS:=kdS.blw hk
     have tmS:=mk_in (k:=6) ⟨by decide,by decide⟩ kdS
     clear kdS
     refine hKK.out _ _ (hK) (fun hS=>?_)
     clear hKK KK
     try simp only [Act.put,List.getElem_toArray,List.getElem_cons_zero,List.getElem_cons_succ,List.setIfInBounds_toArray,List.set_cons_zero,List.set_cons_succ]
     clear hk
     refine wpAnyH_ready (rs:=[6]) (by kernel_rfl) (by simp) ?_
     refine ready_cons rfl (fun KK hKK=>?_) AllReadyH.nil
     refine⟨?_⟩
     have cc:=cS.out u24 _ tmS
     go_simp
     refine cc.mono ?_
     rintro e u25 ⟨vu25,rfl,hvu25,hk⟩
     obtain⟨ra9x,rc9x,ka9x,kc9x,sa9x,sc9x,rfl,ht9x⟩:=hvu25.form
     have hT9:TmIn (fun q=>u24.heap.size≤q∧q<u25.heap.size) u25 ST _:=(ht9x.value).up (fun q h=>h)
     have hszu25:=hk.size
     have hK:=hK.trans (hk.mono hK.size)
     have zu20:=zu20.blw hk
     clear cc hvu25 ht9x tmS
     refine hKK.out _ _ (hK) (fun hS=>?_)
     clear hKK KK
     try simp only [Act.put,List.getElem_toArray,List.getElem_cons_zero,List.getElem_cons_succ,List.setIfInBounds_toArray,List.set_cons_zero,List.set_cons_succ]
     clear hk
     refine wpAnyH_take (i:=7) (v:=.tuple #[.agg #[.int .i64 ST.kind,.int .i64 ST.n,.string ST.name,.slice ra9x ST.r.length rc9x,.slice ka9x ST.kids.length kc9x,.slice sa9x ST.sys.length sc9x],.bool SB,.int .i64 SE]) rfl (by kernel_rfl) (by kernel_rfl) (by kernel_rfl) (fun _ _ _ h=>h) (Or.inl ⟨by rfl,fun w hS=>by go_simp⟩) hS ?_
     try simp only [Act.put,List.getElem_toArray,List.getElem_cons_zero,List.getElem_cons_succ,List.setIfInBounds_toArray,List.set_cons_zero,List.set_cons_succ]
     refine wpAnyH_take (i:=8) (v:=.agg #[.int .i64 ST.kind,.int .i64 ST.n,.string ST.name,.slice ra9x ST.r.length rc9x,.slice ka9x ST.kids.length kc9x,.slice sa9x ST.sys.length sc9x]) rfl (by kernel_rfl) (by kernel_rfl) (by kernel_rfl) (fun _ _ _ h=>h) (Or.inl ⟨by rfl,fun w hS=>by go_simp⟩) hS ?_
     try simp only [Act.put,List.getElem_toArray,List.getElem_cons_zero,List.getElem_cons_succ,List.setIfInBounds_toArray,List.set_cons_zero,List.set_cons_succ]
     refine wpAnyH_take (i:=9) (v:=.bool SB) rfl (by kernel_rfl) (by kernel_rfl) (by kernel_rfl) (fun _ _ _ h=>h) (Or.inl ⟨by rfl,fun w hS=>by go_simp⟩) hS ?_
     try simp only [Act.put,List.getElem_toArray,List.getElem_cons_zero,List.getElem_cons_succ,List.setIfInBounds_toArray,List.set_cons_zero,List.set_cons_succ]
     refine wpAnyH_take (i:=10) (v:=.int .i64 SE) rfl (by kernel_rfl) (by kernel_rfl) (by kernel_rfl) (fun _ _ _ h=>h) (Or.inl ⟨by rfl,fun w hS=>by go_simp⟩) hS ?_
     try simp only [Act.put,List.getElem_toArray,List.getElem_cons_zero,List.getElem_cons_succ,List.setIfInBounds_toArray,List.set_cons_zero,List.set_cons_succ]
     refine wpAnyH_ready (rs:=[12]) (by kernel_rfl) (by simp) ?_
     refine ready_cons rfl (fun KK hKK=>?_) AllReadyH.nil
     have zz2:=zu20.set6 (.int .i64 ST.kind) (.int .i64 ST.n) (.string ST.name) (.slice ra9x ST.r.length rc9x) (.slice ka9x ST.kids.length kc9x) (.slice sa9x ST.sys.length sc9x)
     obtain⟨o0,o1,o2,o3,o4,o5,ff⟩:=zu20.cells
     have f0:=ff 0
     have f1:=ff 1
     have f2:=ff 2
     have f3:=ff 3
     have f4:=ff 4
     have f5:=ff 5
     obtain⟨w926,hwz⟩:∃ W,W=(((((u25.setCell ⟨bk21,0,none⟩ (.int .i64 ST.kind)).setCell ⟨bk21,1,none⟩ (.int .i64 ST.n)).setCell ⟨bk21,2,none⟩ (.string ST.name)).setCell ⟨bk21,3,none⟩ (.slice ra9x ST.r.length rc9x)).setCell ⟨bk21,4,none⟩ (.slice ka9x ST.kids.length kc9x)).setCell ⟨bk21,5,none⟩ (.slice sa9x ST.sys.length sc9x):=⟨_,rfl⟩
     rw [← hwz] at zz2
     have kz:Kn (fun q=>q≠bk21) u25 w926:=by rw [hwz];exact kn_set66 _ _ _ _ _ _ _ _
     have Hwz:Hid (_=_):=hwz
     clear hwz ff
     have hT9:TmIn Tt w926 ST _:=(hT9.kn kz (fun q h=>by have:=h.1;have:=h.2;show q≠_;omega)).tt
     have hK:Below w6.heap.size w6 w926:=hK.trans (kz.below (fun q hq=>by show q≠_;omega) hK.size)
     clear kz
     refine⟨?_⟩
     go_simp
     rw [← Hwz.out]
     refine hKK.out _ _ (hK) (fun hS=>?_)
     clear hKK KK
     try simp only [Act.put,List.getElem_toArray,List.getElem_cons_zero,List.getElem_cons_succ,List.setIfInBounds_toArray,List.set_cons_zero,List.set_cons_succ]
     refine wpAnyH_take (i:=13) (v:=.bool SB) rfl (by kernel_rfl) (by kernel_rfl) (by kernel_rfl) (fun _ _ _ h=>h) (Or.inl ⟨by rfl,fun w hS=>by go_simp⟩) hS ?_
     try simp only [Act.put,List.getElem_toArray,List.getElem_cons_zero,List.getElem_cons_succ,List.setIfInBounds_toArray,List.set_cons_zero,List.set_cons_succ]
     refine wpAnyH_take (i:=14) (v:=.int .i64 SE) rfl (by kernel_rfl) (by kernel_rfl) (by kernel_rfl) (fun _ _ _ h=>h) (Or.inl ⟨by rfl,fun w hS=>by go_simp⟩) hS ?_
     try simp only [Act.put,List.getElem_toArray,List.getElem_cons_zero,List.getElem_cons_succ,List.setIfInBounds_toArray,List.set_cons_zero,List.set_cons_succ]
     refine wpAnyH_done (by kernel_rfl) ?_ _
     go_wp2_with fail
     go_meet
     refine⟨bk21,ra9x,rc9x,ka9x,kc9x,sa9x,sc9x,rfl,rfl,rfl,?_,?_,?_⟩
     ·with_reducible exact zz2
     ·with_reducible exact hT9
     ·with_reducible exact hK
   ·skip
    obtain⟨bk28,hbk28⟩:∃ q,q=u1.heap.size:=⟨_,rfl⟩
    obtain⟨u27,hu27⟩:∃ W,W=u1.alloc (.cells #[.int .i64 0,.int .i64 0,.string ⟨#[]⟩,.slice none 0 0,.slice none 0 0,.slice none 0 0] 26):=⟨_,rfl⟩
    have bu27:Below u1.heap.size u1 u27:=by rw [hu27];exact belowA _ _
    have su27:bk28<u27.heap.size∧u27.heap.size≤bk28+1:=by rw [hu27,hbk28];simp
    have lebk28:u1.heap.size≤bk28:=by omega
    have gbk28:w6.heap.size≤bk28:=by rw [hbk28];exact hK.size
    have zu27:Six u27 bk28 (.int .i64 0) (.int .i64 0) (.string ⟨#[]⟩) (.slice none 0 0) (.slice none 0 0) (.slice none 0 0):=⟨by rw [hu27,hbk28];exact heapNew _ _⟩
    have hk:=bu27
    have hK:=hK.trans (hk.mono hK.size)
    have kdS:=kdS.blw hk
    have Hu27:Hid (_=_):=hu27
    have Kbk28:Hid (_=_):=hbk28
    clear hu27 hbk28
    refine⟨?_⟩
    go_simp
    rw [← Hu27.out]
    try simp only [← Kbk28.out]
    refine hKK.out _ _ (hK) (fun hS=>?_)
    clear hKK KK
    try simp only [Act.put,List.getElem_toArray,List.getElem_cons_zero,List.getElem_cons_succ,List.setIfInBounds_toArray,List.set_cons_zero,List.set_cons_succ]
    clear hk Hu27
    refine wpAnyH_ready (rs:=[2]) (by kernel_rfl) (by simp) ?_
    refine ready_cons rfl (fun KK hKK=>?_) AllReadyH.nil
    refine⟨?_⟩
    have cc:=of16_any 5 (some ⟨bk2,0,none⟩) 1 1 u27
    go_simp
    refine cc.mono ?_
    rintro e u29 ⟨rfl,hk⟩
    have hszu29:=hk.size
    clear cc
    have hK:=hK.trans (hk.mono hK.size)
    have kdS:=kdS.blw hk
    have zu27:=zu27.blw hk
    have tmS:=mk_in (k:=5) ⟨by decide,by decide⟩ kdS
    clear kdS
    refine hKK.out _ _ (hK) (fun hS=>?_)
    clear hKK KK
    try simp only [Act.put,List.getElem_toArray,List.getElem_cons_zero,List.getElem_cons_succ,List.setIfInBounds_toArray,List.set_cons_zero,List.set_cons_succ]
    clear hk
    refine wpAnyH_ready (rs:=[4]) (by kernel_rfl) (by simp) ?_
    refine ready_cons rfl (fun KK hKK=>?_) AllReadyH.nil
    obtain⟨bk31,hbk31⟩:∃ q,q=u29.heap.size:=⟨_,rfl⟩
    obtain⟨u30,hu30⟩:∃ W,W=u29.alloc (.cells #[.int .i64 5,.int .i64 0,.string ⟨#[]⟩,.slice none 0 0,.slice (some ⟨bk2,0,none⟩) 1 1,.slice none 0 0,.int .i64 u.kind,.int .i64 u.n,.string u.name,.slice rb u.r.length rd,.slice kb u.kids.length kd,.slice sb u.sys.length sd] 26):=⟨_,rfl⟩
    have bu30:Below u29.heap.size u29 u30:=by rw [hu30];exact belowA _ _
    have zu30:u30.heap[bk31]? = some (.cells #[.int .i64 5,.int .i64 0,.string ⟨#[]⟩,.slice none 0 0,.slice (some ⟨bk2,0,none⟩) 1 1,.slice none 0 0,.int .i64 u.kind,.int .i64 u.n,.string u.name,.slice rb u.r.length rd,.slice kb u.kids.length kd,.slice sb u.sys.length sd] 26 (0,0)):=by rw [hu30,hbk31];exact heapNew _ _
    have hk:=bu30
    have hszu30:=hk.size
    have hK:=hK.trans (hk.mono hK.size)
    have zu27:=zu27.blw hk
    have tmS:=tmS.blw hk
    have kdS:KdT Tt u30 (TmIn Tt u30) [mkT 5 [t],u] (.slice (some ⟨bk31,0,none⟩) 2 2):=kd_two zu30 trivial tmS (HU.out _ (b16.trans (hK.mono b16.size)))
    clear tmS
    have Hu30:Hid (_=_):=hu30
    have Kbk31:Hid (_=_):=hbk31
    clear hu30 hbk31 zu30
    refine⟨?_⟩
    go_simp
    rw [← Hu30.out]
    try simp only [← Kbk31.out]
    refine hKK.out _ _ (hK) (fun hS=>?_)
    clear hKK KK
    try simp only [Act.put,List.getElem_toArray,List.getElem_cons_zero,List.getElem_cons_succ,List.setIfInBounds_toArray,List.set_cons_zero,List.set_cons_succ]
    clear hk Hu30
    refine wpAnyH_ready (rs:=[5]) (by kernel_rfl) (by simp) ?_
    refine ready_cons rfl (fun KK hKK=>?_) AllReadyH.nil
    refine⟨?_⟩
    have cc:=of16_any 6 (some ⟨bk31,0,none⟩) 2 2 u30
    go_simp
    refine cc.mono ?_
    rintro e u32 ⟨rfl,hk⟩
    have hszu32:=hk.size
    clear cc
    have hK:=hK.trans (hk.mono hK.size)
    have zu27:=zu27.blw hk
    have kdS:=kdS.blw hk
    have tmS:=mk_in (k:=6) ⟨by decide,by decide⟩ kdS
    clear kdS
    refine hKK.out _ _ (hK) (fun hS=>?_)
    clear hKK KK
    try simp only [Act.put,List.getElem_toArray,List.getElem_cons_zero,List.getElem_cons_succ,List.setIfInBounds_toArray,List.set_cons_zero,List.set_cons_succ]
    clear hk
    refine wpAnyH_ready (rs:=[6]) (by kernel_rfl) (by simp) ?_
    refine ready_cons rfl (fun KK hKK=>?_) AllReadyH.nil
    refine⟨?_⟩
    have cc:=cS.out u32 _ tmS
    go_simp
    refine cc.mono ?_
    rintro e u33 ⟨vu33,rfl,hvu33,hk⟩
    obtain⟨ra9x,rc9x,ka9x,kc9x,sa9x,sc9x,rfl,ht9x⟩:=hvu33.form
    have hT9:TmIn (fun q=>u32.heap.size≤q∧q<u33.heap.size) u33 ST _:=(ht9x.value).up (fun q h=>h)
    have hszu33:=hk.size
    have hK:=hK.trans (hk.mono hK.size)
    have zu27:=zu27.blw hk
    clear cc hvu33 ht9x tmS
    refine hKK.out _ _ (hK) (fun hS=>?_)
    clear hKK KK
    try simp only [Act.put,List.getElem_toArray,List.getElem_cons_zero,List.getElem_cons_succ,List.setIfInBounds_toArray,List.set_cons_zero,List.set_cons_succ]
    clear hk
    refine wpAnyH_take (i:=7) (v:=.tuple #[.agg #[.int .i64 ST.kind,.int .i64 ST.n,.string ST.name,.slice ra9x ST.r.length rc9x,.slice ka9x ST.kids.length kc9x,.slice sa9x ST.sys.length sc9x],.bool SB,.int .i64 SE]) rfl (by kernel_rfl) (by kernel_rfl) (by kernel_rfl) (fun _ _ _ h=>h) (Or.inl ⟨by rfl,fun w hS=>by go_simp⟩) hS ?_
    try simp only [Act.put,List.getElem_toArray,List.getElem_cons_zero,List.getElem_cons_succ,List.setIfInBounds_toArray,List.set_cons_zero,List.set_cons_succ]
    refine wpAnyH_take (i:=8) (v:=.agg #[.int .i64 ST.kind,.int .i64 ST.n,.string ST.name,.slice ra9x ST.r.length rc9x,.slice ka9x ST.kids.length kc9x,.slice sa9x ST.sys.length sc9x]) rfl (by kernel_rfl) (by kernel_rfl) (by kernel_rfl) (fun _ _ _ h=>h) (Or.inl ⟨by rfl,fun w hS=>by go_simp⟩) hS ?_
    try simp only [Act.put,List.getElem_toArray,List.getElem_cons_zero,List.getElem_cons_succ,List.setIfInBounds_toArray,List.set_cons_zero,List.set_cons_succ]
    refine wpAnyH_take (i:=9) (v:=.bool SB) rfl (by kernel_rfl) (by kernel_rfl) (by kernel_rfl) (fun _ _ _ h=>h) (Or.inl ⟨by rfl,fun w hS=>by go_simp⟩) hS ?_
    try simp only [Act.put,List.getElem_toArray,List.getElem_cons_zero,List.getElem_cons_succ,List.setIfInBounds_toArray,List.set_cons_zero,List.set_cons_succ]
    refine wpAnyH_take (i:=10) (v:=.int .i64 SE) rfl (by kernel_rfl) (by kernel_rfl) (by kernel_rfl) (fun _ _ _ h=>h) (Or.inl ⟨by rfl,fun w hS=>by go_simp⟩) hS ?_
    try simp only [Act.put,List.getElem_toArray,List.getElem_cons_zero,List.getElem_cons_succ,List.setIfInBounds_toArray,List.set_cons_zero,List.set_cons_succ]
    refine wpAnyH_ready (rs:=[12]) (by kernel_rfl) (by simp) ?_
    refine ready_cons rfl (fun KK hKK=>?_) AllReadyH.nil
    have zz2:=zu27.set6 (.int .i64 ST.kind) (.int .i64 ST.n) (.string ST.name) (.slice ra9x ST.r.length rc9x) (.slice ka9x ST.kids.length kc9x) (.slice sa9x ST.sys.length sc9x)
    obtain⟨o0,o1,o2,o3,o4,o5,ff⟩:=zu27.cells
    have f0:=ff 0
    have f1:=ff 1
    have f2:=ff 2
    have f3:=ff 3
    have f4:=ff 4
    have f5:=ff 5
    obtain⟨w934,hwz⟩:∃ W,W=(((((u33.setCell ⟨bk28,0,none⟩ (.int .i64 ST.kind)).setCell ⟨bk28,1,none⟩ (.int .i64 ST.n)).setCell ⟨bk28,2,none⟩ (.string ST.name)).setCell ⟨bk28,3,none⟩ (.slice ra9x ST.r.length rc9x)).setCell ⟨bk28,4,none⟩ (.slice ka9x ST.kids.length kc9x)).setCell ⟨bk28,5,none⟩ (.slice sa9x ST.sys.length sc9x):=⟨_,rfl⟩
    rw [← hwz] at zz2
    have kz:Kn (fun q=>q≠bk28) u33 w934:=by rw [hwz];exact kn_set66 _ _ _ _ _ _ _ _
    have Hwz:Hid (_=_):=hwz
    clear hwz ff
    have hT9:TmIn Tt w934 ST _:=(hT9.kn kz (fun q h=>by have:=h.1;have:=h.2;show q≠_;omega)).tt
    have hK:Below w6.heap.size w6 w934:=hK.trans (kz.below (fun q hq=>by show q≠_;omega) hK.size)
    clear kz
    refine⟨?_⟩
    go_simp
    rw [← Hwz.out]
    refine hKK.out _ _ (hK) (fun hS=>?_)
    clear hKK KK
    try simp only [Act.put,List.getElem_toArray,List.getElem_cons_zero,List.getElem_cons_succ,List.setIfInBounds_toArray,List.set_cons_zero,List.set_cons_succ]
    refine wpAnyH_take (i:=13) (v:=.bool SB) rfl (by kernel_rfl) (by kernel_rfl) (by kernel_rfl) (fun _ _ _ h=>h) (Or.inl ⟨by rfl,fun w hS=>by go_simp⟩) hS ?_
    try simp only [Act.put,List.getElem_toArray,List.getElem_cons_zero,List.getElem_cons_succ,List.setIfInBounds_toArray,List.set_cons_zero,List.set_cons_succ]
    refine wpAnyH_take (i:=14) (v:=.int .i64 SE) rfl (by kernel_rfl) (by kernel_rfl) (by kernel_rfl) (fun _ _ _ h=>h) (Or.inl ⟨by rfl,fun w hS=>by go_simp⟩) hS ?_
    try simp only [Act.put,List.getElem_toArray,List.getElem_cons_zero,List.getElem_cons_succ,List.setIfInBounds_toArray,List.set_cons_zero,List.set_cons_succ]
    refine wpAnyH_done (by kernel_rfl) ?_ _
    go_wp2_with fail
    go_meet
    refine⟨bk28,ra9x,rc9x,ka9x,kc9x,sa9x,sc9x,rfl,rfl,rfl,?_,?_,?_⟩
    ·with_reducible exact zz2
    ·with_reducible exact hT9
    ·with_reducible exact hK
  ·skip
   obtain⟨bk36,hbk36⟩:∃ q,q=wd.heap.size:=⟨_,rfl⟩
   obtain⟨u35,hu35⟩:∃ W,W=wd.alloc (.cells #[.int .i64 0,.int .i64 0,.string ⟨#[]⟩,.slice none 0 0,.slice none 0 0,.slice none 0 0] 26):=⟨_,rfl⟩
   have bu35:Below wd.heap.size wd u35:=by rw [hu35];exact belowA _ _
   have su35:bk36<u35.heap.size∧u35.heap.size≤bk36+1:=by rw [hu35,hbk36];simp
   have lebk36:wd.heap.size≤bk36:=by omega
   have gbk36:w6.heap.size≤bk36:=by rw [hbk36];exact hK.size
   have zu35:Six u35 bk36 (.int .i64 0) (.int .i64 0) (.string ⟨#[]⟩) (.slice none 0 0) (.slice none 0 0) (.slice none 0 0):=⟨by rw [hu35,hbk36];exact heapNew _ _⟩
   have hk:=bu35
   have hK:=hK.trans (hk.mono hK.size)
   have Hu35:Hid (_=_):=hu35
   have Kbk36:Hid (_=_):=hbk36
   clear hu35 hbk36
   refine⟨?_⟩
   go_simp
   rw [← Hu35.out]
   try simp only [← Kbk36.out]
   refine hKK.out _ _ (hK) (fun hS=>?_)
   clear hKK KK
   try simp only [Act.put,List.getElem_toArray,List.getElem_cons_zero,List.getElem_cons_succ,List.setIfInBounds_toArray,List.set_cons_zero,List.set_cons_succ]
   clear hk Hu35
   refine wpAnyH_ready (rs:=[1]) (by kernel_rfl) (by simp) ?_
   refine ready_cons rfl (fun KK hKK=>?_) AllReadyH.nil
   obtain⟨bk38,hbk38⟩:∃ q,q=u35.heap.size:=⟨_,rfl⟩
   obtain⟨u37,hu37⟩:∃ W,W=u35.alloc (.cells #[.int .i64 t.kind,.int .i64 t.n,.string t.name,.slice ra t.r.length rc,.slice ka t.kids.length kc,.slice sa t.sys.length sc] 26):=⟨_,rfl⟩
   have bu37:Below u35.heap.size u35 u37:=by rw [hu37];exact belowA _ _
   have zu37:u37.heap[bk38]? = some (.cells #[.int .i64 t.kind,.int .i64 t.n,.string t.name,.slice ra t.r.length rc,.slice ka t.kids.length kc,.slice sa t.sys.length sc] 26 (0,0)):=by rw [hu37,hbk38];exact heapNew _ _
   have hk:=bu37
   have hszu37:=hk.size
   have hK:=hK.trans (hk.mono hK.size)
   have zu35:=zu35.blw hk
   have kdS:KdT Tt u37 (TmIn Tt u37) [t] (.slice (some ⟨bk38,0,none⟩) 1 1):=kd_one zu37 trivial (HT.out _ (b16.trans (hK.mono b16.size)))
   have Hu37:Hid (_=_):=hu37
   have Kbk38:Hid (_=_):=hbk38
   clear hu37 hbk38 zu37
   refine⟨?_⟩
   go_simp
   rw [← Hu37.out]
   try simp only [← Kbk38.out]
   refine hKK.out _ _ (hK) (fun hS=>?_)
   clear hKK KK
   try simp only [Act.put,List.getElem_toArray,List.getElem_cons_zero,List.getElem_cons_succ,List.setIfInBounds_toArray,List.set_cons_zero,List.set_cons_succ]
   clear hk Hu37
   refine wpAnyH_ready (rs:=[2]) (by kernel_rfl) (by simp) ?_
   refine ready_cons rfl (fun KK hKK=>?_) AllReadyH.nil
   refine⟨?_⟩
   have cc:=of16_any 5 (some ⟨bk38,0,none⟩) 1 1 u37
   go_simp
   refine cc.mono ?_
   rintro e u39 ⟨rfl,hk⟩
   have hszu39:=hk.size
   clear cc
   have hK:=hK.trans (hk.mono hK.size)
   have zu35:=zu35.blw hk
   have kdS:=kdS.blw hk
   have tmS:=mk_in (k:=5) ⟨by decide,by decide⟩ kdS
   clear kdS
   refine hKK.out _ _ (hK) (fun hS=>?_)
   clear hKK KK
   try simp only [Act.put,List.getElem_toArray,List.getElem_cons_zero,List.getElem_cons_succ,List.setIfInBounds_toArray,List.set_cons_zero,List.set_cons_succ]
   clear hk
   refine wpAnyH_ready (rs:=[4]) (by kernel_rfl) (by simp) ?_
   refine ready_cons rfl (fun KK hKK=>?_) AllReadyH.nil
   obtain⟨bk41,hbk41⟩:∃ q,q=u39.heap.size:=⟨_,rfl⟩
   obtain⟨u40,hu40⟩:∃ W,W=u39.alloc (.cells #[.int .i64 5,.int .i64 0,.string ⟨#[]⟩,.slice none 0 0,.slice (some ⟨bk38,0,none⟩) 1 1,.slice none 0 0,.int .i64 u.kind,.int .i64 u.n,.string u.name,.slice rb u.r.length rd,.slice kb u.kids.length kd,.slice sb u.sys.length sd] 26):=⟨_,rfl⟩
   have bu40:Below u39.heap.size u39 u40:=by rw [hu40];exact belowA _ _
   have zu40:u40.heap[bk41]? = some (.cells #[.int .i64 5,.int .i64 0,.string ⟨#[]⟩,.slice none 0 0,.slice (some ⟨bk38,0,none⟩) 1 1,.slice none 0 0,.int .i64 u.kind,.int .i64 u.n,.string u.name,.slice rb u.r.length rd,.slice kb u.kids.length kd,.slice sb u.sys.length sd] 26 (0,0)):=by rw [hu40,hbk41];exact heapNew _ _
   have hk:=bu40
   have hszu40:=hk.size
   have hK:=hK.trans (hk.mono hK.size)
   have zu35:=zu35.blw hk
   have tmS:=tmS.blw hk
   have kdS:KdT Tt u40 (TmIn Tt u40) [mkT 5 [t],u] (.slice (some ⟨bk41,0,none⟩) 2 2):=kd_two zu40 trivial tmS (HU.out _ (b16.trans (hK.mono b16.size)))
   clear tmS
   have Hu40:Hid (_=_):=hu40
   have Kbk41:Hid (_=_):=hbk41
   clear hu40 hbk41 zu40
   refine⟨?_⟩
   go_simp
   rw [← Hu40.out]
   try simp only [← Kbk41.out]
   refine hKK.out _ _ (hK) (fun hS=>?_)
   clear hKK KK
   try simp only [Act.put,List.getElem_toArray,List.getElem_cons_zero,List.getElem_cons_succ,List.setIfInBounds_toArray,List.set_cons_zero,List.set_cons_succ]
   clear hk Hu40
   refine wpAnyH_ready (rs:=[5]) (by kernel_rfl) (by simp) ?_
   refine ready_cons rfl (fun KK hKK=>?_) AllReadyH.nil
   refine⟨?_⟩
   have cc:=of16_any 6 (some ⟨bk41,0,none⟩) 2 2 u40
   go_simp
   refine cc.mono ?_
   rintro e u42 ⟨rfl,hk⟩
   have hszu42:=hk.size
   clear cc
   have hK:=hK.trans (hk.mono hK.size)
   have zu35:=zu35.blw hk
   have kdS:=kdS.blw hk
   have tmS:=mk_in (k:=6) ⟨by decide,by decide⟩ kdS
   clear kdS
   refine hKK.out _ _ (hK) (fun hS=>?_)
   clear hKK KK
   try simp only [Act.put,List.getElem_toArray,List.getElem_cons_zero,List.getElem_cons_succ,List.setIfInBounds_toArray,List.set_cons_zero,List.set_cons_succ]
   clear hk
   refine wpAnyH_ready (rs:=[6]) (by kernel_rfl) (by simp) ?_
   refine ready_cons rfl (fun KK hKK=>?_) AllReadyH.nil
   refine⟨?_⟩
   have cc:=cS.out u42 _ tmS
   go_simp
   refine cc.mono ?_
   rintro e u43 ⟨vu43,rfl,hvu43,hk⟩
   obtain⟨ra9x,rc9x,ka9x,kc9x,sa9x,sc9x,rfl,ht9x⟩:=hvu43.form
   have hT9:TmIn (fun q=>u42.heap.size≤q∧q<u43.heap.size) u43 ST _:=(ht9x.value).up (fun q h=>h)
   have hszu43:=hk.size
   have hK:=hK.trans (hk.mono hK.size)
   have zu35:=zu35.blw hk
   clear cc hvu43 ht9x tmS
   refine hKK.out _ _ (hK) (fun hS=>?_)
   clear hKK KK
   try simp only [Act.put,List.getElem_toArray,List.getElem_cons_zero,List.getElem_cons_succ,List.setIfInBounds_toArray,List.set_cons_zero,List.set_cons_succ]
   clear hk
   refine wpAnyH_take (i:=7) (v:=.tuple #[.agg #[.int .i64 ST.kind,.int .i64 ST.n,.string ST.name,.slice ra9x ST.r.length rc9x,.slice ka9x ST.kids.length kc9x,.slice sa9x ST.sys.length sc9x],.bool SB,.int .i64 SE]) rfl (by kernel_rfl) (by kernel_rfl) (by kernel_rfl) (fun _ _ _ h=>h) (Or.inl ⟨by rfl,fun w hS=>by go_simp⟩) hS ?_
   try simp only [Act.put,List.getElem_toArray,List.getElem_cons_zero,List.getElem_cons_succ,List.setIfInBounds_toArray,List.set_cons_zero,List.set_cons_succ]
   refine wpAnyH_take (i:=8) (v:=.agg #[.int .i64 ST.kind,.int .i64 ST.n,.string ST.name,.slice ra9x ST.r.length rc9x,.slice ka9x ST.kids.length kc9x,.slice sa9x ST.sys.length sc9x]) rfl (by kernel_rfl) (by kernel_rfl) (by kernel_rfl) (fun _ _ _ h=>h) (Or.inl ⟨by rfl,fun w hS=>by go_simp⟩) hS ?_
   try simp only [Act.put,List.getElem_toArray,List.getElem_cons_zero,List.getElem_cons_succ,List.setIfInBounds_toArray,List.set_cons_zero,List.set_cons_succ]
   refine wpAnyH_take (i:=9) (v:=.bool SB) rfl (by kernel_rfl) (by kernel_rfl) (by kernel_rfl) (fun _ _ _ h=>h) (Or.inl ⟨by rfl,fun w hS=>by go_simp⟩) hS ?_
   try simp only [Act.put,List.getElem_toArray,List.getElem_cons_zero,List.getElem_cons_succ,List.setIfInBounds_toArray,List.set_cons_zero,List.set_cons_succ]
   refine wpAnyH_take (i:=10) (v:=.int .i64 SE) rfl (by kernel_rfl) (by kernel_rfl) (by kernel_rfl) (fun _ _ _ h=>h) (Or.inl ⟨by rfl,fun w hS=>by go_simp⟩) hS ?_
   try simp only [Act.put,List.getElem_toArray,List.getElem_cons_zero,List.getElem_cons_succ,List.setIfInBounds_toArray,List.set_cons_zero,List.set_cons_succ]
   refine wpAnyH_ready (rs:=[12]) (by kernel_rfl) (by simp) ?_
   refine ready_cons rfl (fun KK hKK=>?_) AllReadyH.nil
   have zz2:=zu35.set6 (.int .i64 ST.kind) (.int .i64 ST.n) (.string ST.name) (.slice ra9x ST.r.length rc9x) (.slice ka9x ST.kids.length kc9x) (.slice sa9x ST.sys.length sc9x)
   obtain⟨o0,o1,o2,o3,o4,o5,ff⟩:=zu35.cells
   have f0:=ff 0
   have f1:=ff 1
   have f2:=ff 2
   have f3:=ff 3
   have f4:=ff 4
   have f5:=ff 5
   obtain⟨w944,hwz⟩:∃ W,W=(((((u43.setCell ⟨bk36,0,none⟩ (.int .i64 ST.kind)).setCell ⟨bk36,1,none⟩ (.int .i64 ST.n)).setCell ⟨bk36,2,none⟩ (.string ST.name)).setCell ⟨bk36,3,none⟩ (.slice ra9x ST.r.length rc9x)).setCell ⟨bk36,4,none⟩ (.slice ka9x ST.kids.length kc9x)).setCell ⟨bk36,5,none⟩ (.slice sa9x ST.sys.length sc9x):=⟨_,rfl⟩
   rw [← hwz] at zz2
   have kz:Kn (fun q=>q≠bk36) u43 w944:=by rw [hwz];exact kn_set66 _ _ _ _ _ _ _ _
   have Hwz:Hid (_=_):=hwz
   clear hwz ff
   have hT9:TmIn Tt w944 ST _:=(hT9.kn kz (fun q h=>by have:=h.1;have:=h.2;show q≠_;omega)).tt
   have hK:Below w6.heap.size w6 w944:=hK.trans (kz.below (fun q hq=>by show q≠_;omega) hK.size)
   clear kz
   refine⟨?_⟩
   go_simp
   rw [← Hwz.out]
   refine hKK.out _ _ (hK) (fun hS=>?_)
   clear hKK KK
   try simp only [Act.put,List.getElem_toArray,List.getElem_cons_zero,List.getElem_cons_succ,List.setIfInBounds_toArray,List.set_cons_zero,List.set_cons_succ]
   refine wpAnyH_take (i:=13) (v:=.bool SB) rfl (by kernel_rfl) (by kernel_rfl) (by kernel_rfl) (fun _ _ _ h=>h) (Or.inl ⟨by rfl,fun w hS=>by go_simp⟩) hS ?_
   try simp only [Act.put,List.getElem_toArray,List.getElem_cons_zero,List.getElem_cons_succ,List.setIfInBounds_toArray,List.set_cons_zero,List.set_cons_succ]
   refine wpAnyH_take (i:=14) (v:=.int .i64 SE) rfl (by kernel_rfl) (by kernel_rfl) (by kernel_rfl) (fun _ _ _ h=>h) (Or.inl ⟨by rfl,fun w hS=>by go_simp⟩) hS ?_
   try simp only [Act.put,List.getElem_toArray,List.getElem_cons_zero,List.getElem_cons_succ,List.setIfInBounds_toArray,List.set_cons_zero,List.set_cons_succ]
   refine wpAnyH_done (by kernel_rfl) ?_ _
   go_wp2_with fail
   go_meet
   refine⟨bk36,ra9x,rc9x,ka9x,kc9x,sa9x,sc9x,rfl,rfl,rfl,?_,?_,?_⟩
   ·with_reducible exact zz2
   ·with_reducible exact hT9
   ·with_reducible exact hK
 case rest =>
 obtain⟨o5,x1,x2,x3,x4,x5,x6,rfl,rfl,rfl,n5,hT5,hK5⟩:=hcut
 obtain⟨wA,hwA⟩:∃ V,V=wc:=⟨_,rfl⟩
 subst hwA
 have b1A:Below w1.heap.size w1 wA:=b16.trans (Below.mono hK5 b16.size)
 have HXA:Hid (∀ W,Below wA.heap.size wA W→Six W o5 (.int .i64 ST.kind) (.int .i64 ST.n) (.string ST.name) (.slice x1 ST.r.length x2) (.slice x3 ST.kids.length x4) (.slice x5 ST.sys.length x6)∧TmIn Tt W ST (.agg #[.int .i64 ST.kind,.int .i64 ST.n,.string ST.name,.slice x1 ST.r.length x2,.slice x3 ST.kids.length x4,.slice x5 ST.sys.length x6])):=fun W q=>⟨n5.blw q,hT5.blw q⟩
 clear n5 hT5 hK5 b16
 go_upto_region 6 with fail
 have cc:=cP.out wA _ _ (HT.out wA b1A) (HU.out wA b1A)
 obtain⟨y0,y1,y2,y3,y4,y5,_⟩:=(HC.out wA b1A).cells
 obtain⟨z0,z1,z2,z3,z4,z5,_⟩:=(HD.out wA b1A).cells
 go_wp2_with fail
 refine cc.mono ?_
 rintro e w8 ⟨v8,rfl,t8,b8⟩
 clear cc y0 y1 y2 y3 y4 y5 z0 z1 z2 z3 z4 z5
 have b18:Below w1.heap.size w1 w8:=b1A.trans (b8.mono b1A.size)
 obtain⟨ri,rj,ki,kj,si,sj,rfl,ht8⟩:=t8.tt.form
 obtain⟨w9,hw9⟩:∃ W,W=w8.alloc (.cells #[.int .i64 PT.kind,.int .i64 PT.n,.string PT.name,.slice ri PT.r.length rj,.slice ki PT.kids.length kj,.slice si PT.sys.length sj] 26):=⟨_,rfl⟩
 obtain⟨B8,hB8⟩:∃ V,V=w8.heap.size:=⟨_,rfl⟩
 have b89:Below w8.heap.size w8 w9:=by rw [hw9];exact belowA _ _
 have n9:Six w9 B8 (.int .i64 PT.kind) (.int .i64 PT.n) (.string PT.name) (.slice ri PT.r.length rj) (.slice ki PT.kids.length kj) (.slice si PT.sys.length sj):=⟨by rw [hw9,hB8];exact heapNew _ _⟩
 have b19:Below w1.heap.size w1 w9:=b18.trans (b89.mono b18.size)
 have bA9:Below wA.heap.size wA w9:=bchain b8 b89
 have HBn:Hid (∀ W,Below w9.heap.size w9 W→Six W B8 (.int .i64 PT.kind) (.int .i64 PT.n) (.string PT.name) (.slice ri PT.r.length rj) (.slice ki PT.kids.length kj) (.slice si PT.sys.length sj)∧TmIn Tt W PT (.agg #[.int .i64 PT.kind,.int .i64 PT.n,.string PT.name,.slice ri PT.r.length rj,.slice ki PT.kids.length kj,.slice si PT.sys.length sj])):=fun W q=>⟨n9.blw q,((ht8.blw b89).blw q).value⟩
 have Hw9:Hid (_=_):=hw9
 have HB8:Hid (B8=w8.heap.size):=hB8
 clear hw9 hB8 n9 ht8 t8 b89 b18 b8 cP cS
 go_upto_region 7 with fail
 rw [← Hw9.out]
 simp only [← HB8.out]
 clear Hw9 HB8
 go_cut [67] (fun s1 wx=>s1=.bool false∧Below w9.heap.size w9 wx)
 case first =>
  by_cases hp:PE=0
  rotate_left
  ·have hq:(PE == 0)=false:=by simpa using hp
   have hF:Below w9.heap.size w9 w9:=Below.refl _ _
   clear hp
   go_wp2_with fail
   go_meet
   exact⟨rfl,hF⟩
  by_cases hs:SE=0
  rotate_left
  ·have hq:(SE == 0)=false:=by simpa using hs
   have hF:Below w9.heap.size w9 w9:=Below.refl _ _
   subst hp
   clear hs
   go_wp2_with fail
   go_meet
   exact⟨rfl,hF⟩
  obtain⟨hb,hT⟩:=HS.out.2 hs hp
  clear HS
  subst hp
  subst hs
  subst hb
  have cc:=rsame_anyB 50000 ST PT true _ _ w9 (HXA.out w9 bA9).2 (HBn.out w9 (Below.refl _ _)).2 (by rw [hT];exact HPb.out) (by rw [hT];have:=HPb.out;omega) (wt_of_blk _ _ (Nat.le_refl _) (by rw [hT];have:=HPb.out;omega)) ⟨fun _=>hT,fun _=>rfl⟩
  obtain⟨y0,y1,y2,y3,y4,y5,_⟩:=(HXA.out w9 bA9).1.cells
  obtain⟨z0,z1,z2,z3,z4,z5,_⟩:=(HBn.out w9 (Below.refl _ _)).1.cells
  clear hT
  go_wp2_with fail
  refine cc.mono ?_
  rintro e w10 ⟨rfl,b10⟩
  clear cc y0 y1 y2 y3 y4 y5 z0 z1 z2 z3 z4 z5
  go_wp2_with fail
  go_meet
  exact⟨rfl,b10⟩
 case rest =>
 obtain⟨rfl,hK7⟩:=hcut
 obtain⟨wB,hwB⟩:∃ V,V=wc:=⟨_,rfl⟩
 subst hwB
 have b1B:Below w1.heap.size w1 wB:=b19.trans (Below.mono hK7 b19.size)
 clear hK7 b19 bA9 HXA HBn HPb
 go_upto_region 9 with fail
 go_cut [72] (fun s1 wx=>s1=.bool false∧Below wB.heap.size wB wx)
 case first =>
  have hF:Below wB.heap.size wB wB:=Below.refl _ _
  by_cases hp:PE=0
  ·subst hp
   clear HS
   go_wp2_with fail
   go_meet
   exact⟨rfl,hF⟩
  have hb:=HS.out.1 hp
  have hq:(PE == 0)=false:=by simpa using hp
  have hq2:(PE != 0)=true:=by simpa using hp
  clear HS
  subst hb
  go_wp2_with fail
  go_meet
  exact⟨rfl,hF⟩
 case rest =>
 obtain⟨rfl,hK7⟩:=hcut
 obtain⟨wD,hwD⟩:∃ V,V=wc:=⟨_,rfl⟩
 subst hwD
 have b1D:Below w1.heap.size w1 wD:=b1B.trans (Below.mono hK7 b1B.size)
 clear hK7 b1B HS
 go_upto_region 11 with fail
 obtain⟨A1,hA1⟩:∃ q,q=wD.heap.size:=⟨_,rfl⟩
 obtain⟨wE,hwE⟩:∃ W,W=wD.alloc (.cells #[.int .i64 t.kind,.int .i64 t.n,.string t.name,.slice ra t.r.length rc,.slice ka t.kids.length kc,.slice sa t.sys.length sc,.int .i64 u.kind,.int .i64 u.n,.string u.name,.slice rb u.r.length rd,.slice kb u.kids.length kd,.slice sb u.sys.length sd] 26):=⟨_,rfl⟩
 have bE:Below wD.heap.size wD wE:=by rw [hwE];exact belowA _ _
 have zE:wE.heap[A1]? = some (.cells #[.int .i64 t.kind,.int .i64 t.n,.string t.name,.slice ra t.r.length rc,.slice ka t.kids.length kc,.slice sa t.sys.length sc,.int .i64 u.kind,.int .i64 u.n,.string u.name,.slice rb u.r.length rd,.slice kb u.kids.length kd,.slice sb u.sys.length sd] 26 (0,0)):=by rw [hwE,hA1];exact heapNew _ _
 have b1E:Below w1.heap.size w1 wE:=b1D.trans (bE.mono b1D.size)
 have kE:=kd_two zE (ok:=Tt) trivial (HT.out wE b1E) (HU.out wE b1E)
 have HwE:Hid (_=_):=hwE
 have HA1:Hid (_=_):=hA1
 have cc:=of16_any 8 (some ⟨A1,0,none⟩) 2 2 wE
 obtain⟨y0,y1,y2,y3,y4,y5,_⟩:=(HC.out wD b1D).cells
 obtain⟨z0,z1,z2,z3,z4,z5,_⟩:=(HD.out wD b1D).cells
 clear hwE hA1 zE
 go_wp2_with fail
 simp only [← HA1.out]
 rw [← HwE.out]
 refine cc.mono ?_
 rintro e wF ⟨rfl,bF⟩
 clear cc y0 y1 y2 y3 y4 y5 z0 z1 z2 z3 z4 z5
 have tmP:=mk_in (k:=8) ⟨by decide,by decide⟩ (kE.blw bF)
 have b1F:Below w1.heap.size w1 wF:=b1E.trans (bF.mono b1E.size)
 obtain⟨Pb,hPb⟩:∃ q,q=wF.heap.size:=⟨_,rfl⟩
 obtain⟨wG,hwG⟩:∃ W,W=wF.alloc (.cells #[.int .i64 8,.int .i64 0,.string ⟨#[]⟩,.slice none 0 0,.slice (some ⟨A1,0,none⟩) 2 2,.slice none 0 0] 26):=⟨_,rfl⟩
 have bG:Below wF.heap.size wF wG:=by rw [hwG];exact belowA _ _
 have b1G:Below w1.heap.size w1 wG:=b1F.trans (bG.mono b1F.size)
 have HPr:Hid (∀ W,Below wG.heap.size wG W→Six W Pb (.int .i64 8) (.int .i64 0) (.string ⟨#[]⟩) (.slice none 0 0) (.slice (some ⟨A1,0,none⟩) 2 2) (.slice none 0 0)∧TmIn Tt W (mkT 8 [t,u]) (.agg #[.int .i64 8,.int .i64 0,.string ⟨#[]⟩,.slice none 0 0,.slice (some ⟨A1,0,none⟩) 2 2,.slice none 0 0])):=fun W q=>⟨(⟨by rw [hwG,hPb];exact heapNew _ _⟩:Six wG Pb (.int .i64 8) (.int .i64 0) (.string ⟨#[]⟩) (.slice none 0 0) (.slice (some ⟨A1,0,none⟩) 2 2) (.slice none 0 0)).blw q,(tmP.blw bG).blw q⟩
 have HwG:Hid (_=_):=hwG
 have HPb:Hid (Pb=wF.heap.size):=hPb
 clear hwG hPb tmP kE bE bF bG b1D b1E b1F
 go_upto_region 12 with fail
 rw [← HwG.out]
 simp only [← HPb.out]
 clear HwG HPb HwE HA1
 obtain⟨wf,hwf⟩:∃ n,n=wrongN true 0 0 (mkT 9 [mkT 8 [t,u]]):=⟨_,rfl⟩
 have HF1:Hid (stE 2 0 (mkT 9 [mkT 8 [t,u]]) t=(wf:Int)∧(wf=0→stB 2 0 (mkT 9 [mkT 8 [t,u]]) t=true∧stT 2 0 (mkT 9 [mkT 8 [t,u]]) t=t)):=by
  have e0:wf=wrongN true 0 0 (mkT 9 [mkT 8 [t,u]]):=hwf
  by_cases q:wf=0
  ·have z:=st_ok (k:=2) (E:=0) (t:=(mkT 9 [mkT 8 [t,u]])) (M:=t) ⟨e0.symm.trans q,by decide,rfl,Hftz.out⟩
   exact⟨by rw [z.2.2,q];rfl,fun _=>⟨z.1,z.2.1⟩⟩
  ·exact⟨by unfold stE;rw [if_neg (by rw [← e0];exact q),e0],fun h=>absurd h q⟩
 have HF2:Hid (stE 3 0 (mkT 10 [mkT 8 [t,u]]) u=(wf:Int)∧(wf=0→stB 3 0 (mkT 10 [mkT 8 [t,u]]) u=true∧stT 3 0 (mkT 10 [mkT 8 [t,u]]) u=u)):=by
  have e0:wf=wrongN true 0 0 (mkT 10 [mkT 8 [t,u]]):=hwf.trans (wr_fs _)
  by_cases q:wf=0
  ·have z:=st_ok (k:=3) (E:=0) (t:=(mkT 10 [mkT 8 [t,u]])) (M:=u) ⟨e0.symm.trans q,by decide,rfl,Hfuz.out⟩
   exact⟨by rw [z.2.2,q];rfl,fun _=>⟨z.1,z.2.1⟩⟩
  ·exact⟨by unfold stE;rw [if_neg (by rw [← e0];exact q),e0],fun h=>absurd h q⟩
 clear hwf
 have G0:Below wG.heap.size wG wG:=Below.refl _ _
 obtain⟨I1,hI1⟩:∃ x,x=stB 2 0 (mkT 9 [mkT 8 [t,u]]) t:=⟨_,rfl⟩
 obtain⟨C1,hC1⟩:∃ x,x=stT 2 0 (mkT 9 [mkT 8 [t,u]]) t:=⟨_,rfl⟩
 have cQ:Hid (∀ V v,TmIn Tt V (mkT 9 [mkT 8 [t,u]]) v→Calls Tryz.prog 22 #[v] V fun e w'=>∃ v',e=.returned (.tuple #[v',.bool I1,.int .i64 (wf:Int)])∧TmIn (fun q=>V.heap.size≤q) w' C1 v'∧Below V.heap.size V w'):=fun V v h=>by
  have z:=st_fst t u v V h HG1.out HG2.out
  rw [HF1.out.1,← hI1,← hC1] at z
  exact z
 have HO1:Hid (wf=0→I1=true∧C1=t):=fun q=>by rw [hI1,hC1];exact HF1.out.2 q
 clear hI1 hC1 HF1
 obtain⟨D1,hD1⟩:∃ q,q=wG.heap.size:=⟨_,rfl⟩
 obtain⟨wH1,hwH1⟩:∃ W,W=wG.alloc (.cells #[.int .i64 8,.int .i64 0,.string ⟨#[]⟩,.slice none 0 0,.slice (some ⟨A1,0,none⟩) 2 2,.slice none 0 0] 26):=⟨_,rfl⟩
 have bH1:Below wG.heap.size wG wH1:=by rw [hwH1];exact belowA _ _
 have zH:wH1.heap[D1]? = some (.cells #[.int .i64 8,.int .i64 0,.string ⟨#[]⟩,.slice none 0 0,.slice (some ⟨A1,0,none⟩) 2 2,.slice none 0 0] 26 (0,0)):=by rw [hwH1,hD1];exact heapNew _ _
 have g1:Below wG.heap.size wG wH1:=G0.trans (bH1.mono G0.size)
 have b1H:Below w1.heap.size w1 wH1:=b1G.trans (bH1.mono b1G.size)
 have kH:=kd_one zH (ok:=Tt) trivial (HPr.out wH1 g1).2
 have HwH:Hid (_=_):=hwH1
 have HDn:Hid (_=_):=hD1
 have cc:=of16_any 9 (some ⟨D1,0,none⟩) 1 1 wH1
 obtain⟨y0,y1,y2,y3,y4,y5,_⟩:=(HPr.out wG G0).1.cells
 clear hwH1 hD1 zH
 go_wp2_with fail
 simp only [← HDn.out]
 rw [← HwH.out]
 refine cc.mono ?_
 rintro e wI1 ⟨rfl,bI⟩
 clear cc y0 y1 y2 y3 y4 y5
 have tmF:=mk_in (k:=9) ⟨by decide,by decide⟩ (kH.blw bI)
 have g2:Below wG.heap.size wG wI1:=g1.trans (bI.mono g1.size)
 have b1I:Below w1.heap.size w1 wI1:=b1H.trans (bI.mono b1H.size)
 have cc:=cQ.out wI1 _ tmF
 clear kH tmF cQ
 go_wp2_with fail
 refine cc.mono ?_
 rintro e wJ1 ⟨vJ,rfl,tJ,bJ⟩
 clear cc
 have g3:Below wG.heap.size wG wJ1:=g2.trans (bJ.mono g2.size)
 have b1J:Below w1.heap.size w1 wJ1:=b1I.trans (bJ.mono b1I.size)
 obtain⟨p11,p12,p13,p14,p15,p16,rfl,htJ⟩:=tJ.tt.form
 obtain⟨wK1,hwK⟩:∃ W,W=wJ1.alloc (.cells #[.int .i64 C1.kind,.int .i64 C1.n,.string C1.name,.slice p11 C1.r.length p12,.slice p13 C1.kids.length p14,.slice p15 C1.sys.length p16] 26):=⟨_,rfl⟩
 obtain⟨E1,hE⟩:∃ V,V=wJ1.heap.size:=⟨_,rfl⟩
 have bK:Below wJ1.heap.size wJ1 wK1:=by rw [hwK];exact belowA _ _
 have HK1:Hid (∀ W,Below wK1.heap.size wK1 W→Six W E1 (.int .i64 C1.kind) (.int .i64 C1.n) (.string C1.name) (.slice p11 C1.r.length p12) (.slice p13 C1.kids.length p14) (.slice p15 C1.sys.length p16)∧TmIn Tt W C1 (.agg #[.int .i64 C1.kind,.int .i64 C1.n,.string C1.name,.slice p11 C1.r.length p12,.slice p13 C1.kids.length p14,.slice p15 C1.sys.length p16])):=fun W q=>⟨(⟨by rw [hwK,hE];exact heapNew _ _⟩:Six wK1 E1 (.int .i64 C1.kind) (.int .i64 C1.n) (.string C1.name) (.slice p11 C1.r.length p12) (.slice p13 C1.kids.length p14) (.slice p15 C1.sys.length p16)).blw q,((htJ.blw bK).blw q).value⟩
 have g41:Below wG.heap.size wG wK1:=g3.trans (bK.mono g3.size)
 have b1K1:Below w1.heap.size w1 wK1:=b1J.trans (bK.mono b1J.size)
 have kk1:Below wG.heap.size wG wK1:=bchain bH1 (bchain bI (bchain bJ bK))
 have HwK:Hid (_=_):=hwK
 have HE:Hid (E1=wJ1.heap.size):=hE
 clear hwK hE htJ tJ bK bJ bI g1 g2 g3 b1H b1I b1J bH1
 go_upto_region 13 with fail
 rw [← HwK.out]
 simp only [← HE.out]
 clear HwK HE HwH HDn
 obtain⟨I2,hI2⟩:∃ x,x=stB 3 0 (mkT 10 [mkT 8 [t,u]]) u:=⟨_,rfl⟩
 obtain⟨C2,hC2⟩:∃ x,x=stT 3 0 (mkT 10 [mkT 8 [t,u]]) u:=⟨_,rfl⟩
 have cQ:Hid (∀ V v,TmIn Tt V (mkT 10 [mkT 8 [t,u]]) v→Calls Tryz.prog 22 #[v] V fun e w'=>∃ v',e=.returned (.tuple #[v',.bool I2,.int .i64 (wf:Int)])∧TmIn (fun q=>V.heap.size≤q) w' C2 v'∧Below V.heap.size V w'):=fun V v h=>by
  have z:=st_snd t u v V h HG1.out HG2.out
  rw [HF2.out.1,← hI2,← hC2] at z
  exact z
 have HO2:Hid (wf=0→I2=true∧C2=u):=fun q=>by rw [hI2,hC2];exact HF2.out.2 q
 clear hI2 hC2 HF2
 obtain⟨D2,hD2⟩:∃ q,q=wK1.heap.size:=⟨_,rfl⟩
 obtain⟨wH2,hwH2⟩:∃ W,W=wK1.alloc (.cells #[.int .i64 8,.int .i64 0,.string ⟨#[]⟩,.slice none 0 0,.slice (some ⟨A1,0,none⟩) 2 2,.slice none 0 0] 26):=⟨_,rfl⟩
 have bH2:Below wK1.heap.size wK1 wH2:=by rw [hwH2];exact belowA _ _
 have zH:wH2.heap[D2]? = some (.cells #[.int .i64 8,.int .i64 0,.string ⟨#[]⟩,.slice none 0 0,.slice (some ⟨A1,0,none⟩) 2 2,.slice none 0 0] 26 (0,0)):=by rw [hwH2,hD2];exact heapNew _ _
 have g1:Below wG.heap.size wG wH2:=g41.trans (bH2.mono g41.size)
 have b1H:Below w1.heap.size w1 wH2:=b1K1.trans (bH2.mono b1K1.size)
 have kH:=kd_one zH (ok:=Tt) trivial (HPr.out wH2 g1).2
 have HwH:Hid (_=_):=hwH2
 have HDn:Hid (_=_):=hD2
 have cc:=of16_any 10 (some ⟨D2,0,none⟩) 1 1 wH2
 obtain⟨y0,y1,y2,y3,y4,y5,_⟩:=(HPr.out wK1 g41).1.cells
 clear hwH2 hD2 zH
 go_wp2_with fail
 simp only [← HDn.out]
 rw [← HwH.out]
 refine cc.mono ?_
 rintro e wI2 ⟨rfl,bI⟩
 clear cc y0 y1 y2 y3 y4 y5
 have tmF:=mk_in (k:=10) ⟨by decide,by decide⟩ (kH.blw bI)
 have g2:Below wG.heap.size wG wI2:=g1.trans (bI.mono g1.size)
 have b1I:Below w1.heap.size w1 wI2:=b1H.trans (bI.mono b1H.size)
 have cc:=cQ.out wI2 _ tmF
 clear kH tmF cQ
 go_wp2_with fail
 refine cc.mono ?_
 rintro e wJ2 ⟨vJ,rfl,tJ,bJ⟩
 clear cc
 have g3:Below wG.heap.size wG wJ2:=g2.trans (bJ.mono g2.size)
 have b1J:Below w1.heap.size w1 wJ2:=b1I.trans (bJ.mono b1I.size)
 obtain⟨p21,p22,p23,p24,p25,p26,rfl,htJ⟩:=tJ.tt.form
 obtain⟨wK2,hwK⟩:∃ W,W=wJ2.alloc (.cells #[.int .i64 C2.kind,.int .i64 C2.n,.string C2.name,.slice p21 C2.r.length p22,.slice p23 C2.kids.length p24,.slice p25 C2.sys.length p26] 26):=⟨_,rfl⟩
 obtain⟨E2,hE⟩:∃ V,V=wJ2.heap.size:=⟨_,rfl⟩
 have bK:Below wJ2.heap.size wJ2 wK2:=by rw [hwK];exact belowA _ _
 have HK2:Hid (∀ W,Below wK2.heap.size wK2 W→Six W E2 (.int .i64 C2.kind) (.int .i64 C2.n) (.string C2.name) (.slice p21 C2.r.length p22) (.slice p23 C2.kids.length p24) (.slice p25 C2.sys.length p26)∧TmIn Tt W C2 (.agg #[.int .i64 C2.kind,.int .i64 C2.n,.string C2.name,.slice p21 C2.r.length p22,.slice p23 C2.kids.length p24,.slice p25 C2.sys.length p26])):=fun W q=>⟨(⟨by rw [hwK,hE];exact heapNew _ _⟩:Six wK2 E2 (.int .i64 C2.kind) (.int .i64 C2.n) (.string C2.name) (.slice p21 C2.r.length p22) (.slice p23 C2.kids.length p24) (.slice p25 C2.sys.length p26)).blw q,((htJ.blw bK).blw q).value⟩
 have g42:Below wG.heap.size wG wK2:=g3.trans (bK.mono g3.size)
 have b1K2:Below w1.heap.size w1 wK2:=b1J.trans (bK.mono b1J.size)
 have kk2:Below wK1.heap.size wK1 wK2:=bchain bH2 (bchain bI (bchain bJ bK))
 have HwK:Hid (_=_):=hwK
 have HE:Hid (E2=wJ2.heap.size):=hE
 clear hwK hE htJ tJ bK bJ bI g1 g2 g3 b1H b1I b1J bH2
 go_upto_region 14 with fail
 rw [← HwK.out]
 simp only [← HE.out]
 clear HwK HE HwH HDn
 by_cases hz:wf=0
 rotate_left
 ·have hz1:(((wf:Nat):Int) == 0)=false:=by simpa using hz
  have hF:=HB.out wK2 b1K2
  have hz2:(((wf:Nat):Int) != 0)=true:=by simpa using hz
  clear HO1 HO2
  go_wp2_with fail
  go_ret
  exact⟨rfl,hF⟩
 obtain⟨i1,q1⟩:=HO1.out hz
 obtain⟨i2,q2⟩:=HO2.out hz
 clear HO1 HO2
 subst hz
 subst i1
 subst i2
 have cc:=rsame_anyB 50000 C1 t true _ _ wK2 (HK1.out wK2 kk2).2 (HT.out wK2 b1K2) (by rw [q1];have:=HG1.out;omega) (by rw [q1];have:=HG1.out;omega) (wt_of_blk _ _ (Nat.le_refl _) (by rw [q1];have:=HG1.out;omega)) ⟨fun _=>q1,fun _=>rfl⟩
 obtain⟨y0,y1,y2,y3,y4,y5,_⟩:=(HK1.out wK2 kk2).1.cells
 obtain⟨z0,z1,z2,z3,z4,z5,_⟩:=(HC.out wK2 b1K2).cells
 have Hq2:Hid (C2=u):=q2
 clear q1 q2
 go_wp2_with fail
 refine cc.mono ?_
 rintro e wL ⟨rfl,bL⟩
 clear cc y0 y1 y2 y3 y4 y5 z0 z1 z2 z3 z4 z5
 have b1L:Below w1.heap.size w1 wL:=b1K2.trans (bL.mono b1K2.size)
 have cc:=rsame_anyB 50000 C2 u true _ _ wL (HK2.out wL bL).2 (HU.out wL b1L) (by rw [Hq2.out];have:=HG2.out;omega) (by rw [Hq2.out];have:=HG2.out;omega) (wt_of_blk _ _ (Nat.le_refl _) (by rw [Hq2.out];have:=HG2.out;omega)) ⟨fun _=>Hq2.out,fun _=>rfl⟩
 obtain⟨y0,y1,y2,y3,y4,y5,_⟩:=(HK2.out wL bL).1.cells
 obtain⟨z0,z1,z2,z3,z4,z5,_⟩:=(HD.out wL b1L).cells
 go_wp2_with fail
 refine cc.mono ?_
 rintro e wM ⟨rfl,bM⟩
 clear cc y0 y1 y2 y3 y4 y5 z0 z1 z2 z3 z4 z5
 have hF:=HB.out wM (b1L.trans (bM.mono b1L.size))
 go_wp2_with fail
 go_ret
 exact⟨rfl,hF⟩
end Go.Proofs.YtmblbmdchinflaaGreat
