/- Beta: what a node is behind its step. -/
import Derived.Test.YtmblbmdchinflaaGreatBG16
import Derived.Test.YtmblbmdchinflaaGreatBYDmT
import Derived.Test.YtmblbmdchinflaaGreatBG31
set_option linter.unusedVariables false
set_option linter.unusedSimpArgs false
namespace Go.Proofs.YtmblbmdchinflaaGreat
open Go.RowKit
set_option maxRecDepth 100000 in
set_option maxHeartbeats 4000000 in
theorem bec_first (t x b:Tm) (v:Value) (w:World) (hv:TmIn Tt w t v) (hx:t.kids[0]? = some x) (hb:x.kids[0]? = some b) :
  Calls Tryz.prog 56 #[v,.int .i64 2] w fun e w'=>∃ v',e=.returned (.tuple #[v',.int .i64 0])∧TmIn Tt w' b v'∧Below w.heap.size w w':=by
 have hv0:TmIn (fun q=>q<w.heap.size) w t v:=hv.lt' (fun q _ h=>h)
 obtain⟨ra,rc,ka,kc,sa,sc,rfl,ht⟩:=hv0.form
 obtain⟨w1,hw1⟩:∃ W,W=(w.alloc (.cells #[.int .i64 t.kind,.int .i64 t.n,.string t.name,.slice ra t.r.length rc,.slice ka t.kids.length kc,.slice sa t.sys.length sc] 26)).alloc (.cells #[.int .i64 0,.int .i64 0,.string ⟨#[]⟩,.slice none 0 0,.slice none 0 0,.slice none 0 0] 26):=⟨_,rfl⟩
 have b1:Below w.heap.size w w1:=by rw [hw1];exact bchain (belowA _ _) (belowA _ _)
 obtain⟨X,hX⟩:∃ X,X=w.heap.size:=⟨_,rfl⟩
 have s1:w1.heap.size=X+2:=by rw [hw1,hX];simp
 have x1:Six w1 X (.int .i64 t.kind) (.int .i64 t.n) (.string t.name) (.slice ra t.r.length rc) (.slice ka t.kids.length kc) (.slice sa t.sys.length sc):=⟨by rw [hX,hw1];exact (Below.heap_alloc _ _ _ (by simp)).trans (heapNew w _)⟩
 have x2:Six w1 (X+1) (.int .i64 0) (.int .i64 0) (.string ⟨#[]⟩) (.slice none 0 0) (.slice none 0 0) (.slice none 0 0):=⟨by
  rw [hX,hw1];have:=heapNew (w.alloc (.cells #[.int .i64 t.kind,.int .i64 t.n,.string t.name,.slice ra t.r.length rc,.slice ka t.kids.length kc,.slice sa t.sys.length sc] 26)) (.cells #[.int .i64 0,.int .i64 0,.string ⟨#[]⟩,.slice none 0 0,.slice none 0 0,.slice none 0 0] 26);rwa [World.size_alloc] at this⟩
 have ht1:=ht.blw b1
 rw [← hX] at ht1
 obtain⟨g,off,ra1,rc1,ka1,kc1,sa1,sc1,rfl,_,q6,qt⟩:=ht1.kids.at hx
 obtain⟨g2,off2,ra2,rc2,ka2,kc2,sa2,sc2,rfl,_,p6,pt⟩:=qt.kids.at hb
 have hlen:0<t.kids.length:=(List.getElem?_eq_some_iff.1 hx).1
 have hlen2:0<x.kids.length:=(List.getElem?_eq_some_iff.1 hb).1
 have hLI:(0:Int) < (t.kids.length:Int):=by omega
 have hLJ:(0:Int) < (x.kids.length:Int):=by omega
 obtain⟨y0,y1,y2,y3,y4,y5,_⟩:=x1.cells
 obtain⟨_,z0,z1,z2,z3,z4,z5⟩:=q6
 obtain⟨_,p0,p1,p2,p3,p4,p5⟩:=p6
 simp only [Nat.zero_add,Nat.zero_mul,Nat.add_zero,Nat.one_mul] at z0 z1 z2 z3 z4 z5 p0 p1 p2 p3 p4 p5
 have zz2:=x2.set6 (.int .i64 b.kind) (.int .i64 b.n) (.string b.name) (.slice ra2 b.r.length rc2) (.slice ka2 b.kids.length kc2) (.slice sa2 b.sys.length sc2)
 obtain⟨o0,o1,o2,o3,o4,o5,ff⟩:=x2.cells
 have f0:=ff 0
 have f1:=ff 1
 have f2:=ff 2
 have f3:=ff 3
 have f4:=ff 4
 have f5:=ff 5
 obtain⟨wz,hwz⟩:∃ W,W=(((((w1.setCell ⟨X+1,0,none⟩ (.int .i64 b.kind)).setCell ⟨X+1,1,none⟩ (.int .i64 b.n)).setCell ⟨X+1,2,none⟩ (.string b.name)).setCell ⟨X+1,3,none⟩ (.slice ra2 b.r.length rc2)).setCell ⟨X+1,4,none⟩ (.slice ka2 b.kids.length kc2)).setCell ⟨X+1,5,none⟩ (.slice sa2 b.sys.length sc2):=⟨_,rfl⟩
 rw [← hwz] at zz2
 have kz:Kn (fun q=>q≠X+1) w1 wz:=by rw [hwz];exact kn_set66 _ _ _ _ _ _ _ _
 have hT:Hid (TmIn Tt wz b (.agg #[.int .i64 b.kind,.int .i64 b.n,.string b.name,.slice ra2 b.r.length rc2,.slice ka2 b.kids.length kc2,.slice sa2 b.sys.length sc2])):=((pt.kn kz (fun q h=>by show q≠X+1;omega)).tt).value
 have hK4:Hid (Below X w wz):=by have q:=b1.trans (kz.below (fun q hq=>by show q≠X+1;omega) b1.size);rw [hX];exact q
 have H1:Hid (_=_):=hw1
 have HX:Hid (X=w.heap.size):=hX
 obtain⟨h0,h1,h2,h3,h4,h5,_⟩:=zz2.cells
 have Hwz:Hid (_=_):=hwz
 rw [← hX]
 clear hw1 hv hv0 ht ht1 b1 hX s1 x1 x2 qt pt kz ff zz2 hlen hlen2 hwz hx hb
 go_enter Tryz.func56,Tryz.ntmps56
 go_upto_region 1 with fail
 rw [← H1.out]
 simp only [← HX.out]
 clear H1
 go_wp2_with fail
 rw [← Hwz.out]
 exact bodyPost_ret (v:=.tuple #[.agg #[.int .i64 b.kind,.int .i64 b.n,.string b.name,.slice ra2 b.r.length rc2,.slice ka2 b.kids.length kc2,.slice sa2 b.sys.length sc2],.int .i64 0]) (by simp only [results,Tryz.results56];simp [go_sem,h0,h1,h2,h3,h4,h5]) rfl ⟨_,rfl,hT.out,hK4.out⟩
set_option maxRecDepth 100000 in
set_option maxHeartbeats 4000000 in
theorem bec_second (t x b:Tm) (v:Value) (w:World) (hv:TmIn Tt w t v) (hx:t.kids[0]? = some x) (hb:x.kids[1]? = some b) :
  Calls Tryz.prog 56 #[v,.int .i64 3] w fun e w'=>∃ v',e=.returned (.tuple #[v',.int .i64 0])∧TmIn Tt w' b v'∧Below w.heap.size w w':=by
 have hv0:TmIn (fun q=>q<w.heap.size) w t v:=hv.lt' (fun q _ h=>h)
 obtain⟨ra,rc,ka,kc,sa,sc,rfl,ht⟩:=hv0.form
 obtain⟨w1,hw1⟩:∃ W,W=(w.alloc (.cells #[.int .i64 t.kind,.int .i64 t.n,.string t.name,.slice ra t.r.length rc,.slice ka t.kids.length kc,.slice sa t.sys.length sc] 26)).alloc (.cells #[.int .i64 0,.int .i64 0,.string ⟨#[]⟩,.slice none 0 0,.slice none 0 0,.slice none 0 0] 26):=⟨_,rfl⟩
 have b1:Below w.heap.size w w1:=by rw [hw1];exact bchain (belowA _ _) (belowA _ _)
 obtain⟨X,hX⟩:∃ X,X=w.heap.size:=⟨_,rfl⟩
 have s1:w1.heap.size=X+2:=by rw [hw1,hX];simp
 have x1:Six w1 X (.int .i64 t.kind) (.int .i64 t.n) (.string t.name) (.slice ra t.r.length rc) (.slice ka t.kids.length kc) (.slice sa t.sys.length sc):=⟨by rw [hX,hw1];exact (Below.heap_alloc _ _ _ (by simp)).trans (heapNew w _)⟩
 have x2:Six w1 (X+1) (.int .i64 0) (.int .i64 0) (.string ⟨#[]⟩) (.slice none 0 0) (.slice none 0 0) (.slice none 0 0):=⟨by
  rw [hX,hw1];have:=heapNew (w.alloc (.cells #[.int .i64 t.kind,.int .i64 t.n,.string t.name,.slice ra t.r.length rc,.slice ka t.kids.length kc,.slice sa t.sys.length sc] 26)) (.cells #[.int .i64 0,.int .i64 0,.string ⟨#[]⟩,.slice none 0 0,.slice none 0 0,.slice none 0 0] 26);rwa [World.size_alloc] at this⟩
 have ht1:=ht.blw b1
 rw [← hX] at ht1
 obtain⟨g,off,ra1,rc1,ka1,kc1,sa1,sc1,rfl,_,q6,qt⟩:=ht1.kids.at hx
 obtain⟨g2,off2,ra2,rc2,ka2,kc2,sa2,sc2,rfl,_,p6,pt⟩:=qt.kids.at hb
 have hlen:0<t.kids.length:=(List.getElem?_eq_some_iff.1 hx).1
 have hlen2:1<x.kids.length:=(List.getElem?_eq_some_iff.1 hb).1
 have hLI:(0:Int) < (t.kids.length:Int):=by omega
 have hLJ:(1:Int) < (x.kids.length:Int):=by omega
 obtain⟨y0,y1,y2,y3,y4,y5,_⟩:=x1.cells
 obtain⟨_,z0,z1,z2,z3,z4,z5⟩:=q6
 obtain⟨_,p0,p1,p2,p3,p4,p5⟩:=p6
 simp only [Nat.zero_add,Nat.zero_mul,Nat.add_zero,Nat.one_mul] at z0 z1 z2 z3 z4 z5 p0 p1 p2 p3 p4 p5
 have zz2:=x2.set6 (.int .i64 b.kind) (.int .i64 b.n) (.string b.name) (.slice ra2 b.r.length rc2) (.slice ka2 b.kids.length kc2) (.slice sa2 b.sys.length sc2)
 obtain⟨o0,o1,o2,o3,o4,o5,ff⟩:=x2.cells
 have f0:=ff 0
 have f1:=ff 1
 have f2:=ff 2
 have f3:=ff 3
 have f4:=ff 4
 have f5:=ff 5
 obtain⟨wz,hwz⟩:∃ W,W=(((((w1.setCell ⟨X+1,0,none⟩ (.int .i64 b.kind)).setCell ⟨X+1,1,none⟩ (.int .i64 b.n)).setCell ⟨X+1,2,none⟩ (.string b.name)).setCell ⟨X+1,3,none⟩ (.slice ra2 b.r.length rc2)).setCell ⟨X+1,4,none⟩ (.slice ka2 b.kids.length kc2)).setCell ⟨X+1,5,none⟩ (.slice sa2 b.sys.length sc2):=⟨_,rfl⟩
 rw [← hwz] at zz2
 have kz:Kn (fun q=>q≠X+1) w1 wz:=by rw [hwz];exact kn_set66 _ _ _ _ _ _ _ _
 have hT:Hid (TmIn Tt wz b (.agg #[.int .i64 b.kind,.int .i64 b.n,.string b.name,.slice ra2 b.r.length rc2,.slice ka2 b.kids.length kc2,.slice sa2 b.sys.length sc2])):=((pt.kn kz (fun q h=>by show q≠X+1;omega)).tt).value
 have hK4:Hid (Below X w wz):=by have q:=b1.trans (kz.below (fun q hq=>by show q≠X+1;omega) b1.size);rw [hX];exact q
 have H1:Hid (_=_):=hw1
 have HX:Hid (X=w.heap.size):=hX
 obtain⟨h0,h1,h2,h3,h4,h5,_⟩:=zz2.cells
 have Hwz:Hid (_=_):=hwz
 rw [← hX]
 clear hw1 hv hv0 ht ht1 b1 hX s1 x1 x2 qt pt kz ff zz2 hlen hlen2 hwz hx hb
 go_enter Tryz.func56,Tryz.ntmps56
 go_upto_region 1 with fail
 rw [← H1.out]
 simp only [← HX.out]
 clear H1
 go_wp2_with fail
 rw [← Hwz.out]
 exact bodyPost_ret (v:=.tuple #[.agg #[.int .i64 b.kind,.int .i64 b.n,.string b.name,.slice ra2 b.r.length rc2,.slice ka2 b.kids.length kc2,.slice sa2 b.sys.length sc2],.int .i64 0]) (by simp only [results,Tryz.results56];simp [go_sem,h0,h1,h2,h3,h4,h5]) rfl ⟨_,rfl,hT.out,hK4.out⟩
set_option maxRecDepth 100000 in
set_option maxHeartbeats 4000000 in
theorem bec_applied (hLA:LAll) (t x b a:Tm) (v:Value) (w:World) (hv:TmIn Tt w t v) (hx:t.kids[0]? = some x) (hb:x.kids[0]? = some b) (ha:t.kids[1]? = some a) (hbb:blk b≤20000) (hba:blk a≤20000) (hsm:wrongN true 0 0 b=0→eP 0 a b 0 0=0→¬ 20000<(sizeT b:Int) + cnP 0 b 0*((sizeT a:Int) - 1)→blk (putT 0 a b 0 0)≤10000000) :
  Calls Tryz.prog 56 #[v,.int .i64 1] w fun e w'=>∃ v',e=.returned (.tuple #[v',.int .i64 (plE 0 b a)])∧TmIn Tt w' (plT 0 b a) v'∧Below w.heap.size w w':=by
 have hv0:TmIn (fun q=>q<w.heap.size) w t v:=hv.lt' (fun q _ h=>h)
 obtain⟨ra,rc,ka,kc,sa,sc,rfl,ht⟩:=hv0.form
 obtain⟨w1,hw1⟩:∃ W,W=(w.alloc (.cells #[.int .i64 t.kind,.int .i64 t.n,.string t.name,.slice ra t.r.length rc,.slice ka t.kids.length kc,.slice sa t.sys.length sc] 26)).alloc (.cells #[.int .i64 0,.int .i64 0,.string ⟨#[]⟩,.slice none 0 0,.slice none 0 0,.slice none 0 0] 26):=⟨_,rfl⟩
 have b1:Below w.heap.size w w1:=by rw [hw1];exact bchain (belowA _ _) (belowA _ _)
 obtain⟨X,hX⟩:∃ X,X=w.heap.size:=⟨_,rfl⟩
 have s1:w1.heap.size=X+2:=by rw [hw1,hX];simp
 have x1:Six w1 X (.int .i64 t.kind) (.int .i64 t.n) (.string t.name) (.slice ra t.r.length rc) (.slice ka t.kids.length kc) (.slice sa t.sys.length sc):=⟨by rw [hX,hw1];exact (Below.heap_alloc _ _ _ (by simp)).trans (heapNew w _)⟩
 have x2:Six w1 (X+1) (.int .i64 0) (.int .i64 0) (.string ⟨#[]⟩) (.slice none 0 0) (.slice none 0 0) (.slice none 0 0):=⟨by
  rw [hX,hw1];have:=heapNew (w.alloc (.cells #[.int .i64 t.kind,.int .i64 t.n,.string t.name,.slice ra t.r.length rc,.slice ka t.kids.length kc,.slice sa t.sys.length sc] 26)) (.cells #[.int .i64 0,.int .i64 0,.string ⟨#[]⟩,.slice none 0 0,.slice none 0 0,.slice none 0 0] 26);rwa [World.size_alloc] at this⟩
 have ht1:=ht.blw b1
 rw [← hX] at ht1
 obtain⟨g,off,ra1,rc1,ka1,kc1,sa1,sc1,rfl,hgX,q6,qt⟩:=ht1.kids.at hx
 obtain⟨g2,off2,ra2,rc2,ka2,kc2,sa2,sc2,rfl,hgX2,p6,pt⟩:=qt.kids.at hb
 obtain⟨g3,off3,ra3,rc3,ka3,kc3,sa3,sc3,hg3,_,r6,rt⟩:=ht1.kids.at ha
 injection hg3 with hg3
 injection hg3 with hg3 hoff3
 subst hg3
 subst hoff3
 have hlen:0<t.kids.length:=(List.getElem?_eq_some_iff.1 hx).1
 have hlen2:0<x.kids.length:=(List.getElem?_eq_some_iff.1 hb).1
 have hlen3:1<t.kids.length:=(List.getElem?_eq_some_iff.1 ha).1
 obtain⟨L,hL⟩:∃ L,L=t.kids.length:=⟨_,rfl⟩
 have hLI:(0:Int) < (L:Int):=by omega
 have hLJ:(0:Int) < (x.kids.length:Int):=by omega
 have hL0:¬ L=0:=by omega
 have hx0:¬ x.kids=[]:=fun e=>by rw [e] at hlen2;simp at hlen2
 have hLK:(1:Int) < (L:Int):=by omega
 have HC:Hid (∀ W,Below (X+1) w1 W→Six W X (.int .i64 t.kind) (.int .i64 t.n) (.string t.name) (.slice ra t.r.length rc) (.slice (some ⟨g,off,none⟩) t.kids.length kc) (.slice sa t.sys.length sc)∧Cs6 W g off x ra1 rc1 (some ⟨g2,off2,none⟩) kc1 sa1 sc1∧Cs6 W g2 off2 b ra2 rc2 ka2 kc2 sa2 sc2∧Cs6 W g (off+6) a ra3 rc3 ka3 kc3 sa3 sc3):=fun W q=>⟨⟨(q.block X (by omega)).trans x1.blk⟩,by have:=q6.keep q.size (q.block _ (by omega));simpa using this,by have:=p6.keep q.size (q.block _ (by omega));simpa using this,by have:=r6.keep q.size (q.block _ (by omega));simpa using this⟩
 have HT:Hid (∀ W,Below (X+1) w1 W→TmIn Tt W b (.agg #[.int .i64 b.kind,.int .i64 b.n,.string b.name,.slice ra2 b.r.length rc2,.slice ka2 b.kids.length kc2,.slice sa2 b.sys.length sc2])∧TmIn Tt W a (.agg #[.int .i64 a.kind,.int .i64 a.n,.string a.name,.slice ra3 a.r.length rc3,.slice ka3 a.kids.length kc3,.slice sa3 a.sys.length sc3])):=fun W q=>⟨(pt.kn (kn_lt q) (fun q h=>by show q<X+1;omega)).tt.value,(rt.kn (kn_lt q) (fun q h=>by show q<X+1;omega)).tt.value⟩
 have HP:Hid (∀ W,Below (X+1) w1 W→Calls Tryz.prog 24 #[.agg #[.int .i64 b.kind,.int .i64 b.n,.string b.name,.slice ra2 b.r.length rc2,.slice ka2 b.kids.length kc2,.slice sa2 b.sys.length sc2],.int .i64 0,.agg #[.int .i64 a.kind,.int .i64 a.n,.string a.name,.slice ra3 a.r.length rc3,.slice ka3 a.kids.length kc3,.slice sa3 a.sys.length sc3]] W fun e w'=>∃ v',e=.returned (.tuple #[v',.int .i64 (plE 0 b a)])∧TmIn (fun q=>W.heap.size≤q) w' (plT 0 b a) v'∧Below W.heap.size W w'):=fun W q=>plat_any hLA b a 0 ⟨by decide,by decide⟩ _ _ W (HT.out W q).1 (HT.out W q).2 hbb hba hsm
 obtain⟨E,hE⟩:∃ E,E=plE 0 b a:=⟨_,rfl⟩
 obtain⟨Y,hY⟩:∃ Y,Y=plT 0 b a:=⟨_,rfl⟩
 rw [← hE,← hY] at HP ⊢
 have Hx2:Hid (∀ W,Below w1.heap.size w1 W→Six W (X+1) (.int .i64 0) (.int .i64 0) (.string ⟨#[]⟩) (.slice none 0 0) (.slice none 0 0) (.slice none 0 0)):=fun W q=>x2.blw q
 have HX:Hid (X=w.heap.size):=hX
 have HL:Hid (L=t.kids.length):=hL
 have Hb1:Hid (Below X w w1):=(by rw [hX];exact b1:Below X w w1)
 have Hs1:Hid (w1.heap.size=X+2):=s1
 obtain⟨y0,y1,y2,y3,y4,y5,_⟩:=x1.cells
 rw [← hX]
 rw [← hL] at HC y4 ⊢
 rw [← hL] at hw1
 have H1:Hid (_=_):=hw1
 clear hw1 hv hv0 ht ht1 b1 hX s1 x1 x2 qt pt q6 p6 hlen hlen2 hx hb hL hE hY hbb hsm hba ha hlen3 r6 rt
 go_enter Tryz.func56,Tryz.ntmps56
 go_upto_region 1 with fail
 rw [← H1.out]
 simp only [← HX.out]
 go_upto_region 4 with fail
 clear y0 y1 y2 y3 y4 y5
 refine wp_region_held_drew (S:=fun V=>Below (X+1) w1 V) (by kernel_rfl) ((Below.refl _ _).drew) (fun hS=>?_)
 obtain⟨wd,hwd⟩:∃ V,V=w1.drew:=⟨_,rfl⟩
 have hK:Below w1.heap.size w1 wd:=by rw [hwd];exact (Below.refl _ _).drew
 rw [← hwd] at hS ⊢
 clear hwd
 refine wpAnyH_take (i:=0) (v:=.slice (some ⟨g,off,none⟩) L kc) rfl (by kernel_rfl) (by kernel_rfl) (by kernel_rfl) (fun _ _ _ h=>h) (Or.inl ⟨by rfl,fun w hS=>by go_simp⟩) hS ?_
 try simp only [Act.put,List.getElem_toArray,List.getElem_cons_zero,List.getElem_cons_succ,List.setIfInBounds_toArray,List.set_cons_zero,List.set_cons_succ]
 refine wpAnyH_take (i:=1) (v:=.pointer (some ⟨g,off,none⟩)) rfl (by kernel_rfl) (by kernel_rfl) (by kernel_rfl) (fun _ _ _ h=>h) (Or.inl ⟨by rfl,fun w hS=>by go_simp⟩) hS ?_
 try simp only [Act.put,List.getElem_toArray,List.getElem_cons_zero,List.getElem_cons_succ,List.setIfInBounds_toArray,List.set_cons_zero,List.set_cons_succ]
 refine wpAnyH_take (i:=2) (v:=.pointer (some ⟨g,off+4,none⟩)) rfl (by kernel_rfl) (by kernel_rfl) (by kernel_rfl) (fun _ _ _ h=>h) (Or.inl ⟨by rfl,fun w hS=>by go_simp⟩) hS ?_
 try simp only [Act.put,List.getElem_toArray,List.getElem_cons_zero,List.getElem_cons_succ,List.setIfInBounds_toArray,List.set_cons_zero,List.set_cons_succ]
 refine wpAnyH_take (i:=3) (v:=.slice (some ⟨g2,off2,none⟩) x.kids.length kc1) rfl (by kernel_rfl) (by kernel_rfl) (by kernel_rfl) (fun _ _ _ h=>h) (Or.inl ⟨by rfl,fun w hS=>by obtain⟨c1,c2,c3,c4⟩:=HC.out _ hS;obtain⟨_,z0,z1,z2,z3,z4,z5⟩:=c2;obtain⟨_,p0,p1,p2,p3,p4,p5⟩:=c3;go_simp⟩) hS ?_
 try simp only [Act.put,List.getElem_toArray,List.getElem_cons_zero,List.getElem_cons_succ,List.setIfInBounds_toArray,List.set_cons_zero,List.set_cons_succ]
 refine wpAnyH_take (i:=4) (v:=.pointer (some ⟨g2,off2,none⟩)) rfl (by kernel_rfl) (by kernel_rfl) (by kernel_rfl) (fun _ _ _ h=>h) (Or.inl ⟨by rfl,fun w hS=>by go_simp⟩) hS ?_
 try simp only [Act.put,List.getElem_toArray,List.getElem_cons_zero,List.getElem_cons_succ,List.setIfInBounds_toArray,List.set_cons_zero,List.set_cons_succ]
 refine wpAnyH_take (i:=5) (v:=.agg #[.int .i64 b.kind,.int .i64 b.n,.string b.name,.slice ra2 b.r.length rc2,.slice ka2 b.kids.length kc2,.slice sa2 b.sys.length sc2]) rfl (by kernel_rfl) (by kernel_rfl) (by kernel_rfl) (fun _ _ _ h=>h) (Or.inl ⟨by rfl,fun w hS=>by obtain⟨c1,c2,c3,c4⟩:=HC.out _ hS;obtain⟨_,z0,z1,z2,z3,z4,z5⟩:=c2;obtain⟨_,p0,p1,p2,p3,p4,p5⟩:=c3;go_simp⟩) hS ?_
 try simp only [Act.put,List.getElem_toArray,List.getElem_cons_zero,List.getElem_cons_succ,List.setIfInBounds_toArray,List.set_cons_zero,List.set_cons_succ]
 refine wpAnyH_take (i:=6) (v:=.slice (some ⟨g,off,none⟩) L kc) rfl (by kernel_rfl) (by kernel_rfl) (by kernel_rfl) (fun _ _ _ h=>h) (Or.inl ⟨by rfl,fun w hS=>by go_simp⟩) hS ?_
 try simp only [Act.put,List.getElem_toArray,List.getElem_cons_zero,List.getElem_cons_succ,List.setIfInBounds_toArray,List.set_cons_zero,List.set_cons_succ]
 refine wpAnyH_take (i:=7) (v:=.pointer (some ⟨g,off+6,none⟩)) rfl (by kernel_rfl) (by kernel_rfl) (by kernel_rfl) (fun _ _ _ h=>h) (Or.inl ⟨by rfl,fun w hS=>by go_simp⟩) hS ?_
 try simp only [Act.put,List.getElem_toArray,List.getElem_cons_zero,List.getElem_cons_succ,List.setIfInBounds_toArray,List.set_cons_zero,List.set_cons_succ]
 refine wpAnyH_take (i:=8) (v:=.agg #[.int .i64 a.kind,.int .i64 a.n,.string a.name,.slice ra3 a.r.length rc3,.slice ka3 a.kids.length kc3,.slice sa3 a.sys.length sc3]) rfl (by kernel_rfl) (by kernel_rfl) (by kernel_rfl) (fun _ _ _ h=>h) (Or.inl ⟨by rfl,fun w hS=>by obtain⟨c1,c2,c3,c4⟩:=HC.out _ hS;obtain⟨_,r0,r1,r2,r3,r4,r5⟩:=c4;go_simp⟩) hS ?_
 try simp only [Act.put,List.getElem_toArray,List.getElem_cons_zero,List.getElem_cons_succ,List.setIfInBounds_toArray,List.set_cons_zero,List.set_cons_succ]
 refine wpAnyH_ready (rs:=[9]) (by kernel_rfl) (by simp) ?_
 refine ready_cons rfl (fun KK hKK=>?_) AllReadyH.nil
 refine⟨?_⟩
 have cc:=HP.out wd (hK.mono (by have:=Hs1.out;omega))
 go_simp
 refine cc.mono ?_
 rintro e w2 ⟨v2,rfl,t2,b2⟩
 have hK2:=hK.trans (b2.mono hK.size)
 have hsz:=hK.size
 obtain⟨ra9,rc9,ka9,kc9,sa9,sc9,rfl,ht9⟩:=t2.form
 have t9:=ht9.value
 clear cc t2 ht9
 refine hKK.out _ _ (hK2.mono (by have:=Hs1.out;omega)) (fun hS=>?_)
 clear hKK KK
 try simp only [Act.put,List.getElem_toArray,List.getElem_cons_zero,List.getElem_cons_succ,List.setIfInBounds_toArray,List.set_cons_zero,List.set_cons_succ]
 refine wpAnyH_take (i:=10) (v:=.agg #[.int .i64 Y.kind,.int .i64 Y.n,.string Y.name,.slice ra9 Y.r.length rc9,.slice ka9 Y.kids.length kc9,.slice sa9 Y.sys.length sc9]) rfl (by kernel_rfl) (by kernel_rfl) (by kernel_rfl) (fun _ _ _ h=>h) (Or.inl ⟨by rfl,fun w hS=>by go_simp⟩) hS ?_
 try simp only [Act.put,List.getElem_toArray,List.getElem_cons_zero,List.getElem_cons_succ,List.setIfInBounds_toArray,List.set_cons_zero,List.set_cons_succ]
 refine wpAnyH_take (i:=11) (v:=.int .i64 E) rfl (by kernel_rfl) (by kernel_rfl) (by kernel_rfl) (fun _ _ _ h=>h) (Or.inl ⟨by rfl,fun w hS=>by go_simp⟩) hS ?_
 try simp only [Act.put,List.getElem_toArray,List.getElem_cons_zero,List.getElem_cons_succ,List.setIfInBounds_toArray,List.set_cons_zero,List.set_cons_succ]
 refine wpAnyH_ready (rs:=[12]) (by kernel_rfl) (by simp) ?_
 refine ready_cons rfl (fun KK hKK=>?_) AllReadyH.nil
 have x9:=Hx2.out w2 hK2
 have zz2:=x9.set6 (.int .i64 Y.kind) (.int .i64 Y.n) (.string Y.name) (.slice ra9 Y.r.length rc9) (.slice ka9 Y.kids.length kc9) (.slice sa9 Y.sys.length sc9)
 obtain⟨o0,o1,o2,o3,o4,o5,ff⟩:=x9.cells
 have f0:=ff 0
 have f1:=ff 1
 have f2:=ff 2
 have f3:=ff 3
 have f4:=ff 4
 have f5:=ff 5
 obtain⟨wz,hwz⟩:∃ W,W=(((((w2.setCell ⟨X+1,0,none⟩ (.int .i64 Y.kind)).setCell ⟨X+1,1,none⟩ (.int .i64 Y.n)).setCell ⟨X+1,2,none⟩ (.string Y.name)).setCell ⟨X+1,3,none⟩ (.slice ra9 Y.r.length rc9)).setCell ⟨X+1,4,none⟩ (.slice ka9 Y.kids.length kc9)).setCell ⟨X+1,5,none⟩ (.slice sa9 Y.sys.length sc9):=⟨_,rfl⟩
 rw [← hwz] at zz2
 have kz:Kn (fun q=>q≠X+1) w2 wz:=by rw [hwz];exact kn_set66 _ _ _ _ _ _ _ _
 have hT:Hid (TmIn Tt wz Y (.agg #[.int .i64 Y.kind,.int .i64 Y.n,.string Y.name,.slice ra9 Y.r.length rc9,.slice ka9 Y.kids.length kc9,.slice sa9 Y.sys.length sc9])):=(t9.kn kz (fun q h=>by have:=Hs1.out;show q≠X+1;omega)).tt
 have hKz:Hid (Below X w wz):=(Hb1.out.trans ((hK2.mono (by have:=Hs1.out;omega)))).trans (kz.below (fun q hq=>by show q≠X+1;omega) (by have:=hK2.size;have:=Hs1.out;omega))
 obtain⟨h0,h1,h2,h3,h4,h5,_⟩:=zz2.cells
 have Hwz:Hid (_=_):=hwz
 have kz9:=kz
 clear hwz ff kz zz2 x9 t9
 refine⟨?_⟩
 go_simp
 rw [← Hwz.out]
 refine hKK.out _ _ (Below.trans (hK2.mono (by have:=Hs1.out;omega)) (kz9.below (fun q hq=>by show q≠X+1;omega) (by have:=hK2.size;have:=Hs1.out;omega))) (fun hS=>?_)
 clear hKK KK
 try simp only [Act.put,List.getElem_toArray,List.getElem_cons_zero,List.getElem_cons_succ,List.setIfInBounds_toArray,List.set_cons_zero,List.set_cons_succ]
 refine wpAnyH_take (i:=13) (v:=.int .i64 E) rfl (by kernel_rfl) (by kernel_rfl) (by kernel_rfl) (fun _ _ _ h=>h) (Or.inl ⟨by rfl,fun w hS=>by go_simp⟩) hS ?_
 try simp only [Act.put,List.getElem_toArray,List.getElem_cons_zero,List.getElem_cons_succ,List.setIfInBounds_toArray,List.set_cons_zero,List.set_cons_succ]
 refine wpAnyH_done (by kernel_rfl) ?_ _
 go_wp2_with fail
 exact bodyPost_ret (v:=.tuple #[.agg #[.int .i64 Y.kind,.int .i64 Y.n,.string Y.name,.slice ra9 Y.r.length rc9,.slice ka9 Y.kids.length kc9,.slice sa9 Y.sys.length sc9],.int .i64 E]) (by simp only [results,Tryz.results56];simp [go_sem,h0,h1,h2,h3,h4,h5]) rfl ⟨_,rfl,hT.out,hKz.out⟩
set_option maxRecDepth 100000 in
set_option maxHeartbeats 4000000 in
theorem bec_within (hLA:LAll) (t x b:Tm) (v:Value) (w:World) (hv:TmIn Tt w t v) (hx:t.kids[0]? = some x) (hb:x.kids[0]? = some b) (hbb:blk b≤20000) (hrl:t.r.length≤40000) (hsm:blk (ansD (putOp 0 (liftFF t.r 0 1).1) b)≤40000) :
  Calls Tryz.prog 56 #[v,.int .i64 6] w fun e w'=>∃ v',e=.returned (.tuple #[v',.int .i64 (takE 0 t.r b)])∧TmIn Tt w' (takT 0 t.r b) v'∧Below w.heap.size w w':=by
 have hv0:TmIn (fun q=>q<w.heap.size) w t v:=hv.lt' (fun q _ h=>h)
 obtain⟨ra,rc,ka,kc,sa,sc,rfl,ht⟩:=hv0.form
 obtain⟨w1,hw1⟩:∃ W,W=(w.alloc (.cells #[.int .i64 t.kind,.int .i64 t.n,.string t.name,.slice ra t.r.length rc,.slice ka t.kids.length kc,.slice sa t.sys.length sc] 26)).alloc (.cells #[.int .i64 0,.int .i64 0,.string ⟨#[]⟩,.slice none 0 0,.slice none 0 0,.slice none 0 0] 26):=⟨_,rfl⟩
 have b1:Below w.heap.size w w1:=by rw [hw1];exact bchain (belowA _ _) (belowA _ _)
 obtain⟨X,hX⟩:∃ X,X=w.heap.size:=⟨_,rfl⟩
 have s1:w1.heap.size=X+2:=by rw [hw1,hX];simp
 have x1:Six w1 X (.int .i64 t.kind) (.int .i64 t.n) (.string t.name) (.slice ra t.r.length rc) (.slice ka t.kids.length kc) (.slice sa t.sys.length sc):=⟨by rw [hX,hw1];exact (Below.heap_alloc _ _ _ (by simp)).trans (heapNew w _)⟩
 have x2:Six w1 (X+1) (.int .i64 0) (.int .i64 0) (.string ⟨#[]⟩) (.slice none 0 0) (.slice none 0 0) (.slice none 0 0):=⟨by
  rw [hX,hw1];have:=heapNew (w.alloc (.cells #[.int .i64 t.kind,.int .i64 t.n,.string t.name,.slice ra t.r.length rc,.slice ka t.kids.length kc,.slice sa t.sys.length sc] 26)) (.cells #[.int .i64 0,.int .i64 0,.string ⟨#[]⟩,.slice none 0 0,.slice none 0 0,.slice none 0 0] 26);rwa [World.size_alloc] at this⟩
 have ht1:=ht.blw b1
 rw [← hX] at ht1
 obtain⟨g,off,ra1,rc1,ka1,kc1,sa1,sc1,rfl,hgX,q6,qt⟩:=ht1.kids.at hx
 obtain⟨g2,off2,ra2,rc2,ka2,kc2,sa2,sc2,rfl,hgX2,p6,pt⟩:=qt.kids.at hb
 have hlen:0<t.kids.length:=(List.getElem?_eq_some_iff.1 hx).1
 have hlen2:0<x.kids.length:=(List.getElem?_eq_some_iff.1 hb).1
 obtain⟨L,hL⟩:∃ L,L=t.kids.length:=⟨_,rfl⟩
 have hLI:(0:Int) < (L:Int):=by omega
 have hLJ:(0:Int) < (x.kids.length:Int):=by omega
 have hL0:¬ L=0:=by omega
 have hx0:¬ x.kids=[]:=fun e=>by rw [e] at hlen2;simp at hlen2
 have HC:Hid (∀ W,Below (X+1) w1 W→Six W X (.int .i64 t.kind) (.int .i64 t.n) (.string t.name) (.slice ra t.r.length rc) (.slice (some ⟨g,off,none⟩) t.kids.length kc) (.slice sa t.sys.length sc)∧Cs6 W g off x ra1 rc1 (some ⟨g2,off2,none⟩) kc1 sa1 sc1∧Cs6 W g2 off2 b ra2 rc2 ka2 kc2 sa2 sc2):=fun W q=>⟨⟨(q.block X (by omega)).trans x1.blk⟩,by have:=q6.keep q.size (q.block _ (by omega));simpa using this,by have:=p6.keep q.size (q.block _ (by omega));simpa using this⟩
 have HT:Hid (∀ W,Below (X+1) w1 W→TmIn Tt W b (.agg #[.int .i64 b.kind,.int .i64 b.n,.string b.name,.slice ra2 b.r.length rc2,.slice ka2 b.kids.length kc2,.slice sa2 b.sys.length sc2])∧ClRow Tt W t.r (.slice ra t.r.length rc)):=fun W q=>⟨(pt.kn (kn_lt q) (fun q h=>by show q<X+1;omega)).tt.value,(ht1.kn (kn_lt q) (fun q h=>by show q<X+1;omega)).tt.row⟩
 have HP:Hid (∀ W,Below (X+1) w1 W→Calls Tryz.prog 11 #[.agg #[.int .i64 b.kind,.int .i64 b.n,.string b.name,.slice ra2 b.r.length rc2,.slice ka2 b.kids.length kc2,.slice sa2 b.sys.length sc2],.int .i64 0,.slice ra t.r.length rc] W fun e w'=>∃ v',e=.returned (.tuple #[v',.int .i64 (takE 0 t.r b)])∧TmIn (fun q=>W.heap.size≤q) w' (takT 0 t.r b) v'∧Below W.heap.size W w'):=fun W q=>(dtake_any b _ W (HT.out W q).1 hbb 0 t.r _ (HT.out W q).2 hrl hsm).mono fun e w' h=>by
  obtain⟨v',e1,h1,h2⟩:=h
  exact⟨v',e1,h1.up fun q hq=>hq.1,h2⟩
 obtain⟨E,hE⟩:∃ E,E=takE 0 t.r b:=⟨_,rfl⟩
 obtain⟨Y,hY⟩:∃ Y,Y=takT 0 t.r b:=⟨_,rfl⟩
 rw [← hE,← hY] at HP ⊢
 obtain⟨R,hR⟩:∃ R,R=t.r.length:=⟨_,rfl⟩
 have Hx2:Hid (∀ W,Below w1.heap.size w1 W→Six W (X+1) (.int .i64 0) (.int .i64 0) (.string ⟨#[]⟩) (.slice none 0 0) (.slice none 0 0) (.slice none 0 0)):=fun W q=>x2.blw q
 have HX:Hid (X=w.heap.size):=hX
 have HL:Hid (L=t.kids.length):=hL
 have Hb1:Hid (Below X w w1):=(by rw [hX];exact b1:Below X w w1)
 have Hs1:Hid (w1.heap.size=X+2):=s1
 have HR:Hid (R=t.r.length):=hR
 obtain⟨y0,y1,y2,y3,y4,y5,_⟩:=x1.cells
 rw [← hX]
 rw [← hL] at HC y4 ⊢
 rw [← hR] at HC HP y3 hw1 ⊢
 rw [← hL] at hw1
 have H1:Hid (_=_):=hw1
 clear hw1 hv hv0 ht ht1 b1 hX s1 x1 x2 qt pt q6 p6 hlen hlen2 hx hb hL hE hY hbb hsm hrl hR
 go_enter Tryz.func56,Tryz.ntmps56
 go_upto_region 1 with fail
 rw [← H1.out]
 simp only [← HX.out]
 go_upto_region 12 with fail
 clear y0 y1 y2 y3 y4 y5
 refine wp_region_held_drew (S:=fun V=>Below (X+1) w1 V) (by kernel_rfl) ((Below.refl _ _).drew) (fun hS=>?_)
 obtain⟨wd,hwd⟩:∃ V,V=w1.drew:=⟨_,rfl⟩
 have hK:Below w1.heap.size w1 wd:=by rw [hwd];exact (Below.refl _ _).drew
 rw [← hwd] at hS ⊢
 clear hwd
 refine wpAnyH_take (i:=0) (v:=.slice (some ⟨g,off,none⟩) L kc) rfl (by kernel_rfl) (by kernel_rfl) (by kernel_rfl) (fun _ _ _ h=>h) (Or.inl ⟨by rfl,fun w hS=>by go_simp⟩) hS ?_
 try simp only [Act.put,List.getElem_toArray,List.getElem_cons_zero,List.getElem_cons_succ,List.setIfInBounds_toArray,List.set_cons_zero,List.set_cons_succ]
 refine wpAnyH_take (i:=1) (v:=.pointer (some ⟨g,off,none⟩)) rfl (by kernel_rfl) (by kernel_rfl) (by kernel_rfl) (fun _ _ _ h=>h) (Or.inl ⟨by rfl,fun w hS=>by go_simp⟩) hS ?_
 try simp only [Act.put,List.getElem_toArray,List.getElem_cons_zero,List.getElem_cons_succ,List.setIfInBounds_toArray,List.set_cons_zero,List.set_cons_succ]
 refine wpAnyH_take (i:=2) (v:=.pointer (some ⟨g,off+4,none⟩)) rfl (by kernel_rfl) (by kernel_rfl) (by kernel_rfl) (fun _ _ _ h=>h) (Or.inl ⟨by rfl,fun w hS=>by go_simp⟩) hS ?_
 try simp only [Act.put,List.getElem_toArray,List.getElem_cons_zero,List.getElem_cons_succ,List.setIfInBounds_toArray,List.set_cons_zero,List.set_cons_succ]
 refine wpAnyH_take (i:=3) (v:=.slice (some ⟨g2,off2,none⟩) x.kids.length kc1) rfl (by kernel_rfl) (by kernel_rfl) (by kernel_rfl) (fun _ _ _ h=>h) (Or.inl ⟨by rfl,fun w hS=>by obtain⟨c1,c2,c3⟩:=HC.out _ hS;obtain⟨_,z0,z1,z2,z3,z4,z5⟩:=c2;obtain⟨_,p0,p1,p2,p3,p4,p5⟩:=c3;go_simp⟩) hS ?_
 try simp only [Act.put,List.getElem_toArray,List.getElem_cons_zero,List.getElem_cons_succ,List.setIfInBounds_toArray,List.set_cons_zero,List.set_cons_succ]
 refine wpAnyH_take (i:=4) (v:=.pointer (some ⟨g2,off2,none⟩)) rfl (by kernel_rfl) (by kernel_rfl) (by kernel_rfl) (fun _ _ _ h=>h) (Or.inl ⟨by rfl,fun w hS=>by go_simp⟩) hS ?_
 try simp only [Act.put,List.getElem_toArray,List.getElem_cons_zero,List.getElem_cons_succ,List.setIfInBounds_toArray,List.set_cons_zero,List.set_cons_succ]
 refine wpAnyH_take (i:=5) (v:=.agg #[.int .i64 b.kind,.int .i64 b.n,.string b.name,.slice ra2 b.r.length rc2,.slice ka2 b.kids.length kc2,.slice sa2 b.sys.length sc2]) rfl (by kernel_rfl) (by kernel_rfl) (by kernel_rfl) (fun _ _ _ h=>h) (Or.inl ⟨by rfl,fun w hS=>by obtain⟨c1,c2,c3⟩:=HC.out _ hS;obtain⟨_,z0,z1,z2,z3,z4,z5⟩:=c2;obtain⟨_,p0,p1,p2,p3,p4,p5⟩:=c3;go_simp⟩) hS ?_
 try simp only [Act.put,List.getElem_toArray,List.getElem_cons_zero,List.getElem_cons_succ,List.setIfInBounds_toArray,List.set_cons_zero,List.set_cons_succ]
 refine wpAnyH_take (i:=6) (v:=.pointer (some ⟨X,3,none⟩)) rfl (by kernel_rfl) (by kernel_rfl) (by kernel_rfl) (fun _ _ _ h=>h) (Or.inl ⟨by rfl,fun w hS=>by go_simp⟩) hS ?_
 try simp only [Act.put,List.getElem_toArray,List.getElem_cons_zero,List.getElem_cons_succ,List.setIfInBounds_toArray,List.set_cons_zero,List.set_cons_succ]
 refine wpAnyH_take (i:=7) (v:=.slice ra R rc) rfl (by kernel_rfl) (by kernel_rfl) (by kernel_rfl) (fun _ _ _ h=>h) (Or.inl ⟨by rfl,fun w hS=>by obtain⟨c1,c2,c3⟩:=HC.out _ hS;obtain⟨y0,y1,y2,y3,y4,y5,_⟩:=c1.cells;go_simp⟩) hS ?_
 try simp only [Act.put,List.getElem_toArray,List.getElem_cons_zero,List.getElem_cons_succ,List.setIfInBounds_toArray,List.set_cons_zero,List.set_cons_succ]
 refine wpAnyH_ready (rs:=[8]) (by kernel_rfl) (by simp) ?_
 refine ready_cons rfl (fun KK hKK=>?_) AllReadyH.nil
 refine⟨?_⟩
 have cc:=HP.out wd (hK.mono (by have:=Hs1.out;omega))
 go_simp
 refine cc.mono ?_
 rintro e w2 ⟨v2,rfl,t2,b2⟩
 have hK2:=hK.trans (b2.mono hK.size)
 have hsz:=hK.size
 obtain⟨ra9,rc9,ka9,kc9,sa9,sc9,rfl,ht9⟩:=t2.form
 have t9:=ht9.value
 clear cc t2 ht9
 refine hKK.out _ _ (hK2.mono (by have:=Hs1.out;omega)) (fun hS=>?_)
 clear hKK KK
 try simp only [Act.put,List.getElem_toArray,List.getElem_cons_zero,List.getElem_cons_succ,List.setIfInBounds_toArray,List.set_cons_zero,List.set_cons_succ]
 refine wpAnyH_take (i:=9) (v:=.agg #[.int .i64 Y.kind,.int .i64 Y.n,.string Y.name,.slice ra9 Y.r.length rc9,.slice ka9 Y.kids.length kc9,.slice sa9 Y.sys.length sc9]) rfl (by kernel_rfl) (by kernel_rfl) (by kernel_rfl) (fun _ _ _ h=>h) (Or.inl ⟨by rfl,fun w hS=>by go_simp⟩) hS ?_
 try simp only [Act.put,List.getElem_toArray,List.getElem_cons_zero,List.getElem_cons_succ,List.setIfInBounds_toArray,List.set_cons_zero,List.set_cons_succ]
 refine wpAnyH_take (i:=10) (v:=.int .i64 E) rfl (by kernel_rfl) (by kernel_rfl) (by kernel_rfl) (fun _ _ _ h=>h) (Or.inl ⟨by rfl,fun w hS=>by go_simp⟩) hS ?_
 try simp only [Act.put,List.getElem_toArray,List.getElem_cons_zero,List.getElem_cons_succ,List.setIfInBounds_toArray,List.set_cons_zero,List.set_cons_succ]
 refine wpAnyH_ready (rs:=[11]) (by kernel_rfl) (by simp) ?_
 refine ready_cons rfl (fun KK hKK=>?_) AllReadyH.nil
 have x9:=Hx2.out w2 hK2
 have zz2:=x9.set6 (.int .i64 Y.kind) (.int .i64 Y.n) (.string Y.name) (.slice ra9 Y.r.length rc9) (.slice ka9 Y.kids.length kc9) (.slice sa9 Y.sys.length sc9)
 obtain⟨o0,o1,o2,o3,o4,o5,ff⟩:=x9.cells
 have f0:=ff 0
 have f1:=ff 1
 have f2:=ff 2
 have f3:=ff 3
 have f4:=ff 4
 have f5:=ff 5
 obtain⟨wz,hwz⟩:∃ W,W=(((((w2.setCell ⟨X+1,0,none⟩ (.int .i64 Y.kind)).setCell ⟨X+1,1,none⟩ (.int .i64 Y.n)).setCell ⟨X+1,2,none⟩ (.string Y.name)).setCell ⟨X+1,3,none⟩ (.slice ra9 Y.r.length rc9)).setCell ⟨X+1,4,none⟩ (.slice ka9 Y.kids.length kc9)).setCell ⟨X+1,5,none⟩ (.slice sa9 Y.sys.length sc9):=⟨_,rfl⟩
 rw [← hwz] at zz2
 have kz:Kn (fun q=>q≠X+1) w2 wz:=by rw [hwz];exact kn_set66 _ _ _ _ _ _ _ _
 have hT:Hid (TmIn Tt wz Y (.agg #[.int .i64 Y.kind,.int .i64 Y.n,.string Y.name,.slice ra9 Y.r.length rc9,.slice ka9 Y.kids.length kc9,.slice sa9 Y.sys.length sc9])):=(t9.kn kz (fun q h=>by have:=Hs1.out;show q≠X+1;omega)).tt
 have hKz:Hid (Below X w wz):=(Hb1.out.trans ((hK2.mono (by have:=Hs1.out;omega)))).trans (kz.below (fun q hq=>by show q≠X+1;omega) (by have:=hK2.size;have:=Hs1.out;omega))
 obtain⟨h0,h1,h2,h3,h4,h5,_⟩:=zz2.cells
 have Hwz:Hid (_=_):=hwz
 have kz9:=kz
 clear hwz ff kz zz2 x9 t9
 refine⟨?_⟩
 go_simp
 rw [← Hwz.out]
 refine hKK.out _ _ (Below.trans (hK2.mono (by have:=Hs1.out;omega)) (kz9.below (fun q hq=>by show q≠X+1;omega) (by have:=hK2.size;have:=Hs1.out;omega))) (fun hS=>?_)
 clear hKK KK
 try simp only [Act.put,List.getElem_toArray,List.getElem_cons_zero,List.getElem_cons_succ,List.setIfInBounds_toArray,List.set_cons_zero,List.set_cons_succ]
 refine wpAnyH_take (i:=12) (v:=.int .i64 E) rfl (by kernel_rfl) (by kernel_rfl) (by kernel_rfl) (fun _ _ _ h=>h) (Or.inl ⟨by rfl,fun w hS=>by go_simp⟩) hS ?_
 try simp only [Act.put,List.getElem_toArray,List.getElem_cons_zero,List.getElem_cons_succ,List.setIfInBounds_toArray,List.set_cons_zero,List.set_cons_succ]
 refine wpAnyH_done (by kernel_rfl) ?_ _
 go_wp2_with fail
 exact bodyPost_ret (v:=.tuple #[.agg #[.int .i64 Y.kind,.int .i64 Y.n,.string Y.name,.slice ra9 Y.r.length rc9,.slice ka9 Y.kids.length kc9,.slice sa9 Y.sys.length sc9],.int .i64 E]) (by simp only [results,Tryz.results56];simp [go_sem,h0,h1,h2,h3,h4,h5]) rfl ⟨_,rfl,hT.out,hKz.out⟩
end Go.Proofs.YtmblbmdchinflaaGreat
