/- A maker's parts: what is lifted, rows, lines. -/
import Derived.Test.YtmblbmdchinflaaGreatFG27
import Derived.Test.YtmblbmdchinflaaGreatEG5
import Derived.Test.YtmblbmdchinflaaGreatEYDmT
import Derived.Test.YtmblbmdchinflaaGreatEG20
set_option linter.unusedVariables false
set_option linter.unusedSimpArgs false
set_option maxRecDepth 100000
set_option maxHeartbeats 4000000
namespace Go.Proofs.YtmblbmdchinflaaGreat
open Go.RowKit
theorem mlifted_any (hLA:LAll) (g:Nat) (f:Int) (t:Tm) (v:Value) (vs ds:Int) (w:World) (hM:Mk w g f) (hv:TmIn Tt w t v) (hb:blk t≤20000) :
  Calls Tryz.prog 32 #[.pointer (some ⟨g,0,none⟩),v,.int .i64 vs,.int .i64 ds] w fun e w'=>∃ v',e=.returned v'∧TmIn (Bt g w.heap.size w'.heap.size) w' (bothT vs ds t) v'∧Mk w' g (fstE f (bothE vs ds t))∧Kn (Ng g) w w':=by
 obtain⟨ra,rc,ka,kc,sa,sc,rfl,ht⟩:=hv.form
 obtain⟨w1,hw1⟩:∃ W,W=(w.alloc (.cells #[.int .i64 t.kind,.int .i64 t.n,.string t.name,.slice ra t.r.length rc,.slice ka t.kids.length kc,.slice sa t.sys.length sc] 26)).alloc (.cells #[.int .i64 0,.int .i64 0,.string ⟨#[]⟩,.slice none 0 0,.slice none 0 0,.slice none 0 0] 26):=⟨_,rfl⟩
 have b1:Below w.heap.size w w1:=by rw [hw1];exact bchain (belowA _ _) (belowA _ _)
 obtain⟨X,hX⟩:∃ X,X=w.heap.size:=⟨_,rfl⟩
 have s1:w1.heap.size=X+2:=by rw [hw1,hX];simp
 have x1:Six w1 (X) (.int .i64 t.kind) (.int .i64 t.n) (.string t.name) (.slice ra t.r.length rc) (.slice ka t.kids.length kc) (.slice sa t.sys.length sc):=⟨by
  rw [hX,hw1]
  have q:=heapNew w (.cells #[.int .i64 t.kind,.int .i64 t.n,.string t.name,.slice ra t.r.length rc,.slice ka t.kids.length kc,.slice sa t.sys.length sc] 26)
  try simp only [World.size_alloc] at q
  exact heapBox _ (q)⟩
 have x2:Six w1 (X+1) (.int .i64 0) (.int .i64 0) (.string ⟨#[]⟩) (.slice none 0 0) (.slice none 0 0) (.slice none 0 0):=⟨by
  rw [hX,hw1]
  have q:=heapNew (w.alloc (.cells #[.int .i64 t.kind,.int .i64 t.n,.string t.name,.slice ra t.r.length rc,.slice ka t.kids.length kc,.slice sa t.sys.length sc] 26)) (.cells #[.int .i64 0,.int .i64 0,.string ⟨#[]⟩,.slice none 0 0,.slice none 0 0,.slice none 0 0] 26)
  try simp only [World.size_alloc] at q
  exact q⟩
 have hgX:g<X:=by rw [hX];exact hM.lt
 have hM1:=hM.blw b1
 have cb:=lboth_any hLA t _ w1 (ht.blw b1).value hb vs ds
 obtain⟨T,hT⟩:∃ T,T=bothT vs ds t:=⟨_,rfl⟩
 obtain⟨er,her⟩:∃ T,T=bothE vs ds t:=⟨_,rfl⟩
 rw [← hT,← her] at cb ⊢
 have HW:Hid (_=_):=hw1
 have HX:Hid (X=w.heap.size):=hX
 have Hb1:Hid (Below w.heap.size w w1):=b1
 rw [← hX]
 clear hw1 hX hM b1 hv ht hT her
 go_enter Tryz.func32,Tryz.ntmps32
 go_upto_region 1 with fail
 rw [← HW.out]
 simp only [← HX.out]
 clear HW
 obtain⟨y0,y1,y2,y3,y4,y5,_⟩:=x1.cells
 go_wp2_with fail
 refine cb.mono ?_
 rintro e w2 ⟨v2,rfl,hv2,b2⟩
 clear cb y0 y1 y2 y3 y4 y5
 obtain⟨ra2,rc2,ka2,kc2,sa2,sc2,rfl,ht2⟩:=hv2.form
 have hT2:=(ht2.value).bt (g:=g) (by omega)
 have hM2:=hM1.blw b2
 have zz:=x2.blw b2
 have cp:=mpart_any g f er T.kind T.n T.name ra2 T.r.length rc2 ka2 T.kids.length kc2 sa2 T.sys.length sc2 w2 hM2
 have hs2:=b2.size
 have hK2:Kn (Ng g) w w2:=Kn.of_below (bchain Hb1.out b2)
 clear hv2 ht2 hM1 b2
 go_wp2_with fail
 refine cp.mono ?_
 rintro e w3 ⟨rfl,hM3,hk3⟩
 clear cp
 have hT3:=hT2.kn hk3 (fun _ q=>q.1)
 have zz:=zz.kn hk3 (by omega)
 have hK3:=hK2.trans hk3
 have hs3:=hk3.size
 obtain⟨w4,hwz,zz2,kz,o0,o1,o2,o3,o4,o5,f0,f1,f2,f3,f4,f5⟩:=zst zz (.int .i64 T.kind) (.int .i64 T.n) (.string T.name) (.slice ra2 T.r.length rc2) (.slice ka2 T.kids.length kc2) (.slice sa2 T.sys.length sc2)
 have hM4:=hM3.kn kz (by omega)
 have hT4:Hid (TmIn (Bt g X w4.heap.size) w4 T (.agg #[.int .i64 T.kind,.int .i64 T.n,.string T.name,.slice ra2 T.r.length rc2,.slice ka2 T.kids.length kc2,.slice sa2 T.sys.length sc2])):=(hT3.kn kz (fun _ q=>by have:=q.2.1;omega)).up fun q h=>⟨h.1,by have:=h.2.1;omega,by have:=kz.size;have:=h.2.2;omega⟩
 have hK4:Kn (Ng g) w w4:=hK3.new kz (by rw [← HX.out];omega)
 obtain⟨h0,h1,h2,h3,h4,h5,_⟩:=zz2.cells
 have Hwz:Hid (_=_):=hwz
 clear hwz kz zz zz2 x1 x2 hT3 hT2
 go_wp2_with fail
 rw [← Hwz.out]
 exact bodyPost_ret (v:=.agg #[.int .i64 T.kind,.int .i64 T.n,.string T.name,.slice ra2 T.r.length rc2,.slice ka2 T.kids.length kc2,.slice sa2 T.sys.length sc2]) (by simp only [results,Tryz.results32];simp [go_sem,h0,h1,h2,h3,h4,h5]) rfl ⟨_,rfl,hT4.out,hM4,hK4⟩
theorem ClRow.up1 {g lo lo2 hi:Nat} {w:World} {l:List C} {v:Value} (h:ClRow (Bt g lo hi) w l v) (hl:lo2≤lo):ClRow (Bt g lo2 hi) w l v:=h.lt' fun q h1 _=>⟨h1.1,by have:=h1.2.1;omega,h1.2.2⟩
theorem mi_any (g:Nat) (f:Int) (w:World) (hM:Mk w g f) :
  Calls Tryz.prog 38 #[.pointer (some ⟨g,0,none⟩)] w fun e w'=>∃ v',e=.returned v'∧ClRow (Bt g w.heap.size w'.heap.size) w' [posB 1] v'∧Mk w' g f∧Kn (Ng g) w w':=by
 have hdim:dimF 1=([posB 1],0):=by decide
 have hM0:=hM
 go_enter Tryz.func38,Tryz.ntmps38
 go_upto_region 1 with fail
 refine wp_region_held_drew (S:=fun V=>Kn (Ng g) w V) (by kernel_rfl) ((Kn.refl _ _).drew) (fun hS=>?_)
 obtain⟨wd,hwd⟩:∃ V,V=w.drew:=⟨_,rfl⟩
 have hkd:Kn (Ng g) w wd:=by rw [hwd];exact (Kn.refl _ _).drew
 have hszd:w.heap.size≤wd.heap.size:=hkd.size
 have hbd:Below w.heap.size w wd:=by rw [hwd];exact (Below.refl _ _).drew
 have hK:Kn (Ng g) w w:=Kn.refl _ _
 rw [← hwd] at hS ⊢
 clear hwd
 have hK:=hK.trans hkd
 have hM:=hM.blw hbd
 clear hkd hbd
 refine zk 0 (.pointer (some ⟨g,0,none⟩)) rfl (by rfl) (fun w hS=>by go_simp) hS ?_
 try simp only [Act.put,zg1,zg2,zg3,zs1,zs2,zs3]
 refine zk 1 (.pointer (some ⟨g,0,none⟩)) rfl (by rfl) (fun w hS=>by go_simp) hS ?_
 try simp only [Act.put,zg1,zg2,zg3,zs1,zs2,zs3]
 refine zk 2 (.pointer (some ⟨g,0,none⟩)) rfl (by rfl) (fun w hS=>by go_simp) hS ?_
 try simp only [Act.put,zg1,zg2,zg3,zs1,zs2,zs3]
 refine zr 3 rfl (fun KK hKK=>?_)
 refine⟨?_⟩
 have cc:=dim_any 1 wd
 rw [hdim] at cc
 dsimp only at cc
 go_simp
 refine cc.mono ?_
 rintro e u1 ⟨vu1,rfl,hOu1,bu1⟩
 obtain⟨au1,cu1,eu1⟩:=OwnsC.len hOu1
 simp only [List.length_cons,List.length_nil,Nat.zero_add] at eu1
 subst eu1
 have hRu1:ClRow (Bt g w.heap.size u1.heap.size) u1 [posB 1] (.slice au1 1 cu1):=((OwnsC.okn hOu1).bt (g:=g) (by have:=hM0.lt;have:=hS.size;omega)).up1 (by have:=hS.size;omega)
 have hk:Kn (Ng g) wd u1:=Kn.of_below bu1
 have hK:=hK.trans hk
 have hM:=hM.blw bu1
 clear cc hOu1
 refine hKK.out _ _ (hK) (fun hS=>?_)
 clear hKK KK
 try simp only [Act.put,zg1,zg2,zg3,zs1,zs2,zs3]
 clear hk
 refine zk 4 (.slice au1 1 cu1) rfl (by rfl) (fun w hS=>by go_simp) hS ?_
 try simp only [Act.put,zg1,zg2,zg3,zs1,zs2,zs3]
 refine zk 5 (.int .i64 0) rfl (by rfl) (fun w hS=>by go_simp) hS ?_
 try simp only [Act.put,zg1,zg2,zg3,zs1,zs2,zs3]
 refine zr 6 rfl (fun KK hKK=>?_)
 refine⟨?_⟩
 have cc:=mrow_any g f 0 au1 1 cu1 u1 hM
 rw [fstE_none] at cc
 go_simp
 refine cc.mono ?_
 rintro e u2 ⟨rfl,hMu2,hk⟩
 have hK:=hK.trans hk
 have hRu1:=hRu1.kn hk (fun _ q=>q.1)
 have hM:=hMu2
 clear cc
 refine hKK.out _ _ (hK) (fun hS=>?_)
 clear hKK KK
 try simp only [Act.put,zg1,zg2,zg3,zs1,zs2,zs3]
 clear hk
 refine zk 7 (.slice au1 1 cu1) rfl (by rfl) (fun w hS=>by go_simp) hS ?_
 try simp only [Act.put,zg1,zg2,zg3,zs1,zs2,zs3]
 refine wpAnyH_done (by kernel_rfl) ?_ _
 have hF:Hid (ClRow (Bt g w.heap.size u2.heap.size) u2 [posB 1] (.slice au1 1 cu1)):=hRu1.lt' (fun q h1 h2=>⟨h1.1,h1.2.1,h2⟩)
 go_wp2_with fail
 go_ret
 exact⟨_,rfl,hF.out,hM,hS⟩
theorem mj_any (g:Nat) (f:Int) (w:World) (hM:Mk w g f) :
  Calls Tryz.prog 39 #[.pointer (some ⟨g,0,none⟩)] w fun e w'=>∃ v',e=.returned v'∧ClRow (Bt g w.heap.size w'.heap.size) w' [posB 0] v'∧Mk w' g f∧Kn (Ng g) w w':=by
 have hdim:dimF 0=([posB 0],0):=by decide
 have hM0:=hM
 go_enter Tryz.func39,Tryz.ntmps39
 go_upto_region 1 with fail
 refine wp_region_held_drew (S:=fun V=>Kn (Ng g) w V) (by kernel_rfl) ((Kn.refl _ _).drew) (fun hS=>?_)
 obtain⟨wd,hwd⟩:∃ V,V=w.drew:=⟨_,rfl⟩
 have hkd:Kn (Ng g) w wd:=by rw [hwd];exact (Kn.refl _ _).drew
 have hszd:w.heap.size≤wd.heap.size:=hkd.size
 have hbd:Below w.heap.size w wd:=by rw [hwd];exact (Below.refl _ _).drew
 have hK:Kn (Ng g) w w:=Kn.refl _ _
 rw [← hwd] at hS ⊢
 clear hwd
 have hK:=hK.trans hkd
 have hM:=hM.blw hbd
 clear hkd hbd
 refine zk 0 (.pointer (some ⟨g,0,none⟩)) rfl (by rfl) (fun w hS=>by go_simp) hS ?_
 try simp only [Act.put,zg1,zg2,zg3,zs1,zs2,zs3]
 refine zk 1 (.pointer (some ⟨g,0,none⟩)) rfl (by rfl) (fun w hS=>by go_simp) hS ?_
 try simp only [Act.put,zg1,zg2,zg3,zs1,zs2,zs3]
 refine zk 2 (.pointer (some ⟨g,0,none⟩)) rfl (by rfl) (fun w hS=>by go_simp) hS ?_
 try simp only [Act.put,zg1,zg2,zg3,zs1,zs2,zs3]
 refine zr 3 rfl (fun KK hKK=>?_)
 refine⟨?_⟩
 have cc:=dim_any 0 wd
 rw [hdim] at cc
 dsimp only at cc
 go_simp
 refine cc.mono ?_
 rintro e u1 ⟨vu1,rfl,hOu1,bu1⟩
 obtain⟨au1,cu1,eu1⟩:=OwnsC.len hOu1
 simp only [List.length_cons,List.length_nil,Nat.zero_add] at eu1
 subst eu1
 have hRu1:ClRow (Bt g w.heap.size u1.heap.size) u1 [posB 0] (.slice au1 1 cu1):=((OwnsC.okn hOu1).bt (g:=g) (by have:=hM0.lt;have:=hS.size;omega)).up1 (by have:=hS.size;omega)
 have hk:Kn (Ng g) wd u1:=Kn.of_below bu1
 have hK:=hK.trans hk
 have hM:=hM.blw bu1
 clear cc hOu1
 refine hKK.out _ _ (hK) (fun hS=>?_)
 clear hKK KK
 try simp only [Act.put,zg1,zg2,zg3,zs1,zs2,zs3]
 clear hk
 refine zk 4 (.slice au1 1 cu1) rfl (by rfl) (fun w hS=>by go_simp) hS ?_
 try simp only [Act.put,zg1,zg2,zg3,zs1,zs2,zs3]
 refine zk 5 (.int .i64 0) rfl (by rfl) (fun w hS=>by go_simp) hS ?_
 try simp only [Act.put,zg1,zg2,zg3,zs1,zs2,zs3]
 refine zr 6 rfl (fun KK hKK=>?_)
 refine⟨?_⟩
 have cc:=mrow_any g f 0 au1 1 cu1 u1 hM
 rw [fstE_none] at cc
 go_simp
 refine cc.mono ?_
 rintro e u2 ⟨rfl,hMu2,hk⟩
 have hK:=hK.trans hk
 have hRu1:=hRu1.kn hk (fun _ q=>q.1)
 have hM:=hMu2
 clear cc
 refine hKK.out _ _ (hK) (fun hS=>?_)
 clear hKK KK
 try simp only [Act.put,zg1,zg2,zg3,zs1,zs2,zs3]
 clear hk
 refine zk 7 (.slice au1 1 cu1) rfl (by rfl) (fun w hS=>by go_simp) hS ?_
 try simp only [Act.put,zg1,zg2,zg3,zs1,zs2,zs3]
 refine wpAnyH_done (by kernel_rfl) ?_ _
 have hF:Hid (ClRow (Bt g w.heap.size u2.heap.size) u2 [posB 0] (.slice au1 1 cu1)):=hRu1.lt' (fun q h1 h2=>⟨h1.1,h1.2.1,h2⟩)
 go_wp2_with fail
 go_ret
 exact⟨_,rfl,hF.out,hM,hS⟩
theorem malone_any (g:Nat) (f:Int) (w:World) (hM:Mk w g f) :
  Calls Tryz.prog 68 #[.pointer (some ⟨g,0,none⟩)] w fun e w'=>∃ v',e=.returned v'∧ClRow (Bt g w.heap.size w'.heap.size) w' [posB 0] v'∧Mk w' g f∧Kn (Ng g) w w':=by
 have hdim:dimF 0=([posB 0],0):=by decide
 have hM0:=hM
 go_enter Tryz.func68,Tryz.ntmps68
 go_upto_region 1 with fail
 refine wp_region_held_drew (S:=fun V=>Kn (Ng g) w V) (by kernel_rfl) ((Kn.refl _ _).drew) (fun hS=>?_)
 obtain⟨wd,hwd⟩:∃ V,V=w.drew:=⟨_,rfl⟩
 have hkd:Kn (Ng g) w wd:=by rw [hwd];exact (Kn.refl _ _).drew
 have hszd:w.heap.size≤wd.heap.size:=hkd.size
 have hbd:Below w.heap.size w wd:=by rw [hwd];exact (Below.refl _ _).drew
 have hK:Kn (Ng g) w w:=Kn.refl _ _
 rw [← hwd] at hS ⊢
 clear hwd
 have hK:=hK.trans hkd
 have hM:=hM.blw hbd
 clear hkd hbd
 refine zk 0 (.pointer (some ⟨g,0,none⟩)) rfl (by rfl) (fun w hS=>by go_simp) hS ?_
 try simp only [Act.put,zg1,zg2,zg3,zs1,zs2,zs3]
 refine zk 1 (.pointer (some ⟨g,0,none⟩)) rfl (by rfl) (fun w hS=>by go_simp) hS ?_
 try simp only [Act.put,zg1,zg2,zg3,zs1,zs2,zs3]
 refine zk 2 (.pointer (some ⟨g,0,none⟩)) rfl (by rfl) (fun w hS=>by go_simp) hS ?_
 try simp only [Act.put,zg1,zg2,zg3,zs1,zs2,zs3]
 refine zr 3 rfl (fun KK hKK=>?_)
 refine⟨?_⟩
 have cc:=dim_any 0 wd
 rw [hdim] at cc
 dsimp only at cc
 go_simp
 refine cc.mono ?_
 rintro e u1 ⟨vu1,rfl,hOu1,bu1⟩
 obtain⟨au1,cu1,eu1⟩:=OwnsC.len hOu1
 simp only [List.length_cons,List.length_nil,Nat.zero_add] at eu1
 subst eu1
 have hRu1:ClRow (Bt g w.heap.size u1.heap.size) u1 [posB 0] (.slice au1 1 cu1):=((OwnsC.okn hOu1).bt (g:=g) (by have:=hM0.lt;have:=hS.size;omega)).up1 (by have:=hS.size;omega)
 have hk:Kn (Ng g) wd u1:=Kn.of_below bu1
 have hK:=hK.trans hk
 have hM:=hM.blw bu1
 clear cc hOu1
 refine hKK.out _ _ (hK) (fun hS=>?_)
 clear hKK KK
 try simp only [Act.put,zg1,zg2,zg3,zs1,zs2,zs3]
 clear hk
 refine zk 4 (.slice au1 1 cu1) rfl (by rfl) (fun w hS=>by go_simp) hS ?_
 try simp only [Act.put,zg1,zg2,zg3,zs1,zs2,zs3]
 refine zk 5 (.int .i64 0) rfl (by rfl) (fun w hS=>by go_simp) hS ?_
 try simp only [Act.put,zg1,zg2,zg3,zs1,zs2,zs3]
 refine zr 6 rfl (fun KK hKK=>?_)
 refine⟨?_⟩
 have cc:=mrow_any g f 0 au1 1 cu1 u1 hM
 rw [fstE_none] at cc
 go_simp
 refine cc.mono ?_
 rintro e u2 ⟨rfl,hMu2,hk⟩
 have hK:=hK.trans hk
 have hRu1:=hRu1.kn hk (fun _ q=>q.1)
 have hM:=hMu2
 clear cc
 refine hKK.out _ _ (hK) (fun hS=>?_)
 clear hKK KK
 try simp only [Act.put,zg1,zg2,zg3,zs1,zs2,zs3]
 clear hk
 refine zk 7 (.slice au1 1 cu1) rfl (by rfl) (fun w hS=>by go_simp) hS ?_
 try simp only [Act.put,zg1,zg2,zg3,zs1,zs2,zs3]
 refine wpAnyH_done (by kernel_rfl) ?_ _
 have hF:Hid (ClRow (Bt g w.heap.size u2.heap.size) u2 [posB 0] (.slice au1 1 cu1)):=hRu1.lt' (fun q h1 h2=>⟨h1.1,h1.2.1,h2⟩)
 go_wp2_with fail
 go_ret
 exact⟨_,rfl,hF.out,hM,hS⟩
end Go.Proofs.YtmblbmdchinflaaGreat
