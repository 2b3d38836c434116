/- What a maker tells at the end; terms that are made of terms. -/
import Derived.Test.YtmblbmdchinflaaGreatFG27
import Derived.Test.YtmblbmdchinflaaGreatEG5
import Derived.Test.YtmblbmdchinflaaGreatEG20
import Derived.Test.YtmblbmdchinflaaGreatEG24
set_option linter.unusedVariables false
set_option linter.unusedSimpArgs false
set_option maxRecDepth 100000
set_option maxHeartbeats 4000000
namespace Go.Proofs.YtmblbmdchinflaaGreat
open Go.RowKit
def doneE (f:Int) (t:Tm):Int:=fstE f ((wrongN true 0 0 t:Nat):Int)
def doneT (f:Int) (t:Tm):Tm:=if doneE f t=0 then t else zeroT
theorem mdone_any (g:Nat) (f:Int) (t:Tm) (v:Value) (w:World) (hM:Mk w g f) (hv:TmIn Tt w t v) (hvg:TmIn (Ng g) w t v) (hb:blk t≤20000) :
  Calls Tryz.prog 41 #[.pointer (some ⟨g,0,none⟩),v] w fun e w'=>∃ v',e=.returned (.tuple #[v',.int .i64 (doneE f t)])∧TmIn (Bt g w.heap.size w'.heap.size) w' (doneT f t) v'∧Kn (Ng g) w w':=by
 have HE:Hid (doneE f t=fstE f ((wrongN true 0 0 t:Nat):Int)∧doneT f t=if doneE f t=0 then t else zeroT):=⟨rfl,rfl⟩
 obtain⟨ra,rc,ka,kc,sa,sc,rfl,ht⟩:=hvg.form
 obtain⟨w1,hw1⟩:∃ W,W=(w.alloc (.cells #[.int .i64 t.kind,.int .i64 t.n,.string t.name,.slice ra t.r.length rc,.slice ka t.kids.length kc,.slice sa t.sys.length sc] 26)).alloc (.cells #[.int .i64 0,.int .i64 0,.string ⟨#[]⟩,.slice none 0 0,.slice none 0 0,.slice none 0 0] 26):=⟨_,rfl⟩
 have b1:Below w.heap.size w w1:=by rw [hw1];exact bchain (belowA _ _) (belowA _ _)
 obtain⟨X,hX⟩:∃ X,X=w.heap.size:=⟨_,rfl⟩
 have s1:w1.heap.size=X+2:=by rw [hw1,hX];simp
 have x1:Six w1 (X) (.int .i64 t.kind) (.int .i64 t.n) (.string t.name) (.slice ra t.r.length rc) (.slice ka t.kids.length kc) (.slice sa t.sys.length sc):=⟨by
  rw [hX,hw1]
  have q:=heapNew w (.cells #[.int .i64 t.kind,.int .i64 t.n,.string t.name,.slice ra t.r.length rc,.slice ka t.kids.length kc,.slice sa t.sys.length sc] 26)
  try simp only [World.size_alloc] at q
  exact heapBox _ (q)⟩
 have x2:Six w1 (X+1) (.int .i64 0) (.int .i64 0) (.string ⟨#[]⟩) (.slice none 0 0) (.slice none 0 0) (.slice none 0 0):=⟨by
  rw [hX,hw1]
  have q:=heapNew (w.alloc (.cells #[.int .i64 t.kind,.int .i64 t.n,.string t.name,.slice ra t.r.length rc,.slice ka t.kids.length kc,.slice sa t.sys.length sc] 26)) (.cells #[.int .i64 0,.int .i64 0,.string ⟨#[]⟩,.slice none 0 0,.slice none 0 0,.slice none 0 0] 26)
  try simp only [World.size_alloc] at q
  exact q⟩
 have hgX:g<X:=by rw [hX];exact hM.lt
 have hM1:=hM.blw b1
 have htg:TmIn (Bt g 0 X) w1 t (.agg #[.int .i64 t.kind,.int .i64 t.n,.string t.name,.slice ra t.r.length rc,.slice ka t.kids.length kc,.slice sa t.sys.length sc]):=((hvg.lt' (ok':=Bt g 0 X) (fun q h hs=>⟨h,Nat.zero_le _,by rw [hX];exact hs⟩)).blw b1)
 have cF:Hid (∀ V v,TmIn Tt V t v→Calls Tryz.prog 21 #[v] V fun e w'=>e=.returned (.int .i64 ((wrongN true 0 0 t:Nat):Int))∧Below V.heap.size V w'):=fun V v q=>formed_any t v V q hb
 have cC:Hid (∀ V v,TmIn Tt V t v→Calls Tryz.prog 57 #[v] V fun e w'=>∃ v',e=.returned v'∧TmIn (OkN V.heap.size w') w' t v'∧Below V.heap.size V w'):=fun V v q=>copy_any t v V q (by omega)
 obtain⟨fw,hfw⟩:∃ n,n=wrongN true 0 0 t:=⟨_,rfl⟩
 rw [← hfw] at cF HE
 have HW:Hid (_=_):=hw1
 have HX:Hid (X=w.heap.size):=hX
 have Hb1:Hid (Below w.heap.size w w1):=b1
 rw [← hX]
 clear hw1 hX hM b1 hv hvg ht hfw hb
 go_enter Tryz.func41,Tryz.ntmps41
 go_upto_region 1 with fail
 rw [← HW.out]
 simp only [← HX.out]
 clear HW
 have hM:=hM1
 have hK:Kn (Ng g) w1 w1:=Kn.refl _ _
 clear hM1
 obtain⟨m0,_⟩:=hM.cells
 by_cases hz:f=0
 rotate_left
 ·have hz1:(f == 0)=false:=by simpa using hz
  obtain⟨eD,heD⟩:∃ e,e=doneE f t:=⟨_,rfl⟩
  have hE:eD=f:=by rw [heD,HE.out.1];unfold fstE;rw [if_neg hz]
  have hT:doneT f t=zeroT:=by rw [HE.out.2,← heD,if_neg (by rw [hE];exact hz)]
  have Hf:Hid (doneE f t=eD∧doneT f t=zeroT):=⟨heD.symm,hT⟩
  clear heD hT HE
  subst hE
  obtain⟨w2,hw2⟩:∃ V,V=w1:=⟨_,rfl⟩
  have Hw2:Hid (w2=w1):=hw2
  have hM2:=hM
  have hK2:Kn (Ng g) w1 w1:=Kn.refl _ _
  have zz:=x2
  clear hw2 hM hK cF x1 x2 htg cC
  go_upto_region 4 with fail
  refine wp_region_held_drew (S:=fun V=>Mk V g eD) (by kernel_rfl) ⟨hM2.blk⟩ (fun hS=>?_)
  obtain⟨wd,hwd⟩:∃ V,V=w1.drew:=⟨_,rfl⟩
  have hkd:Kn (Ng g) w1 wd:=by rw [hwd];exact (Kn.refl _ _).drew
  have hszd:w1.heap.size≤wd.heap.size:=hkd.size
  have hbd:Below w1.heap.size w1 wd:=by rw [hwd];exact (Below.refl _ _).drew
  have hK:Kn (Ng g) w1 w1:=Kn.refl _ _
  rw [← hwd] at hS ⊢
  clear hwd
  have hK:=hK.trans hkd
  have zz:=zz.kn hkd (by omega)
  have hM2:=hM2.blw hbd
  clear hkd hbd
  refine zk 0 (.agg #[.int .i64 0,.int .i64 0,.string ⟨#[]⟩,.slice none 0 0,.slice none 0 0,.slice none 0 0]) rfl (by rfl) (fun w hS=>by go_simp) hS ?_
  try simp only [Act.put,zg1,zg2,zg3,zs1,zs2,zs3]
  refine zk 1 (.pointer (some ⟨g,0,none⟩)) rfl (by rfl) (fun w hS=>by go_simp) hS ?_
  try simp only [Act.put,zg1,zg2,zg3,zs1,zs2,zs3]
  refine zk 2 (.pointer (some ⟨g,0,none⟩)) rfl (by rfl) (fun w hS=>by go_simp) hS ?_
  try simp only [Act.put,zg1,zg2,zg3,zs1,zs2,zs3]
  refine zk 3 (.pointer (some ⟨g,0,none⟩)) rfl (by rfl) (fun w hS=>by go_simp) hS ?_
  try simp only [Act.put,zg1,zg2,zg3,zs1,zs2,zs3]
  refine zk 4 (.int .i64 eD) rfl (by rfl) (fun w hS=>by obtain⟨m0,_⟩:=hS.cells;go_simp) hS ?_
  try simp only [Act.put,zg1,zg2,zg3,zs1,zs2,zs3]
  refine zr 5 rfl (fun KK hKK=>?_)
  obtain⟨w91,hwz,zz2,kz,o0,o1,o2,o3,o4,o5,f0,f1,f2,f3,f4,f5⟩:=zst zz (.int .i64 0) (.int .i64 0) (.string ⟨#[]⟩) (.slice none 0 0) (.slice none 0 0) (.slice none 0 0)
  have Hwz:Hid (_=_):=hwz
  clear hwz
  have hKf:Kn (Ng g) w w91:=((Kn.of_below Hb1.out).trans (hK2.trans hK)).new kz (by rw [← HX.out];omega)
  have hM2:=hM2.kn kz (by omega)
  obtain⟨h0,h1,h2,h3,h4,h5,_⟩:=zz2.cells
  refine⟨?_⟩
  go_simp
  rw [← Hwz.out]
  refine hKK.out _ _ (hM2) (fun hS=>?_)
  clear hKK KK
  try simp only [Act.put,zg1,zg2,zg3,zs1,zs2,zs3]
  refine zk 6 (.int .i64 eD) rfl (by rfl) (fun w hS=>by go_simp) hS ?_
  try simp only [Act.put,zg1,zg2,zg3,zs1,zs2,zs3]
  refine wpAnyH_done (by kernel_rfl) ?_ _
  go_wp2_with fail
  exact bodyPost_ret (v:=.tuple #[.agg #[.int .i64 0,.int .i64 0,.string ⟨#[]⟩,.slice none 0 0,.slice none 0 0,.slice none 0 0],.int .i64 eD]) (by simp only [results,Tryz.results41];simp [go_sem,h0,h1,h2,h3,h4,h5]) rfl ⟨_,by rw [Hf.out.1],by rw [Hf.out.2];exact zeroT_in _ _,hKf⟩
 subst hz
 obtain⟨y0,y1,y2,y3,y4,y5,_⟩:=x1.cells
 have cc:=cF.out w1 _ htg.tt
 have HD:Hid (doneE 0 t=(fw:Int)∧doneT 0 t=if (fw:Int)=0 then t else zeroT):=⟨by rw [HE.out.1];rfl,by rw [HE.out.2,HE.out.1];rfl⟩
 clear HE
 go_wp2_with fail
 refine cc.mono ?_
 rintro e w1a ⟨rfl,b2⟩
 clear cc y0 y1 y2 y3 y4 y5 m0
 obtain⟨eD,heD⟩:∃ e,e=(fw:Int):=⟨_,rfl⟩
 rw [← heD] at HD ⊢
 have hM1:=hM.blw b2
 have hM2:=hM1.set eD
 have k3:=kn_set w1a g 0 (.int .i64 eD)
 obtain⟨w2,hw2⟩:∃ W,W=w1a.setCell ⟨g,0,none⟩ (.int .i64 eD):=⟨_,rfl⟩
 rw [← hw2] at hM2 k3
 have hK2:Kn (Ng g) w1 w2:=(Kn.of_below b2).trans k3
 obtain⟨m0,m1⟩:=hM1.cells
 have x1':=x1.kn hK2 (by omega)
 have zz:=x2.kn hK2 (by omega)
 have htg2:=htg.kn hK2 (fun _ q=>q.1)
 have hsz2:=hK2.size
 have H2:Hid (_=_):=hw2
 clear hw2 k3 b2 hM1 hM hK cF heD x1 x2 htg
 go_upto_region 3 with fail
 rw [← H2.out]
 clear H2 m0 m1
 obtain⟨m0,_⟩:=hM2.cells
 by_cases hz:eD=0
 rotate_left
 ·have hz1:(eD == 0)=false:=by simpa using hz
  have Hf:Hid (doneE 0 t=eD∧doneT 0 t=zeroT):=⟨HD.out.1,by rw [HD.out.2,if_neg hz]⟩
  go_upto_region 4 with fail
  refine wp_region_held_drew (S:=fun V=>Mk V g eD) (by kernel_rfl) ⟨hM2.blk⟩ (fun hS=>?_)
  obtain⟨wd,hwd⟩:∃ V,V=w2.drew:=⟨_,rfl⟩
  have hkd:Kn (Ng g) w2 wd:=by rw [hwd];exact (Kn.refl _ _).drew
  have hszd:w2.heap.size≤wd.heap.size:=hkd.size
  have hbd:Below w2.heap.size w2 wd:=by rw [hwd];exact (Below.refl _ _).drew
  have hK:Kn (Ng g) w2 w2:=Kn.refl _ _
  rw [← hwd] at hS ⊢
  clear hwd
  have hK:=hK.trans hkd
  have zz:=zz.kn hkd (by omega)
  have hM2:=hM2.blw hbd
  clear hkd hbd
  refine zk 0 (.agg #[.int .i64 0,.int .i64 0,.string ⟨#[]⟩,.slice none 0 0,.slice none 0 0,.slice none 0 0]) rfl (by rfl) (fun w hS=>by go_simp) hS ?_
  try simp only [Act.put,zg1,zg2,zg3,zs1,zs2,zs3]
  refine zk 1 (.pointer (some ⟨g,0,none⟩)) rfl (by rfl) (fun w hS=>by go_simp) hS ?_
  try simp only [Act.put,zg1,zg2,zg3,zs1,zs2,zs3]
  refine zk 2 (.pointer (some ⟨g,0,none⟩)) rfl (by rfl) (fun w hS=>by go_simp) hS ?_
  try simp only [Act.put,zg1,zg2,zg3,zs1,zs2,zs3]
  refine zk 3 (.pointer (some ⟨g,0,none⟩)) rfl (by rfl) (fun w hS=>by go_simp) hS ?_
  try simp only [Act.put,zg1,zg2,zg3,zs1,zs2,zs3]
  refine zk 4 (.int .i64 eD) rfl (by rfl) (fun w hS=>by obtain⟨m0,_⟩:=hS.cells;go_simp) hS ?_
  try simp only [Act.put,zg1,zg2,zg3,zs1,zs2,zs3]
  refine zr 5 rfl (fun KK hKK=>?_)
  obtain⟨w91,hwz,zz2,kz,o0,o1,o2,o3,o4,o5,f0,f1,f2,f3,f4,f5⟩:=zst zz (.int .i64 0) (.int .i64 0) (.string ⟨#[]⟩) (.slice none 0 0) (.slice none 0 0) (.slice none 0 0)
  have Hwz:Hid (_=_):=hwz
  clear hwz
  have hKf:Kn (Ng g) w w91:=((Kn.of_below Hb1.out).trans (hK2.trans hK)).new kz (by rw [← HX.out];omega)
  have hM2:=hM2.kn kz (by omega)
  obtain⟨h0,h1,h2,h3,h4,h5,_⟩:=zz2.cells
  refine⟨?_⟩
  go_simp
  rw [← Hwz.out]
  refine hKK.out _ _ (hM2) (fun hS=>?_)
  clear hKK KK
  try simp only [Act.put,zg1,zg2,zg3,zs1,zs2,zs3]
  refine zk 6 (.int .i64 eD) rfl (by rfl) (fun w hS=>by go_simp) hS ?_
  try simp only [Act.put,zg1,zg2,zg3,zs1,zs2,zs3]
  refine wpAnyH_done (by kernel_rfl) ?_ _
  go_wp2_with fail
  exact bodyPost_ret (v:=.tuple #[.agg #[.int .i64 0,.int .i64 0,.string ⟨#[]⟩,.slice none 0 0,.slice none 0 0,.slice none 0 0],.int .i64 eD]) (by simp only [results,Tryz.results41];simp [go_sem,h0,h1,h2,h3,h4,h5]) rfl ⟨_,by rw [Hf.out.1],by rw [Hf.out.2];exact zeroT_in _ _,hKf⟩
 ·subst hz
  have Hf:Hid (doneE 0 t=0∧doneT 0 t=t):=⟨HD.out.1,by rw [HD.out.2,if_pos rfl]⟩
  have cc:=cC.out w2 _ htg2.tt
  obtain⟨y0,y1,y2,y3,y4,y5,_⟩:=x1'.cells
  go_wp2_with fail
  refine cc.mono ?_
  rintro e w3 ⟨v3,rfl,hv3,b3⟩
  clear cc y0 y1 y2 y3 y4 y5 m0
  obtain⟨ra3,rc3,ka3,kc3,sa3,sc3,rfl,ht3⟩:=hv3.form
  have hT3:=(ht3.value).bt (g:=g) (by omega)
  have zz:=zz.blw b3
  have hs3:=b3.size
  have hK3:Kn (Ng g) w1 w3:=hK2.blw b3
  clear hv3 ht3 b3
  obtain⟨w4,hwz,zz2,kz,o0,o1,o2,o3,o4,o5,f0,f1,f2,f3,f4,f5⟩:=zst zz (.int .i64 t.kind) (.int .i64 t.n) (.string t.name) (.slice ra3 t.r.length rc3) (.slice ka3 t.kids.length kc3) (.slice sa3 t.sys.length sc3)
  have hT4:Hid (TmIn (Bt g X w4.heap.size) w4 t (.agg #[.int .i64 t.kind,.int .i64 t.n,.string t.name,.slice ra3 t.r.length rc3,.slice ka3 t.kids.length kc3,.slice sa3 t.sys.length sc3])):=(hT3.kn kz (fun _ q=>by have:=q.2.1;omega)).up fun q h=>⟨h.1,by have:=h.2.1;omega,by have:=kz.size;have:=h.2.2;omega⟩
  have hK4:Kn (Ng g) w w4:=((Kn.of_below Hb1.out).trans hK3).new kz (by rw [← HX.out];omega)
  obtain⟨h0,h1,h2,h3,h4,h5,_⟩:=zz2.cells
  have Hwz:Hid (_=_):=hwz
  clear hwz kz zz zz2 hT3
  go_wp2_with fail
  rw [← Hwz.out]
  exact bodyPost_ret (v:=.tuple #[.agg #[.int .i64 t.kind,.int .i64 t.n,.string t.name,.slice ra3 t.r.length rc3,.slice ka3 t.kids.length kc3,.slice sa3 t.sys.length sc3],.int .i64 0]) (by simp only [results,Tryz.results41];simp [go_sem,h0,h1,h2,h3,h4,h5]) rfl ⟨_,by rw [Hf.out.1],by rw [Hf.out.2];exact hT4.out,hK4⟩
def mkT (k:Int) (l:List Tm):Tm:=.mk k 0 ⟨#[]⟩ [] l []
theorem node_any (k:Int) (a:Option Addr) (n c:Nat) (w:World) :
  Calls Tryz.prog 31 #[.int .i64 k,.slice a n c] w fun e w'=>e=.returned (.agg #[.int .i64 k,.int .i64 0,.string ⟨#[]⟩,.slice none 0 0,.slice a n c,.slice none 0 0])∧Below w.heap.size w w':=by
 obtain⟨w1,hw1⟩:∃ W,W=w.alloc (.cells #[.int .i64 0,.int .i64 0,.string ⟨#[]⟩,.slice none 0 0,.slice none 0 0,.slice none 0 0] 26):=⟨_,rfl⟩
 have b1:Below w.heap.size w w1:=by rw [hw1];exact belowA _ _
 obtain⟨X,hX⟩:∃ X,X=w.heap.size:=⟨_,rfl⟩
 have s1:w1.heap.size=X+1:=by rw [hw1,hX];simp
 have x1:Six w1 (X) (.int .i64 0) (.int .i64 0) (.string ⟨#[]⟩) (.slice none 0 0) (.slice none 0 0) (.slice none 0 0):=⟨by
  rw [hX,hw1]
  have q:=heapNew w (.cells #[.int .i64 0,.int .i64 0,.string ⟨#[]⟩,.slice none 0 0,.slice none 0 0,.slice none 0 0] 26)
  try simp only [World.size_alloc] at q
  exact q⟩
 have HW:Hid (_=_):=hw1
 have HX:Hid (X=w.heap.size):=hX
 have Hb1:Hid (Below w.heap.size w w1):=b1
 clear hw1 hX b1
 go_enter Tryz.func31,Tryz.ntmps31
 go_upto_region 1 with fail
 rw [← HW.out]
 simp only [← HX.out]
 clear HW
 have zz:=x1
 obtain⟨w4,hwz,zz2,kz,o0,o1,o2,o3,o4,o5,f0,f1,f2,f3,f4,f5⟩:=zst zz (.int .i64 k) (.int .i64 0) (.string ⟨#[]⟩) (.slice none 0 0) (.slice a n c) (.slice none 0 0)
 have hK4:Below w.heap.size w w4:=Hb1.out.trans (kz.below (fun q hq=>by have:=HX.out;omega) (by have:=Hb1.out.size;omega))
 obtain⟨h0,h1,h2,h3,h4,h5,_⟩:=zz2.cells
 have Hwz:Hid (_=_):=hwz
 clear hwz kz zz zz2
 go_wp2_with fail
 rw [← Hwz.out]
 exact bodyPost_ret (v:=.agg #[.int .i64 k,.int .i64 0,.string ⟨#[]⟩,.slice none 0 0,.slice a n c,.slice none 0 0]) (by simp only [results,Tryz.results31];simp [go_sem,h0,h1,h2,h3,h4,h5]) rfl ⟨rfl,hK4⟩
theorem kd_two {ok:Nat→Prop} {w:World} {o:Nat} {ty:TypeId} {x y:Tm} {u0 u1 u2 u3 u4 u5 v0 v1 v2 v3 v4 v5:Value} (h:w.heap[o]? = some (.cells #[u0,u1,u2,u3,u4,u5,v0,v1,v2,v3,v4,v5] ty (0,0))) (ho:ok o) (hx:TmIn ok w x (.agg #[u0,u1,u2,u3,u4,u5])) (hy:TmIn ok w y (.agg #[v0,v1,v2,v3,v4,v5])) :
  KdT ok w (TmIn ok w) [x,y] (.slice (some ⟨o,0,none⟩) 2 2):=by
 have hlt:=(Array.getElem?_eq_some_iff.1 h).1
 refine⟨_,_,rfl,Nat.le_refl _,fun j z hz=>?_⟩
 match j,hz with
 | 0,hz=>cases hz;exact⟨o,0,u0,u1,u2,u3,u4,u5,rfl,ho,hlt,hx,by simp [World.cell?,h],by simp [World.cell?,h],by simp [World.cell?,h],by simp [World.cell?,h],by simp [World.cell?,h],by simp [World.cell?,h]⟩
 | 1,hz=>cases hz;exact⟨o,0,v0,v1,v2,v3,v4,v5,rfl,ho,hlt,hy,by simp [World.cell?,h],by simp [World.cell?,h],by simp [World.cell?,h],by simp [World.cell?,h],by simp [World.cell?,h],by simp [World.cell?,h]⟩
 | (j+2),hz=>simp at hz
theorem kd_one {ok:Nat→Prop} {w:World} {o:Nat} {ty:TypeId} {x:Tm} {u0 u1 u2 u3 u4 u5:Value} (h:w.heap[o]? = some (.cells #[u0,u1,u2,u3,u4,u5] ty (0,0))) (ho:ok o) (hx:TmIn ok w x (.agg #[u0,u1,u2,u3,u4,u5])) :
  KdT ok w (TmIn ok w) [x] (.slice (some ⟨o,0,none⟩) 1 1):=by
 have hlt:=(Array.getElem?_eq_some_iff.1 h).1
 refine⟨_,_,rfl,Nat.le_refl _,fun j z hz=>?_⟩
 match j,hz with
 | 0,hz=>cases hz;exact⟨o,0,u0,u1,u2,u3,u4,u5,rfl,ho,hlt,hx,by simp [World.cell?,h],by simp [World.cell?,h],by simp [World.cell?,h],by simp [World.cell?,h],by simp [World.cell?,h],by simp [World.cell?,h]⟩
 | (j+1),hz=>simp at hz
theorem kd_three {ok:Nat→Prop} {w:World} {o:Nat} {ty:TypeId} {x y z:Tm} {u0 u1 u2 u3 u4 u5 v0 v1 v2 v3 v4 v5 x0 x1 x2 x3 x4 x5:Value} (h:w.heap[o]? = some (.cells #[u0,u1,u2,u3,u4,u5,v0,v1,v2,v3,v4,v5,x0,x1,x2,x3,x4,x5] ty (0,0))) (ho:ok o) (hx:TmIn ok w x (.agg #[u0,u1,u2,u3,u4,u5])) (hy:TmIn ok w y (.agg #[v0,v1,v2,v3,v4,v5])) (hz':TmIn ok w z (.agg #[x0,x1,x2,x3,x4,x5])) :
  KdT ok w (TmIn ok w) [x,y,z] (.slice (some ⟨o,0,none⟩) 3 3):=by
 have hlt:=(Array.getElem?_eq_some_iff.1 h).1
 refine⟨_,_,rfl,Nat.le_refl _,fun j q hz=>?_⟩
 match j,hz with
 | 0,hz=>cases hz;exact⟨o,0,u0,u1,u2,u3,u4,u5,rfl,ho,hlt,hx,by simp [World.cell?,h],by simp [World.cell?,h],by simp [World.cell?,h],by simp [World.cell?,h],by simp [World.cell?,h],by simp [World.cell?,h]⟩
 | 1,hz=>cases hz;exact⟨o,0,v0,v1,v2,v3,v4,v5,rfl,ho,hlt,hy,by simp [World.cell?,h],by simp [World.cell?,h],by simp [World.cell?,h],by simp [World.cell?,h],by simp [World.cell?,h],by simp [World.cell?,h]⟩
 | 2,hz=>cases hz;exact⟨o,0,x0,x1,x2,x3,x4,x5,rfl,ho,hlt,hz',by simp [World.cell?,h],by simp [World.cell?,h],by simp [World.cell?,h],by simp [World.cell?,h],by simp [World.cell?,h],by simp [World.cell?,h]⟩
 | (j+3),hz=>simp at hz
theorem transp_any (P:Nat→Prop) (r:List C) (vr:Value) (t u:Tm) (v1 v2:Value) (w:World) (hr:ClRow P w r vr) (h1:TmIn P w t v1) (h2:TmIn P w u v2) :
  Calls Tryz.prog 97 #[vr,v1,v2] w fun e w'=>∃ v',e=.returned v'∧TmIn (fun q=>P q∨(w.heap.size≤q∧q<w'.heap.size)) w' (.mk 14 0 ⟨#[]⟩ r [t,u] []) v'∧Below w.heap.size w w':=by
 obtain⟨va,vc,e2,_⟩:=id hr
 subst e2
 obtain⟨ra1,rc1,ka1,kc1,sa1,sc1,rfl,ht1⟩:=h1.form
 obtain⟨ra2,rc2,ka2,kc2,sa2,sc2,rfl,ht2⟩:=h2.form
 obtain⟨w1,hw1⟩:∃ W,W=((w.alloc (.cells #[.int .i64 t.kind,.int .i64 t.n,.string t.name,.slice ra1 t.r.length rc1,.slice ka1 t.kids.length kc1,.slice sa1 t.sys.length sc1] 26)).alloc (.cells #[.int .i64 u.kind,.int .i64 u.n,.string u.name,.slice ra2 u.r.length rc2,.slice ka2 u.kids.length kc2,.slice sa2 u.sys.length sc2] 26)).alloc (.cells #[.int .i64 0,.int .i64 0,.string ⟨#[]⟩,.slice none 0 0,.slice none 0 0,.slice none 0 0] 26):=⟨_,rfl⟩
 have b1:Below w.heap.size w w1:=by rw [hw1];exact bchain (bchain (belowA _ _) (belowA _ _)) (belowA _ _)
 obtain⟨X,hX⟩:∃ X,X=w.heap.size:=⟨_,rfl⟩
 have s1:w1.heap.size=X+3:=by rw [hw1,hX];simp
 have x1:Six w1 (X) (.int .i64 t.kind) (.int .i64 t.n) (.string t.name) (.slice ra1 t.r.length rc1) (.slice ka1 t.kids.length kc1) (.slice sa1 t.sys.length sc1):=⟨by
  rw [hX,hw1]
  have q:=heapNew w (.cells #[.int .i64 t.kind,.int .i64 t.n,.string t.name,.slice ra1 t.r.length rc1,.slice ka1 t.kids.length kc1,.slice sa1 t.sys.length sc1] 26)
  try simp only [World.size_alloc] at q
  exact heapBox _ (heapBox _ (q))⟩
 have x2:Six w1 (X+1) (.int .i64 u.kind) (.int .i64 u.n) (.string u.name) (.slice ra2 u.r.length rc2) (.slice ka2 u.kids.length kc2) (.slice sa2 u.sys.length sc2):=⟨by
  rw [hX,hw1]
  have q:=heapNew (w.alloc (.cells #[.int .i64 t.kind,.int .i64 t.n,.string t.name,.slice ra1 t.r.length rc1,.slice ka1 t.kids.length kc1,.slice sa1 t.sys.length sc1] 26)) (.cells #[.int .i64 u.kind,.int .i64 u.n,.string u.name,.slice ra2 u.r.length rc2,.slice ka2 u.kids.length kc2,.slice sa2 u.sys.length sc2] 26)
  try simp only [World.size_alloc] at q
  exact heapBox _ (q)⟩
 have x3:Six w1 (X+2) (.int .i64 0) (.int .i64 0) (.string ⟨#[]⟩) (.slice none 0 0) (.slice none 0 0) (.slice none 0 0):=⟨by
  rw [hX,hw1]
  have q:=heapNew ((w.alloc (.cells #[.int .i64 t.kind,.int .i64 t.n,.string t.name,.slice ra1 t.r.length rc1,.slice ka1 t.kids.length kc1,.slice sa1 t.sys.length sc1] 26)).alloc (.cells #[.int .i64 u.kind,.int .i64 u.n,.string u.name,.slice ra2 u.r.length rc2,.slice ka2 u.kids.length kc2,.slice sa2 u.sys.length sc2] 26)) (.cells #[.int .i64 0,.int .i64 0,.string ⟨#[]⟩,.slice none 0 0,.slice none 0 0,.slice none 0 0] 26)
  try simp only [World.size_alloc] at q
  exact q⟩
 have hr1:=(hr.lt' (ok':=fun q=>P q∧q<X) (fun q h hs=>⟨h,by rw [hX];exact hs⟩)).blw b1
 have ht1':=(h1.lt' (ok':=fun q=>P q∧q<X) (fun q h hs=>⟨h,by rw [hX];exact hs⟩)).blw b1
 have hu1':=(h2.lt' (ok':=fun q=>P q∧q<X) (fun q h hs=>⟨h,by rw [hX];exact hs⟩)).blw b1
 obtain⟨LR,hLR⟩:∃ L,L=r.length:=⟨_,rfl⟩
 rw [← hLR] at hr1 ⊢
 have HW:Hid (_=_):=hw1
 have HX:Hid (X=w.heap.size):=hX
 have Hb1:Hid (Below w.heap.size w w1):=b1
 clear hw1 hX b1 hr h1 h2 hLR
 go_enter Tryz.func97,Tryz.ntmps97
 go_upto_region 1 with fail
 rw [← HW.out]
 simp only [← HX.out]
 clear HW
 obtain⟨y0,y1,y2,y3,y4,y5,_⟩:=x1.cells
 obtain⟨q0,q1,q2,q3,q4,q5,_⟩:=x2.cells
 obtain⟨w2,hw2⟩:∃ W,W=w1.alloc (.cells #[.int .i64 t.kind,.int .i64 t.n,.string t.name,.slice ra1 t.r.length rc1,.slice ka1 t.kids.length kc1,.slice sa1 t.sys.length sc1,.int .i64 u.kind,.int .i64 u.n,.string u.name,.slice ra2 u.r.length rc2,.slice ka2 u.kids.length kc2,.slice sa2 u.sys.length sc2] 26):=⟨_,rfl⟩
 have b2:Below w1.heap.size w1 w2:=by rw [hw2];exact belowA _ _
 have b2':=b2
 have hB2:w2.heap[X+3]? = some (.cells #[.int .i64 t.kind,.int .i64 t.n,.string t.name,.slice ra1 t.r.length rc1,.slice ka1 t.kids.length kc1,.slice sa1 t.sys.length sc1,.int .i64 u.kind,.int .i64 u.n,.string u.name,.slice ra2 u.r.length rc2,.slice ka2 u.kids.length kc2,.slice sa2 u.sys.length sc2] 26 (0,0)):=by rw [hw2,← s1];exact heapNew _ _
 have s2:w2.heap.size=X+4:=by rw [hw2];simp [s1]
 have hr2:=hr1.blw b2
 have ht2:=(ht1'.blw b2).up (ok':=fun q=>(P q∧q<X)∨q=X+3) (fun q h=>.inl h)
 have hu2:=(hu1'.blw b2).up (ok':=fun q=>(P q∧q<X)∨q=X+3) (fun q h=>.inl h)
 have hk2:=kd_two hB2 (ok:=fun q=>(P q∧q<X)∨q=X+3) (.inr rfl) ht2 hu2
 have cn:=node_any 14 (some ⟨X+3,0,none⟩) 2 2 w2
 have zz:=x3.blw b2
 have H2:Hid (_=_):=hw2
 clear hw2 x1 x2 x3 ht1' hu1' ht2 hu2 hr1
 go_wp2_with fail
 rw [← H2.out]
 refine cn.mono ?_
 rintro e w3 ⟨rfl,b3⟩
 clear cn y0 y1 y2 y3 y4 y5 q0 q1 q2 q3 q4 q5 H2
 have hr3:=hr2.blw b3
 have hk3:=hk2.blw b3
 have hs3:=b3.size
 have zz:=zz.blw b3
 obtain⟨w4,hw4⟩:∃ W,W=w3.alloc (.cells #[.int .i64 14,.int .i64 0,.string ⟨#[]⟩,.slice none 0 0,.slice (some ⟨X+3,0,none⟩) 2 2,.slice none 0 0] 26):=⟨_,rfl⟩
 have b4:Below w3.heap.size w3 w4:=by rw [hw4];exact belowA _ _
 obtain⟨Y,hY⟩:∃ Y,Y=w3.heap.size:=⟨_,rfl⟩
 have s4:w4.heap.size=Y+1:=by rw [hw4,hY];simp
 have z4:Six w4 Y (.int .i64 14) (.int .i64 0) (.string ⟨#[]⟩) (.slice none 0 0) (.slice (some ⟨X+3,0,none⟩) 2 2) (.slice none 0 0):=⟨by rw [hw4,hY];exact heapNew _ _⟩
 obtain⟨y0,y1,y2,y3,y4,y5,yf⟩:=z4.cells
 have g3:=yf 3
 obtain⟨w5,hw5⟩:∃ W,W=w4.setCell ⟨Y,3,none⟩ (.slice va LR vc):=⟨_,rfl⟩
 have z5:Six w5 Y (.int .i64 14) (.int .i64 0) (.string ⟨#[]⟩) (.slice va LR vc) (.slice (some ⟨X+3,0,none⟩) 2 2) (.slice none 0 0):=by rw [hw5];exact z4.set3 _
 have k5:Kn (fun q=>q≠Y) w4 w5:=by rw [hw5];exact kn_set _ _ _ _
 have hY3:X+4≤Y:=by omega
 have zz:=(zz.blw b4).kn k5 (by omega)
 have hr5:=(hr3.blw b4).kn k5 (fun q h=>by have:=h.2;omega)
 have hk5:=(hk3.blw b4).kn k5 (fun q h=>by rcases h with h | h <;> omega)
 have hB5:Below X w w5:=by
  have q3:=(Hb1.out.trans (b2'.mono Hb1.out.size)).trans (b3.mono (Hb1.out.trans (b2'.mono Hb1.out.size)).size)
  rw [HX.out]
  refine (q3.trans (b4.mono q3.size)).trans (k5.below (fun q hq=>by have:=HX.out;omega) ?_)
  have:=q3.size;have:=b4.size;omega
 have hs5:Y+1≤w5.heap.size:=by have:=k5.size;omega
 have H4:Hid (_=_):=hw4
 have H5:Hid (_=_):=hw5
 have HY:Hid (_=_):=hY
 clear hw4 hw5 hY z4 yf k5 b4 hr3 hk3 b3
 go_upto_region 2 with fail
 rw [← H4.out]
 simp only [← HY.out]
 go_upto_region 3 with fail
 rw [← H5.out]
 clear H4 H5 HY y0 y1 y2 y3 y4 y5 g3
 obtain⟨y0,y1,y2,y3,y4,y5,_⟩:=z5.cells
 obtain⟨w6,hwz,zz2,kz,o0,o1,o2,o3,o4,o5,f0,f1,f2,f3,f4,f5⟩:=zst zz (.int .i64 14) (.int .i64 0) (.string ⟨#[]⟩) (.slice va LR vc) (.slice (some ⟨X+3,0,none⟩) 2 2) (.slice none 0 0)
 have hr6:=hr5.kn kz (fun q h=>by have:=h.2;omega)
 have hk6:=hk5.kn kz (fun q h=>by rcases h with h | h <;> omega)
 have hs6:=kz.size
 have hF:Hid (TmIn (fun q=>P q∨(X≤q∧q<w6.heap.size)) w6 (.mk 14 0 ⟨#[]⟩ r [t,u] []) (.agg #[.int .i64 14,.int .i64 0,.string ⟨#[]⟩,.slice va LR vc,.slice (some ⟨X+3,0,none⟩) 2 2,.slice none 0 0])):=.mk _ _ _ _ _ _ _ _ _ (by unfold I64;omega) (by unfold I64;omega) (hr6.lt' fun q h _=>.inl h.1) (hk6.ltA fun q h hs=>by rcases h with h | h;exact .inl h.1;exact .inr ⟨by omega,hs⟩) (sy_nil _ _ _)
 have hBf:Below X w w6:=hB5.trans (kz.below (fun q hq=>by omega) (by have:=hB5.size;have:=HX.out;omega))
 obtain⟨h0,h1,h2,h3,h4,h5,_⟩:=zz2.cells
 have Hwz:Hid (_=_):=hwz
 clear hwz kz zz zz2 hr5 hk5 hr6 hk6 hB5
 go_wp2_with fail
 rw [← Hwz.out]
 rw [← HX.out]
 exact bodyPost_ret (v:=.agg #[.int .i64 14,.int .i64 0,.string ⟨#[]⟩,.slice va LR vc,.slice (some ⟨X+3,0,none⟩) 2 2,.slice none 0 0]) (by simp only [results,Tryz.results97];simp [go_sem,h0,h1,h2,h3,h4,h5]) rfl ⟨_,rfl,hF.out,hBf⟩
def wrN (x:Tm):Int:=((wrongN true 0 0 x:Nat):Int)
def wrE (l:List Tm):Int:=firstE (l.map wrN)
theorem mwrong_any (l:List Tm) (v:Value) (w:World) (hK:KdT Tt w (TmIn Tt w) l v) (hb:∀ x∈l,blk x≤20000) (hl:l.length≤100) :
  Calls Tryz.prog 29 #[v] w fun e w'=>e=.returned (.int .i64 (wrE l))∧Below w.heap.size w w':=by
 obtain⟨va,vc,e2,_⟩:=id hK
 subst e2
 obtain⟨M,hM⟩:∃ M,M=l.length:=⟨_,rfl⟩
 have HK:Hid (∀ W,Below w.heap.size w W→KdT Tt W (TmIn Tt W) l (.slice va M vc)):=fun W q=>by rw [hM];exact hK.blw q
 have HM:Hid (M=l.length):=hM
 have HB:Hid (∀ x∈l,blk x≤20000):=hb
 have hMl:M≤100:=by omega
 rw [← hM]
 clear hM hK hb hl
 go_enter Tryz.func29,Tryz.ntmps29
 go_wp2_with fail
 go_loopw [8] (fun i wr=>∃ k:Nat,k≤M∧i=.int .i64 k∧firstE ((l.map wrN).take k)=0∧Below w.heap.size w wr) (fun i _=>M - (intOf i).toNat)
 case atStart=>exact⟨0,Nat.zero_le _,rfl,rfl,Below.refl _ _⟩
 case round =>
  obtain⟨wo,hwo⟩:∃ wo,wo=wr:=⟨_,rfl⟩
  subst hwo
  obtain⟨k,hk,rfl,hz,hSo⟩:=hrel
  by_cases hlt:k<M
  ·have hkI:(k:Int) < (M:Int):=by omega
   obtain⟨x,hx⟩:=someL (l:=l) (k:=k) (by rw [← HM.out];exact hlt)
   have hbx:=HB.out x (List.mem_of_getElem? hx)
   obtain⟨gs,offs,ra1,rc1,ka1,kc1,sa1,sc1,hsa,_,h61,ht1⟩:=(HK.out wo hSo).at hx
   subst hsa
   have hff:(l.map wrN)[k]? = some (wrN x):=by rw [List.getElem?_map,hx];rfl
   have eS:firstE ((l.map wrN).take (k+1))=wrN x:=by rw [firstE_step hff,if_pos hz]
   obtain⟨wb,hwb⟩:∃ W,W=wo.alloc (.cells #[.int .i64 x.kind,.int .i64 x.n,.string x.name,.slice ra1 x.r.length rc1,.slice ka1 x.kids.length kc1,.slice sa1 x.sys.length sc1] 26):=⟨_,rfl⟩
   have bb:Below wo.heap.size wo wb:=by rw [hwb];exact belowA _ _
   have tb:Six wb wo.heap.size (.int .i64 x.kind) (.int .i64 x.n) (.string x.name) (.slice ra1 x.r.length rc1) (.slice ka1 x.kids.length kc1) (.slice sa1 x.sys.length sc1):=⟨by rw [hwb];exact heapNew _ _⟩
   have hSb:Below w.heap.size w wb:=hSo.trans (bb.mono hSo.size)
   have cF:=formed_any x _ wb (ht1.blw bb).value hbx
   obtain⟨er,her⟩:∃ e,e=wrN x:=⟨_,rfl⟩
   have cF:Calls Tryz.prog 21 #[.agg #[.int .i64 x.kind,.int .i64 x.n,.string x.name,.slice ra1 x.r.length rc1,.slice ka1 x.kids.length kc1,.slice sa1 x.sys.length sc1]] wb fun e w'=>e=.returned (.int .i64 er)∧Below wb.heap.size wb w':=by rw [her];exact cF
   rw [← her] at eS
   have HS:Hid (firstE ((l.map wrN).take (k+1))=er):=eS
   have HN:Hid (er≠0→wrE l=er):=fun h=>by
    have:=firstE_stuck (l:=l.map wrN) (k:=k+1) (by rw [eS];exact h)
    unfold wrE;rw [this,eS]
   obtain⟨c0,c1,c2,c3,c4,c5⟩:=(⟨h61.c0,h61.c1,h61.c2,h61.c3,h61.c4,h61.c5⟩:_∧_∧_∧_∧_∧_)
   obtain⟨t0,t1,t2,t3,t4,t5,_⟩:=tb.cells
   have Hwb:Hid (_=_):=hwb
   clear hwb tb h61 ht1 hx hff eS her hbx hz
   go_upto_region 4 with fail
   rw [← Hwb.out]
   clear c0 c1 c2 c3 c4 c5
   go_wp2_with fail
   refine cF.mono ?_
   rintro e w9 ⟨rfl,b9⟩
   clear cF t0 t1 t2 t3 t4 t5
   have hS9:Below w.heap.size w w9:=hSb.trans (b9.mono hSb.size)
   by_cases hz:er=0
   ·subst hz
    go_wp2_with fail
    go_roundw
    case rel=>exact⟨k+1,by omega,by go_num,HS.out,hS9⟩
    case measure=>simp [intOf];omega
   ·have hz1:(er == 0)=false:=by simpa using hz
    have hN:=HN.out hz
    have HR:Hid (wrE l=er):=hN
    clear hN HN HS
    go_wp2_with fail
    go_ret
    exact⟨by rw [HR.out];rfl,hS9⟩
  ·have hkI:¬ (k:Int) < (M:Int):=by omega
   obtain rfl:k=M:=by omega
   have he:(l.map wrN).take k=l.map wrN:=List.take_of_length_le (by rw [List.length_map,← HM.out];exact Nat.le_refl _)
   rw [he] at hz
   have HZ:Hid (wrE l=0):=hz
   clear hz he
   go_wp2_with fail
   go_ret
   exact⟨by rw [HZ.out];rfl,hSo⟩
end Go.Proofs.YtmblbmdchinflaaGreat
