/- The equivalence of a type with itself, whole. -/
import Derived.Test.YtmblbmdchinflaaGreatFG27
import Derived.Test.YtmblbmdchinflaaGreatEG5
import Derived.Test.YtmblbmdchinflaaGreatFYBdI
import Derived.Test.YtmblbmdchinflaaGreatFG35
import Derived.Test.YtmblbmdchinflaaGreatFYInvS
set_option linter.unusedVariables false
set_option linter.unusedSimpArgs false
set_option maxRecDepth 100000
set_option maxHeartbeats 40000000
namespace Go.Proofs.YtmblbmdchinflaaGreat
open Go.RowKit
theorem at_eg:∀ args w,(callFunc 66 args).run Tryz.prog w=.ok (.enter 66 args) w:=enters_of Tryz.func66 (by kernel_rfl) rfl
theorem id_done:doneE 0 idAll=0∧doneT 0 idAll=idAll:=⟨id_formed,by unfold doneT;rw [if_pos id_formed]⟩
theorem id_any (w:World) :
  Calls Tryz.prog 26 #[] w fun e w'=>∃ v',e=.returned v'∧TmIn (fun q=>w.heap.size≤q) w' idAll v'∧Below w.heap.size w w':=by
 have htm:meetF [posB 1] [posB 0]=([e2 0 1],0):=by decide +kernel
 obtain⟨w1,hw1⟩:∃ W,W=w.alloc (.cells #[.int .i64 0,.int .i64 0,.string ⟨#[]⟩,.slice none 0 0,.slice none 0 0,.slice none 0 0] 26):=⟨_,rfl⟩
 have b1:Below w.heap.size w w1:=by rw [hw1];exact belowA _ _
 obtain⟨X,hX⟩:∃ X,X=w.heap.size:=⟨_,rfl⟩
 have s1:w1.heap.size=X+1:=by rw [hw1,hX];simp
 have x1:Six w1 (X) (.int .i64 0) (.int .i64 0) (.string ⟨#[]⟩) (.slice none 0 0) (.slice none 0 0) (.slice none 0 0):=⟨by
  rw [hX,hw1]
  have q:=heapNew w (.cells #[.int .i64 0,.int .i64 0,.string ⟨#[]⟩,.slice none 0 0,.slice none 0 0,.slice none 0 0] 26)
  try simp only [World.size_alloc] at q
  exact q⟩
 obtain⟨g,hg⟩:∃ g,g=w1.heap.size:=⟨_,rfl⟩
 obtain⟨w2,hw2⟩:∃ W,W=w1.alloc (.cells #[.int .i64 0] 59):=⟨_,rfl⟩
 have b2:Below w1.heap.size w1 w2:=by rw [hw2];exact belowA _ _
 have s2:g<w2.heap.size∧w2.heap.size≤g+1:=by rw [hw2,hg];simp
 have hM:Mk w2 g 0:=⟨⟨_,by rw [hg,hw2];exact heapNew _ _⟩⟩
 obtain⟨hXg,hgX1⟩:X<g∧g=X+1:=by omega
 have x1:=x1.blw b2
 have HW:Hid (_=_):=hw1
 have H2:Hid (_=_):=hw2
 have HX:Hid (X=w.heap.size):=hX
 have Hg:Hid (_=_):=hg
 have HgX:Hid (g=X+1):=hgX1
 clear hgX1
 have Hb2:Hid (Below w.heap.size w w2):=bchain b1 b2
 have hK:Below w2.heap.size w2 w2:=Below.refl _ _
 rw [← hX]
 clear hw1 hw2 hX hg b1 b2
 go_enter Tryz.func26,Tryz.ntmps26
 go_upto_region 1 with fail
 rw [← HW.out]
 simp only [← HX.out]
 clear HW
 go_upto_region 3 with fail
 rw [← H2.out]
 try simp only [← Hg.out]
 try simp only [← HgX.out]
 clear H2
 have cc:=variable_any 0 w2
 go_wp2_with fail
 refine cc.mono ?_
 rintro e a1 ⟨rfl,ba1⟩
 clear cc
 have x1:=x1.blw ba1
 have hM:=hM.blw ba1
 have hK:=hK.trans (ba1.mono hK.size)
 have hza1:=ba1.size
 clear ba1
 have cc:=variable_any 0 a1
 go_wp2_with fail
 refine cc.mono ?_
 rintro e a2 ⟨rfl,ba2⟩
 clear cc
 have x1:=x1.blw ba2
 have hM:=hM.blw ba2
 have hK:=hK.trans (ba2.mono hK.size)
 have hza2:=ba2.size
 clear ba2
 obtain⟨qA,hqA⟩:∃ q,q=a2.heap.size:=⟨_,rfl⟩
 obtain⟨a3,ha3⟩:∃ W,W=a2.alloc (.cells #[.int .i64 1,.int .i64 0,.string ⟨#[]⟩,.slice none 0 0,.slice none 0 0,.slice none 0 0] 26):=⟨_,rfl⟩
 have ba3:Below a2.heap.size a2 a3:=by rw [ha3];exact belowA _ _
 have za3:a3.heap[qA]? = some (.cells #[.int .i64 1,.int .i64 0,.string ⟨#[]⟩,.slice none 0 0,.slice none 0 0,.slice none 0 0] 26 (0,0)):=by rw [ha3,hqA];exact heapNew _ _
 have gqA:g<qA:=by have:=hK.size;omega
 have x1:=x1.blw ba3
 have hM:=hM.blw ba3
 have hK:=hK.trans (ba3.mono hK.size)
 have hza3:=ba3.size
 have kdA:=kd_one za3 (ok:=fun q=>g<q) gqA (var_in _ 0 ⟨by decide,by decide⟩ _)
 have Ha3:Hid (_=_):=ha3
 have KqA:Hid (_=_):=hqA
 clear ha3 hqA ba3 za3
 have cc:=node_any 12 (some ⟨qA,0,none⟩) 1 1 a3
 go_wp2_with fail
 rw [← Ha3.out]
 try simp only [← KqA.out]
 clear Ha3
 refine cc.mono ?_
 rintro e a4 ⟨rfl,ba4⟩
 clear cc
 have x1:=x1.blw ba4
 have hM:=hM.blw ba4
 have kdA:=kdA.blw ba4
 have hK:=hK.trans (ba4.mono hK.size)
 have hza4:=ba4.size
 clear ba4
 have tmA:TmIn (fun q=>g<q) a4 (mkT 12 _) _:=TmIn.mk 12 0 ⟨#[]⟩ [] _ [] _ _ _ ⟨by decide,by decide⟩ ⟨by decide,by decide⟩ (cl_nil _ _) kdA (sy_nil _ _ _)
 clear kdA
 obtain⟨qB,hqB⟩:∃ q,q=a4.heap.size:=⟨_,rfl⟩
 obtain⟨a5,ha5⟩:∃ W,W=a4.alloc (.cells #[.int .i64 1,.int .i64 0,.string ⟨#[]⟩,.slice none 0 0,.slice none 0 0,.slice none 0 0,.int .i64 12,.int .i64 0,.string ⟨#[]⟩,.slice none 0 0,.slice (some ⟨qA,0,none⟩) 1 1,.slice none 0 0] 26):=⟨_,rfl⟩
 have ba5:Below a4.heap.size a4 a5:=by rw [ha5];exact belowA _ _
 have za5:a5.heap[qB]? = some (.cells #[.int .i64 1,.int .i64 0,.string ⟨#[]⟩,.slice none 0 0,.slice none 0 0,.slice none 0 0,.int .i64 12,.int .i64 0,.string ⟨#[]⟩,.slice none 0 0,.slice (some ⟨qA,0,none⟩) 1 1,.slice none 0 0] 26 (0,0)):=by rw [ha5,hqB];exact heapNew _ _
 have gqB:g<qB:=by have:=hK.size;omega
 have x1:=x1.blw ba5
 have hM:=hM.blw ba5
 have tmA:=tmA.blw ba5
 have hK:=hK.trans (ba5.mono hK.size)
 have hza5:=ba5.size
 have kdB:=kd_two za5 (ok:=fun q=>g<q) gqB (var_in _ 0 ⟨by decide,by decide⟩ _) tmA
 have Ha5:Hid (_=_):=ha5
 have KqB:Hid (_=_):=hqB
 clear ha5 hqB ba5 za5
 have cc:=node_any 8 (some ⟨qB,0,none⟩) 2 2 a5
 go_wp2_with fail
 rw [← Ha5.out]
 try simp only [← KqB.out]
 clear Ha5
 refine cc.mono ?_
 rintro e a6 ⟨rfl,ba6⟩
 clear cc
 have x1:=x1.blw ba6
 have hM:=hM.blw ba6
 have tmA:=tmA.blw ba6
 have kdB:=kdB.blw ba6
 have hK:=hK.trans (ba6.mono hK.size)
 have hza6:=ba6.size
 clear ba6
 have tmB:TmIn (fun q=>g<q) a6 (mkT 8 _) _:=TmIn.mk 8 0 ⟨#[]⟩ [] _ [] _ _ _ ⟨by decide,by decide⟩ ⟨by decide,by decide⟩ (cl_nil _ _) kdB (sy_nil _ _ _)
 clear kdB
 obtain⟨oc,hoc⟩:∃ Y,Y=a6.heap.size:=⟨_,rfl⟩
 obtain⟨w3,hw3⟩:∃ W,W=a6.alloc (.cells #[.int .i64 8,.int .i64 0,.string ⟨#[]⟩,.slice none 0 0,.slice (some ⟨qB,0,none⟩) 2 2,.slice none 0 0] 26):=⟨_,rfl⟩
 have b3:Below a6.heap.size a6 w3:=by rw [hw3];exact belowA _ _
 have xc:Six w3 oc (.int .i64 8) (.int .i64 0) (.string ⟨#[]⟩) (.slice none 0 0) (.slice (some ⟨qB,0,none⟩) 2 2) (.slice none 0 0):=⟨by rw [hw3,hoc];exact heapNew _ _⟩
 have s3:oc<w3.heap.size∧g<oc:=by constructor;rw [hw3,hoc];simp;have:=hK.size;omega
 have x1:=x1.blw b3
 have hM:=hM.blw b3
 have tmC:TmIn (fun q=>g<q) w3 idCen (.agg #[.int .i64 8,.int .i64 0,.string ⟨#[]⟩,.slice none 0 0,.slice (some ⟨qB,0,none⟩) 2 2,.slice none 0 0]):=tmB.blw b3
 have hK3:Kn (Ng g) w2 w3:=Kn.of_below (hK.trans (b3.mono hK.size))
 have H3:Hid (_=_):=hw3
 have Hc:Hid (_=_):=hoc
 have hs23:=hK3.size
 clear hw3 hoc tmA tmB hK b3
 go_upto_region 4 with fail
 rw [← H3.out]
 simp only [← Hc.out]
 clear H3
 have cc:=mi_any g 0 w3 hM
 go_wp2_with fail
 refine cc.mono ?_
 rintro e c1 ⟨v1,rfl,hR1,hM1,hk1⟩
 clear cc
 obtain⟨a1,n1,e1,_⟩:=id hR1
 simp only [List.length_cons,List.length_nil,Nat.zero_add] at e1
 subst e1
 have cc:=mj_any g 0 c1 hM1
 go_wp2_with fail
 refine cc.mono ?_
 rintro e c2 ⟨v2,rfl,hR2,hM2,hk2⟩
 clear cc
 obtain⟨a2,n2,e2',_⟩:=id hR2
 simp only [List.length_cons,List.length_nil,Nat.zero_add] at e2'
 subst e2'
 have hR1:=hR1.kn hk2 (fun _ q=>q.1)
 have cc:=Meet_any [posB 1] [posB 0] _ _ c2 hR1.tt.frow hR2.tt.frow (by decide) (by decide)
 rw [htm] at cc
 dsimp only at cc
 go_wp2_with fail
 refine cc.mono ?_
 rintro e c3 ⟨v3,rfl,hO3,b3⟩
 clear cc
 obtain⟨a3,n3,e3⟩:=OwnsC.len hO3
 simp only [List.length_cons,List.length_nil,Nat.zero_add] at e3
 subst e3
 have hz3:=b3.size
 have hz1:=hk1.size
 have hz2:=hk2.size
 have hR3:=(OwnsC.okn hO3).bt (g:=g) (by omega)
 have hM3:=hM2.blw b3
 have cc:=mrow_any g 0 0 (a3) 1 n3 c3 hM3
 rw [fstE_none] at cc
 go_wp2_with fail
 refine cc.mono ?_
 rintro e c4 ⟨rfl,hM4,hk4⟩
 clear cc
 have hR4:=hR3.kn hk4 (fun _ q=>q.1)
 have hz4:=hk4.size
 have cc:=at_any (fun q=>g<q) [e2 0 1] _ c4 (hR4.lt' (fun q h _=>by have:=h.2.1;show g<q;omega))
 have eg:=at_eg
 go_wp2_with fail
 refine cc.mono ?_
 rintro e c5 ⟨v5,rfl,hv5,b5⟩
 clear cc eg
 obtain⟨ra5,rc5,ka5,kc5,sa5,sc5,rfl,ht5⟩:=hv5.form
 have tm5:=ht5.value.up (ok':=fun q=>g<q) (fun q h=>by rcases h with h | h;exact h;show g<q;omega)
 have hk35:Kn (Ng g) w3 c5:=(((hk1.trans hk2).blw b3).trans hk4).blw b5
 have hM5:=hM4.blw b5
 have x1:=x1.kn hk35 (by omega)
 have xc:=xc.kn hk35 (by omega)
 have tmC:=tmC.kn hk35 (fun q h=>by show q≠g;omega)
 have hz5:=hk35.size
 clear hR1 hR2 hR3 hR4 hO3 b3 hM1 hM2 hM3 hM4 hM hk1 hk2 hk4 ht5 hv5 b5
 have hM:=hM5
 have hK:Below c5.heap.size c5 c5:=Below.refl _ _
 clear hM5
 obtain⟨qD,hqD⟩:∃ q,q=c5.heap.size:=⟨_,rfl⟩
 obtain⟨a21,ha21⟩:∃ W,W=c5.alloc (.cells #[.int .i64 (idP [e2 0 1]).kind,.int .i64 (idP [e2 0 1]).n,.string (idP [e2 0 1]).name,.slice ra5 (idP [e2 0 1]).r.length rc5,.slice ka5 (idP [e2 0 1]).kids.length kc5,.slice sa5 (idP [e2 0 1]).sys.length sc5] 26):=⟨_,rfl⟩
 have ba21:Below c5.heap.size c5 a21:=by rw [ha21];exact belowA _ _
 have za21:a21.heap[qD]? = some (.cells #[.int .i64 (idP [e2 0 1]).kind,.int .i64 (idP [e2 0 1]).n,.string (idP [e2 0 1]).name,.slice ra5 (idP [e2 0 1]).r.length rc5,.slice ka5 (idP [e2 0 1]).kids.length kc5,.slice sa5 (idP [e2 0 1]).sys.length sc5] 26 (0,0)):=by rw [ha21,hqD];exact heapNew _ _
 have gqD:g<qD:=by have:=hK.size;omega
 have x1:=x1.blw ba21
 have hM:=hM.blw ba21
 have xc:=xc.blw ba21
 have tmC:=tmC.blw ba21
 have tm5:=tm5.blw ba21
 have hK:=hK.trans (ba21.mono hK.size)
 have hza21:=ba21.size
 have kdD:=kd_one za21 (ok:=fun q=>g<q) gqD tm5
 have Ha21:Hid (_=_):=ha21
 have KqD:Hid (_=_):=hqD
 clear ha21 hqD ba21 za21
 have cc:=node_any 12 (some ⟨qD,0,none⟩) 1 1 a21
 go_wp2_with fail
 rw [← Ha21.out]
 try simp only [← KqD.out]
 clear Ha21
 refine cc.mono ?_
 rintro e a22 ⟨rfl,ba22⟩
 clear cc
 have x1:=x1.blw ba22
 have hM:=hM.blw ba22
 have xc:=xc.blw ba22
 have tmC:=tmC.blw ba22
 have tm5:=tm5.blw ba22
 have kdD:=kdD.blw ba22
 have hK:=hK.trans (ba22.mono hK.size)
 have hza22:=ba22.size
 clear ba22
 have tmD:TmIn (fun q=>g<q) a22 (mkT 12 _) _:=TmIn.mk 12 0 ⟨#[]⟩ [] _ [] _ _ _ ⟨by decide,by decide⟩ ⟨by decide,by decide⟩ (cl_nil _ _) kdD (sy_nil _ _ _)
 clear kdD
 obtain⟨oi,hoi⟩:∃ Y,Y=a22.heap.size:=⟨_,rfl⟩
 obtain⟨w4,hw4⟩:∃ W,W=a22.alloc (.cells #[.int .i64 12,.int .i64 0,.string ⟨#[]⟩,.slice none 0 0,.slice (some ⟨qD,0,none⟩) 1 1,.slice none 0 0] 26):=⟨_,rfl⟩
 have b4:Below a22.heap.size a22 w4:=by rw [hw4];exact belowA _ _
 have xi:Six w4 oi (.int .i64 12) (.int .i64 0) (.string ⟨#[]⟩) (.slice none 0 0) (.slice (some ⟨qD,0,none⟩) 1 1) (.slice none 0 0):=⟨by rw [hw4,hoi];exact heapNew _ _⟩
 have s4:oi<w4.heap.size∧g<oi:=by constructor;rw [hw4,hoi];simp;have:=hK.size;omega
 have x1:=x1.blw b4
 have hM:=hM.blw b4
 have xc:=xc.blw b4
 have tmC:=tmC.blw b4
 have tmI:TmIn (fun q=>g<q) w4 idInn (.agg #[.int .i64 12,.int .i64 0,.string ⟨#[]⟩,.slice none 0 0,.slice (some ⟨qD,0,none⟩) 1 1,.slice none 0 0]):=tmD.blw b4
 have hK4:Kn (Ng g) w2 w4:=(hK3.trans hk35).trans (Kn.of_below (hK.trans (b4.mono hK.size)))
 have hs24:=hK4.size
 have H4:Hid (_=_):=hw4
 have Hi:Hid (_=_):=hoi
 clear hw4 hoi tm5 tmD hK b4 hK3 hk35
 go_upto_region 5 with fail
 rw [← H4.out]
 simp only [← Hi.out]
 clear H4
 go_cut [5] (fun s wx=>∃ o k,s=.pointer (some ⟨o,0,none⟩)∧w4.heap.size≤o∧Six wx o (.int .i64 5) (.int .i64 0) (.string ⟨#[]⟩) (.slice none 0 0) (.slice (some ⟨k,0,none⟩) 1 1) (.slice none 0 0)∧TmIn (fun q=>g<q) wx idTo (.agg #[.int .i64 5,.int .i64 0,.string ⟨#[]⟩,.slice none 0 0,.slice (some ⟨k,0,none⟩) 1 1,.slice none 0 0])∧Mk wx g 0∧Kn (Ng g) w4 wx)
 case first =>
  have xii:=xi
  refine wp_region_any (by kernel_rfl) ?_
  obtain⟨wd,hwd⟩:∃ V,V={ w4 with drawn:=w4.drawn+1 }:=⟨_,rfl⟩
  rw [← hwd]
  have hkd:Kn (Ng g) w4 wd:=by rw [hwd];exact (Kn.refl _ _).drew
  generalize hA0:({ tmps:=_,defers:=[] }:Act)=a0
  have s0:a0.tmps.size=52∧a0.defers=[]:=by rw [← hA0];exact⟨rfl,rfl⟩
  have s1:a0.tmps[1]? = some (.pointer (some ⟨g,0,none⟩)):=by rw [← hA0];rfl
  have s2:a0.tmps[2]? = some (.func (.func 66) #[] #[]):=by rw [← hA0];rfl
  have s4:a0.tmps[4]? = some (.pointer (some ⟨oi,0,none⟩)):=by rw [← hA0];rfl
  have hM4:Mk wd g 0:=hM.blw (by rw [hwd];exact (Below.refl _ _).drew:Below w4.heap.size w4 wd)
  have hg4:g<w4.heap.size:=by have:=hM.lt;exact this
  refine region_inv (γ:=List Nat) 11 (fun i v G w=>match i with
   | 0=>v=.func (.func 66) #[] #[]
   | 1=>∃ a c,v=.slice a 1 c∧ClRow (OkG g G) w [posB 0] v
   | 2=>∃ u0 u1 u2 u3 u4 u5,v=.agg #[u0,u1,u2,u3,u4,u5]∧TmIn (OkG g G) w (idP [posB 0]) v
   | 3=>v=.agg #[.int .i64 12,.int .i64 0,.string ⟨#[]⟩,.slice none 0 0,.slice (some ⟨qD,0,none⟩) 1 1,.slice none 0 0]∧TmIn (OkG g G) w idInn v
   | 4=>∃ k,v=.slice (some ⟨k,0,none⟩) 2 2∧KdT (OkG g G) w (TmIn (OkG g G) w) [idP [posB 0],idInn] v
   | 5=>∃ k,v=.agg #[.int .i64 8,.int .i64 0,.string ⟨#[]⟩,.slice none 0 0,.slice (some ⟨k,0,none⟩) 2 2,.slice none 0 0]∧TmIn (OkG g G) w (mkT 8 [idP [posB 0],idInn]) v
   | 6=>∃ k,v=.slice (some ⟨k,0,none⟩) 1 1∧KdT (OkG g G) w (TmIn (OkG g G) w) [(mkT 8 [idP [posB 0],idInn])] v
   | 7=>∃ k,v=.agg #[.int .i64 12,.int .i64 0,.string ⟨#[]⟩,.slice none 0 0,.slice (some ⟨k,0,none⟩) 1 1,.slice none 0 0]∧TmIn (OkG g G) w (mkT 12 [(mkT 8 [idP [posB 0],idInn])]) v
   | 8=>∃ k,v=.slice (some ⟨k,0,none⟩) 1 1∧KdT (OkG g G) w (TmIn (OkG g G) w) [(mkT 12 [(mkT 8 [idP [posB 0],idInn])])] v
   | 9=>∃ k,v=.agg #[.int .i64 5,.int .i64 0,.string ⟨#[]⟩,.slice none 0 0,.slice (some ⟨k,0,none⟩) 1 1,.slice none 0 0]∧TmIn (OkG g G) w idTo v
   | 10=>∃ o,v=.pointer (some ⟨o,0,none⟩)∧g<o∧o∈G∧Six w o (.int .i64 0) (.int .i64 0) (.string ⟨#[]⟩) (.slice none 0 0) (.slice none 0 0) (.slice none 0 0)
   | _=>True) (fun a=>a.defers=[]∧a.tmps.size=52∧∀ k,k<25→k≠5→a.tmps[k]? = a0.tmps[k]?) (BaG g w4) (ChG g)
   ?_ ?_ ?_ ?_ ?_ ?_ 11 _ a0 [] wd ?_ ?_ ?_ ?_ ?_ ?_
  ·kernel_rfl
  ·rintro a ⟨h1,h2,h3⟩ i o d hi ho hd
   match i,hi with
   | 0,_=>cases ho;cases hd;rw [h2];decide
   | 1,_=>cases ho;cases hd;rw [h2];decide
   | 2,_=>cases ho;cases hd;rw [h2];decide
   | 3,_=>cases ho;cases hd;rw [h2];decide
   | 4,_=>cases ho;cases hd;rw [h2];decide
   | 5,_=>cases ho;cases hd;rw [h2];decide
   | 6,_=>cases ho;cases hd;rw [h2];decide
   | 7,_=>cases ho;cases hd;rw [h2];decide
   | 8,_=>cases ho;cases hd;rw [h2];decide
   | 9,_=>cases ho;cases hd;rw [h2];decide
   | 10,_=>cases ho;cases hd;rw [h2];decide
  ·rintro a i o v hi ho ⟨h1,h2,h3⟩
   match i,hi with
   | 0,_=>cases ho;exact⟨h1,by show (a.tmps.setIfInBounds _ _).size=52;rw [Array.size_setIfInBounds];exact h2,fun k q1 q2=>(slot_put (by omega) v).trans (h3 k q1 q2)⟩
   | 1,_=>cases ho;exact⟨h1,by show (a.tmps.setIfInBounds _ _).size=52;rw [Array.size_setIfInBounds];exact h2,fun k q1 q2=>(slot_put (by omega) v).trans (h3 k q1 q2)⟩
   | 2,_=>cases ho;exact⟨h1,by show (a.tmps.setIfInBounds _ _).size=52;rw [Array.size_setIfInBounds];exact h2,fun k q1 q2=>(slot_put (by omega) v).trans (h3 k q1 q2)⟩
   | 3,_=>cases ho;exact⟨h1,by show (a.tmps.setIfInBounds _ _).size=52;rw [Array.size_setIfInBounds];exact h2,fun k q1 q2=>(slot_put (by omega) v).trans (h3 k q1 q2)⟩
   | 4,_=>cases ho;exact⟨h1,by show (a.tmps.setIfInBounds _ _).size=52;rw [Array.size_setIfInBounds];exact h2,fun k q1 q2=>(slot_put (by omega) v).trans (h3 k q1 q2)⟩
   | 5,_=>cases ho;exact⟨h1,by show (a.tmps.setIfInBounds _ _).size=52;rw [Array.size_setIfInBounds];exact h2,fun k q1 q2=>(slot_put (by omega) v).trans (h3 k q1 q2)⟩
   | 6,_=>cases ho;exact⟨h1,by show (a.tmps.setIfInBounds _ _).size=52;rw [Array.size_setIfInBounds];exact h2,fun k q1 q2=>(slot_put (by omega) v).trans (h3 k q1 q2)⟩
   | 7,_=>cases ho;exact⟨h1,by show (a.tmps.setIfInBounds _ _).size=52;rw [Array.size_setIfInBounds];exact h2,fun k q1 q2=>(slot_put (by omega) v).trans (h3 k q1 q2)⟩
   | 8,_=>cases ho;exact⟨h1,by show (a.tmps.setIfInBounds _ _).size=52;rw [Array.size_setIfInBounds];exact h2,fun k q1 q2=>(slot_put (by omega) v).trans (h3 k q1 q2)⟩
   | 9,_=>cases ho;exact⟨h1,by show (a.tmps.setIfInBounds _ _).size=52;rw [Array.size_setIfInBounds];exact h2,fun k q1 q2=>(slot_put (by omega) v).trans (h3 k q1 q2)⟩
   | 10,_=>cases ho;exact⟨h1,by show (a.tmps.setIfInBounds _ _).size=52;rw [Array.size_setIfInBounds];exact h2,fun k q1 q2=>(slot_put (by omega) v).trans (h3 k q1 q2)⟩
  ·intro i v G w G' w' c h
   match i with
   | 0=>exact h
   | 1=>obtain⟨a,c1,e,h⟩:=h;exact⟨a,c1,e,cl_st h c⟩
   | 2=>obtain⟨u0,u1,u2,u3,u4,u5,e,h⟩:=h;exact⟨u0,u1,u2,u3,u4,u5,e,tm_st h c⟩
   | 3=>exact⟨h.1,tm_st h.2 c⟩
   | 4=>obtain⟨k,e,h⟩:=h;exact⟨k,e,kd_st h c⟩
   | 5=>obtain⟨k,e,h⟩:=h;exact⟨k,e,tm_st h c⟩
   | 6=>obtain⟨k,e,h⟩:=h;exact⟨k,e,kd_st h c⟩
   | 7=>obtain⟨k,e,h⟩:=h;exact⟨k,e,tm_st h c⟩
   | 8=>obtain⟨k,e,h⟩:=h;exact⟨k,e,kd_st h c⟩
   | 9=>obtain⟨k,e,h⟩:=h;exact⟨k,e,tm_st h c⟩
   | 10=>obtain⟨o,e,ho,hG,h⟩:=h;exact⟨o,e,ho,by rcases c.2 with q | q;rw [q];exact hG;rw [q];exact List.mem_cons_of_mem _ hG,h.kn c.1 (by omega)⟩
   | _+11=>trivial
  ·intro i hi o ho a G w hB ⟨h1,h2,h3⟩ hF
   have sl:∀ k,k<25→k≠5→a.tmps[k]? = a0.tmps[k]?:=h3
   have gd:∀ k (hk:k<a.tmps.size),a.tmps.getD k undef=a.tmps[k]:=fun k hk=>by unfold Array.getD;rw [dif_pos hk];rfl
   match i,hi with
   | 0,_ =>
    cases ho
    obtain⟨_,e1⟩:=Array.getElem?_eq_some_iff.1 ((sl 2 (by omega) (by omega)).trans s2)
    go_simp
    exact⟨_,rfl,_,hB,ch_refl _ _ _,rfl⟩
   | 1,_ =>
    cases ho
    obtain⟨_,e1⟩:=Array.getElem?_eq_some_iff.1 ((sl 1 (by omega) (by omega)).trans s1)
    have cc:=malone_any g 0 w hB.1
    go_simp
    refine cc.mono ?_
    rintro e w' ⟨v',rfl,hR,hM',hk⟩
    obtain⟨a1,c1,e2,_⟩:=id hR
    simp only [List.length_cons,List.length_nil,Nat.zero_add] at e2
    exact⟨_,rfl,_,ba_kn hB hk hM',ch_of hk,⟨a1,c1,e2⟩,hR.lt' fun q hq _=>okg_ge hB hg4 (by have:=hq.2.1;omega)⟩
   | 2,_ =>
    cases ho
    have f0:(fun v=>v=.func (.func 66) #[] #[]) (a.tmps.getD 25 undef):=hF ⟨0,.data⟩ (by simp) rfl
    rw [gd 25 (by omega)] at f0
    have f1:(fun v=>∃ a c,v=.slice a 1 c∧ClRow (OkG g G) w [posB 0] v) (a.tmps.getD 26 undef):=hF ⟨1,.data⟩ (by simp) rfl
    rw [gd 26 (by omega)] at f1
    obtain⟨a1,c1,e2,f1⟩:=f1
    rw [e2] at f1
    have cc:=at_any (OkG g G) [posB 0] _ w f1
    have eg:=at_eg
    clear hF
    go_simp
    refine cc.mono ?_
    rintro e w' ⟨v',rfl,ht,hb⟩
    obtain⟨ra,rc,ka,kc,sa,sc,rfl,ht2⟩:=ht.form
    have tm:=ht2.value.up (ok':=OkG g G) (fun q h=>by rcases h with h | h;exact h;exact okg_ge hB hg4 h.1)
    exact⟨_,rfl,_,ba_blw hB hb,ch_of (Kn.of_below hb),⟨_,_,_,_,_,_,rfl⟩,tm⟩
   | 3,_ =>
    cases ho
    clear hF
    obtain⟨_,e1⟩:=Array.getElem?_eq_some_iff.1 ((sl 4 (by omega) (by omega)).trans s4)
    have xq:=xii.kn hB.2.1 (by omega)
    have tmI:TmIn (OkG g G) w idInn _:=(((tmI.lt' (ok':=fun q=>g<q∧q<w4.heap.size) fun q h1 h2=>⟨h1,h2⟩).kn hB.2.1 (fun q h=>by show q≠g;omega)).up fun q h=>⟨h.1,fun e=>by have:=hB.2.2 q e;omega⟩)
    obtain⟨o0,o1,o2,o3,o4,o5,ff⟩:=xq.cells
    have g0:=ff 0
    have g1:=ff 1
    have g2:=ff 2
    have g3:=ff 3
    have g4:=ff 4
    have g5:=ff 5
    go_simp
    exact⟨_,rfl,_,hB,ch_refl _ _ _,rfl,tmI⟩
   | 4,_ =>
    cases ho
    have f2:(fun v=>∃ u0 u1 u2 u3 u4 u5,v=.agg #[u0,u1,u2,u3,u4,u5]∧TmIn (OkG g G) w (idP [posB 0]) v) (a.tmps.getD 27 undef):=hF ⟨2,.data⟩ (by simp) rfl
    rw [gd 27 (by omega)] at f2
    have f3:(fun v=>v=.agg #[.int .i64 12,.int .i64 0,.string ⟨#[]⟩,.slice none 0 0,.slice (some ⟨qD,0,none⟩) 1 1,.slice none 0 0]∧TmIn (OkG g G) w idInn v) (a.tmps.getD 28 undef):=hF ⟨3,.data⟩ (by simp) rfl
    rw [gd 28 (by omega)] at f3
    clear hF
    obtain⟨u0,u1,u2,u3,u4,u5,e2,f2⟩:=f2
    obtain⟨e3,f3⟩:=f3
    rw [e2] at f2
    rw [e3] at f3
    go_simp
    generalize hW:w.alloc _=W
    have bW:Below w.heap.size w W:=by rw [← hW];exact belowA _ _
    have zW:W.heap[w.heap.size]? = some (.cells #[u0,u1,u2,u3,u4,u5,.int .i64 12,.int .i64 0,.string ⟨#[]⟩,.slice none 0 0,.slice (some ⟨qD,0,none⟩) 1 1,.slice none 0 0] 26 (0,0)):=by rw [← hW];exact heapNew _ _
    have cW:ChG g G w G W:=ch_of (Kn.of_below bW)
    exact⟨_,rfl,_,ba_blw hB bW,cW,⟨_,rfl⟩,kd_two zW (okg_new hB hg4) (tm_st f2 cW) (tm_st f3 cW)⟩
   | 5,_ =>
    cases ho
    have f4:(fun v=>∃ k,v=.slice (some ⟨k,0,none⟩) 2 2∧KdT (OkG g G) w (TmIn (OkG g G) w) [idP [posB 0],idInn] v) (a.tmps.getD 29 undef):=hF ⟨4,.data⟩ (by simp) rfl
    rw [gd 29 (by omega)] at f4
    clear hF
    obtain⟨k,e2,f4⟩:=f4
    rw [e2] at f4
    have cc:=node_any 8 (some ⟨k,0,none⟩) 2 2 w
    go_simp
    refine cc.mono ?_
    rintro e w' ⟨rfl,hb⟩
    have tm:=TmIn.mk 8 0 ⟨#[]⟩ [] _ [] _ _ _ ⟨by decide,by decide⟩ ⟨by decide,by decide⟩ (cl_nil _ _) f4 (sy_nil _ _ _)
    exact⟨_,rfl,_,ba_blw hB hb,ch_of (Kn.of_below hb),⟨_,rfl⟩,tm_st tm (ch_of (Kn.of_below hb))⟩
   | 6,_ =>
    cases ho
    have f5:(fun v=>∃ k,v=.agg #[.int .i64 8,.int .i64 0,.string ⟨#[]⟩,.slice none 0 0,.slice (some ⟨k,0,none⟩) 2 2,.slice none 0 0]∧TmIn (OkG g G) w (mkT 8 [idP [posB 0],idInn]) v) (a.tmps.getD 30 undef):=hF ⟨5,.data⟩ (by simp) rfl
    rw [gd 30 (by omega)] at f5
    clear hF
    obtain⟨k,e2,f5⟩:=f5
    rw [e2] at f5
    go_simp
    generalize hW:w.alloc _=W
    have bW:Below w.heap.size w W:=by rw [← hW];exact belowA _ _
    have zW:W.heap[w.heap.size]? = some (.cells #[.int .i64 8,.int .i64 0,.string ⟨#[]⟩,.slice none 0 0,.slice (some ⟨k,0,none⟩) 2 2,.slice none 0 0] 26 (0,0)):=by rw [← hW];exact heapNew _ _
    have cW:ChG g G w G W:=ch_of (Kn.of_below bW)
    exact⟨_,rfl,_,ba_blw hB bW,cW,⟨_,rfl⟩,kd_one zW (okg_new hB hg4) (tm_st f5 cW)⟩
   | 7,_ =>
    cases ho
    have f6:(fun v=>∃ k,v=.slice (some ⟨k,0,none⟩) 1 1∧KdT (OkG g G) w (TmIn (OkG g G) w) [(mkT 8 [idP [posB 0],idInn])] v) (a.tmps.getD 31 undef):=hF ⟨6,.data⟩ (by simp) rfl
    rw [gd 31 (by omega)] at f6
    clear hF
    obtain⟨k,e2,f6⟩:=f6
    rw [e2] at f6
    have cc:=node_any 12 (some ⟨k,0,none⟩) 1 1 w
    go_simp
    refine cc.mono ?_
    rintro e w' ⟨rfl,hb⟩
    have tm:=TmIn.mk 12 0 ⟨#[]⟩ [] _ [] _ _ _ ⟨by decide,by decide⟩ ⟨by decide,by decide⟩ (cl_nil _ _) f6 (sy_nil _ _ _)
    exact⟨_,rfl,_,ba_blw hB hb,ch_of (Kn.of_below hb),⟨_,rfl⟩,tm_st tm (ch_of (Kn.of_below hb))⟩
   | 8,_ =>
    cases ho
    have f7:(fun v=>∃ k,v=.agg #[.int .i64 12,.int .i64 0,.string ⟨#[]⟩,.slice none 0 0,.slice (some ⟨k,0,none⟩) 1 1,.slice none 0 0]∧TmIn (OkG g G) w (mkT 12 [(mkT 8 [idP [posB 0],idInn])]) v) (a.tmps.getD 32 undef):=hF ⟨7,.data⟩ (by simp) rfl
    rw [gd 32 (by omega)] at f7
    clear hF
    obtain⟨k,e2,f7⟩:=f7
    rw [e2] at f7
    go_simp
    generalize hW:w.alloc _=W
    have bW:Below w.heap.size w W:=by rw [← hW];exact belowA _ _
    have zW:W.heap[w.heap.size]? = some (.cells #[.int .i64 12,.int .i64 0,.string ⟨#[]⟩,.slice none 0 0,.slice (some ⟨k,0,none⟩) 1 1,.slice none 0 0] 26 (0,0)):=by rw [← hW];exact heapNew _ _
    have cW:ChG g G w G W:=ch_of (Kn.of_below bW)
    exact⟨_,rfl,_,ba_blw hB bW,cW,⟨_,rfl⟩,kd_one zW (okg_new hB hg4) (tm_st f7 cW)⟩
   | 9,_ =>
    cases ho
    have f8:(fun v=>∃ k,v=.slice (some ⟨k,0,none⟩) 1 1∧KdT (OkG g G) w (TmIn (OkG g G) w) [(mkT 12 [(mkT 8 [idP [posB 0],idInn])])] v) (a.tmps.getD 33 undef):=hF ⟨8,.data⟩ (by simp) rfl
    rw [gd 33 (by omega)] at f8
    clear hF
    obtain⟨k,e2,f8⟩:=f8
    rw [e2] at f8
    have cc:=node_any 5 (some ⟨k,0,none⟩) 1 1 w
    go_simp
    refine cc.mono ?_
    rintro e w' ⟨rfl,hb⟩
    have tm:=TmIn.mk 5 0 ⟨#[]⟩ [] _ [] _ _ _ ⟨by decide,by decide⟩ ⟨by decide,by decide⟩ (cl_nil _ _) f8 (sy_nil _ _ _)
    exact⟨_,rfl,_,ba_blw hB hb,ch_of (Kn.of_below hb),⟨_,rfl⟩,tm_st tm (ch_of (Kn.of_below hb))⟩
   | 10,_ =>
    cases ho
    clear hF
    go_simp
    generalize hW:w.alloc _=W
    have bW:Below w.heap.size w W:=by rw [← hW];exact belowA _ _
    have zW:Six W w.heap.size (.int .i64 0) (.int .i64 0) (.string ⟨#[]⟩) (.slice none 0 0) (.slice none 0 0) (.slice none 0 0):=⟨by rw [← hW];exact heapNew _ _⟩
    have sW:W.heap.size=w.heap.size+1:=by rw [← hW];simp
    have q4:=hB.2.1.size
    exact⟨_,rfl,w.heap.size :: G,⟨hB.1.blw bW,hB.2.1.trans (Kn.of_below bW),fun o e=>by
     rcases List.mem_cons.1 e with e|e
     ·omega
     ·have:=hB.2.2 o e;omega⟩,⟨Kn.of_below bW,.inr rfl⟩,_,rfl,by omega,List.mem_cons_self,zW⟩
  ·intro l a G w hu hB ⟨h1,h2,h3⟩ hF
   have sl:∀ k,k<25→k≠5→a.tmps[k]? = a0.tmps[k]?:=h3
   have gd:∀ k (hk:k<a.tmps.size),a.tmps.getD k undef=a.tmps[k]:=fun k hk=>by unfold Array.getD;rw [dif_pos hk];rfl
   have f9:(fun v=>∃ k,v=.agg #[.int .i64 5,.int .i64 0,.string ⟨#[]⟩,.slice none 0 0,.slice (some ⟨k,0,none⟩) 1 1,.slice none 0 0]∧TmIn (OkG g G) w idTo v) (a.tmps.getD 34 undef):=hF 9 (by omega)
   rw [gd 34 (by omega)] at f9
   have f10:(fun v=>∃ o,v=.pointer (some ⟨o,0,none⟩)∧g<o∧o∈G∧Six w o (.int .i64 0) (.int .i64 0) (.string ⟨#[]⟩) (.slice none 0 0) (.slice none 0 0) (.slice none 0 0)) (a.tmps.getD 5 undef):=hF 10 (by omega)
   rw [gd 5 (by omega)] at f10
   clear hF
   obtain⟨k,e9,f9⟩:=f9
   rw [e9] at f9
   obtain⟨o,e10,hgo,hoG,x10⟩:=f10
   refine tail_one (by kernel_rfl) rfl rfl hu ?_
   have zz2:=x10.set6 (.int .i64 5) (.int .i64 0) (.string ⟨#[]⟩) (.slice none 0 0) (.slice (some ⟨k,0,none⟩) 1 1) (.slice none 0 0)
   obtain⟨o0,o1,o2,o3,o4,o5,ff⟩:=x10.cells
   have g0:=ff 0
   have g1:=ff 1
   have g2:=ff 2
   have g3:=ff 3
   have g4:=ff 4
   have g5:=ff 5
   obtain⟨W,hwz⟩:∃ W,W=(((((w.setCell ⟨o,0,none⟩ (.int .i64 5)).setCell ⟨o,1,none⟩ (.int .i64 0)).setCell ⟨o,2,none⟩ (.string ⟨#[]⟩)).setCell ⟨o,3,none⟩ (.slice none 0 0)).setCell ⟨o,4,none⟩ (.slice (some ⟨k,0,none⟩) 1 1)).setCell ⟨o,5,none⟩ (.slice none 0 0):=⟨_,rfl⟩
   rw [← hwz] at zz2
   have kz:Kn (fun q=>q≠o) w W:=by rw [hwz];exact kn_set66 _ _ _ _ _ _ _ _
   have Hwz:Hid (_=_):=hwz
   clear hwz
   go_simp
   rw [← Hwz.out]
   have tmF:=(f9.kn kz (fun r q=>fun e=>q.2 (e ▸ hoG))).up (ok':=fun q=>g<q) (fun q h=>h.1)
   have hM:=hB.1.kn kz (by omega)
   have hoo:=hB.2.2 o hoG
   have hK:=hB.2.1.new kz (by omega)
   have e10':a.tmps[5]? = some (.pointer (some ⟨o,0,none⟩)):=by rw [Array.getElem?_eq_getElem (by omega),e10]
   clear e10
   clear kz hB f9 x10 o0 o1 o2 o3 o4 o5 g0 g1 g2 g3 g4 g5 gd sl e9 Hwz hu
   subst hA0
   obtain⟨⟨l⟩,df⟩:=a
   cases h1
   have hl:l.length=52:=h2
   clear h2
   obtain⟨x0,l,rfl⟩:=List.exists_cons_of_length_pos (l:=l) (by omega)
   simp only [List.length_cons] at hl
   obtain⟨x1,l,rfl⟩:=List.exists_cons_of_length_pos (l:=l) (by omega)
   simp only [List.length_cons] at hl
   obtain⟨x2,l,rfl⟩:=List.exists_cons_of_length_pos (l:=l) (by omega)
   simp only [List.length_cons] at hl
   obtain⟨x3,l,rfl⟩:=List.exists_cons_of_length_pos (l:=l) (by omega)
   simp only [List.length_cons] at hl
   obtain⟨x4,l,rfl⟩:=List.exists_cons_of_length_pos (l:=l) (by omega)
   simp only [List.length_cons] at hl
   obtain⟨x5,l,rfl⟩:=List.exists_cons_of_length_pos (l:=l) (by omega)
   simp only [List.length_cons] at hl
   obtain⟨x6,l,rfl⟩:=List.exists_cons_of_length_pos (l:=l) (by omega)
   simp only [List.length_cons] at hl
   obtain⟨x7,l,rfl⟩:=List.exists_cons_of_length_pos (l:=l) (by omega)
   simp only [List.length_cons] at hl
   obtain⟨x8,l,rfl⟩:=List.exists_cons_of_length_pos (l:=l) (by omega)
   simp only [List.length_cons] at hl
   obtain⟨x9,l,rfl⟩:=List.exists_cons_of_length_pos (l:=l) (by omega)
   simp only [List.length_cons] at hl
   obtain⟨x10,l,rfl⟩:=List.exists_cons_of_length_pos (l:=l) (by omega)
   simp only [List.length_cons] at hl
   obtain⟨x11,l,rfl⟩:=List.exists_cons_of_length_pos (l:=l) (by omega)
   simp only [List.length_cons] at hl
   obtain⟨x12,l,rfl⟩:=List.exists_cons_of_length_pos (l:=l) (by omega)
   simp only [List.length_cons] at hl
   obtain⟨x13,l,rfl⟩:=List.exists_cons_of_length_pos (l:=l) (by omega)
   simp only [List.length_cons] at hl
   obtain⟨x14,l,rfl⟩:=List.exists_cons_of_length_pos (l:=l) (by omega)
   simp only [List.length_cons] at hl
   obtain⟨x15,l,rfl⟩:=List.exists_cons_of_length_pos (l:=l) (by omega)
   simp only [List.length_cons] at hl
   obtain⟨x16,l,rfl⟩:=List.exists_cons_of_length_pos (l:=l) (by omega)
   simp only [List.length_cons] at hl
   obtain⟨x17,l,rfl⟩:=List.exists_cons_of_length_pos (l:=l) (by omega)
   simp only [List.length_cons] at hl
   obtain⟨x18,l,rfl⟩:=List.exists_cons_of_length_pos (l:=l) (by omega)
   simp only [List.length_cons] at hl
   obtain⟨x19,l,rfl⟩:=List.exists_cons_of_length_pos (l:=l) (by omega)
   simp only [List.length_cons] at hl
   obtain⟨x20,l,rfl⟩:=List.exists_cons_of_length_pos (l:=l) (by omega)
   simp only [List.length_cons] at hl
   obtain⟨x21,l,rfl⟩:=List.exists_cons_of_length_pos (l:=l) (by omega)
   simp only [List.length_cons] at hl
   obtain⟨x22,l,rfl⟩:=List.exists_cons_of_length_pos (l:=l) (by omega)
   simp only [List.length_cons] at hl
   obtain⟨x23,l,rfl⟩:=List.exists_cons_of_length_pos (l:=l) (by omega)
   simp only [List.length_cons] at hl
   obtain⟨x24,l,rfl⟩:=List.exists_cons_of_length_pos (l:=l) (by omega)
   simp only [List.length_cons] at hl
   obtain⟨x25,l,rfl⟩:=List.exists_cons_of_length_pos (l:=l) (by omega)
   simp only [List.length_cons] at hl
   obtain⟨x26,l,rfl⟩:=List.exists_cons_of_length_pos (l:=l) (by omega)
   simp only [List.length_cons] at hl
   obtain⟨x27,l,rfl⟩:=List.exists_cons_of_length_pos (l:=l) (by omega)
   simp only [List.length_cons] at hl
   obtain⟨x28,l,rfl⟩:=List.exists_cons_of_length_pos (l:=l) (by omega)
   simp only [List.length_cons] at hl
   obtain⟨x29,l,rfl⟩:=List.exists_cons_of_length_pos (l:=l) (by omega)
   simp only [List.length_cons] at hl
   obtain⟨x30,l,rfl⟩:=List.exists_cons_of_length_pos (l:=l) (by omega)
   simp only [List.length_cons] at hl
   obtain⟨x31,l,rfl⟩:=List.exists_cons_of_length_pos (l:=l) (by omega)
   simp only [List.length_cons] at hl
   obtain⟨x32,l,rfl⟩:=List.exists_cons_of_length_pos (l:=l) (by omega)
   simp only [List.length_cons] at hl
   obtain⟨x33,l,rfl⟩:=List.exists_cons_of_length_pos (l:=l) (by omega)
   simp only [List.length_cons] at hl
   obtain⟨x34,l,rfl⟩:=List.exists_cons_of_length_pos (l:=l) (by omega)
   simp only [List.length_cons] at hl
   obtain⟨x35,l,rfl⟩:=List.exists_cons_of_length_pos (l:=l) (by omega)
   simp only [List.length_cons] at hl
   obtain⟨x36,l,rfl⟩:=List.exists_cons_of_length_pos (l:=l) (by omega)
   simp only [List.length_cons] at hl
   obtain⟨x37,l,rfl⟩:=List.exists_cons_of_length_pos (l:=l) (by omega)
   simp only [List.length_cons] at hl
   obtain⟨x38,l,rfl⟩:=List.exists_cons_of_length_pos (l:=l) (by omega)
   simp only [List.length_cons] at hl
   obtain⟨x39,l,rfl⟩:=List.exists_cons_of_length_pos (l:=l) (by omega)
   simp only [List.length_cons] at hl
   obtain⟨x40,l,rfl⟩:=List.exists_cons_of_length_pos (l:=l) (by omega)
   simp only [List.length_cons] at hl
   obtain⟨x41,l,rfl⟩:=List.exists_cons_of_length_pos (l:=l) (by omega)
   simp only [List.length_cons] at hl
   obtain⟨x42,l,rfl⟩:=List.exists_cons_of_length_pos (l:=l) (by omega)
   simp only [List.length_cons] at hl
   obtain⟨x43,l,rfl⟩:=List.exists_cons_of_length_pos (l:=l) (by omega)
   simp only [List.length_cons] at hl
   obtain⟨x44,l,rfl⟩:=List.exists_cons_of_length_pos (l:=l) (by omega)
   simp only [List.length_cons] at hl
   obtain⟨x45,l,rfl⟩:=List.exists_cons_of_length_pos (l:=l) (by omega)
   simp only [List.length_cons] at hl
   obtain⟨x46,l,rfl⟩:=List.exists_cons_of_length_pos (l:=l) (by omega)
   simp only [List.length_cons] at hl
   obtain⟨x47,l,rfl⟩:=List.exists_cons_of_length_pos (l:=l) (by omega)
   simp only [List.length_cons] at hl
   obtain⟨x48,l,rfl⟩:=List.exists_cons_of_length_pos (l:=l) (by omega)
   simp only [List.length_cons] at hl
   obtain⟨x49,l,rfl⟩:=List.exists_cons_of_length_pos (l:=l) (by omega)
   simp only [List.length_cons] at hl
   obtain⟨x50,l,rfl⟩:=List.exists_cons_of_length_pos (l:=l) (by omega)
   simp only [List.length_cons] at hl
   obtain⟨x51,l,rfl⟩:=List.exists_cons_of_length_pos (l:=l) (by omega)
   simp only [List.length_cons] at hl
   obtain rfl:l=[]:=List.eq_nil_of_length_eq_zero (by omega)
   have q0:some x0=some _:=h3 0 (by omega) (by omega)
   cases q0
   have q1:some x1=some _:=h3 1 (by omega) (by omega)
   cases q1
   have q2:some x2=some _:=h3 2 (by omega) (by omega)
   cases q2
   have q3:some x3=some _:=h3 3 (by omega) (by omega)
   cases q3
   have q4:some x4=some _:=h3 4 (by omega) (by omega)
   cases q4
   have q5:some x5=some _:=e10'
   cases q5
   have q6:some x6=some _:=h3 6 (by omega) (by omega)
   cases q6
   have q7:some x7=some _:=h3 7 (by omega) (by omega)
   cases q7
   have q8:some x8=some _:=h3 8 (by omega) (by omega)
   cases q8
   have q9:some x9=some _:=h3 9 (by omega) (by omega)
   cases q9
   have q10:some x10=some _:=h3 10 (by omega) (by omega)
   cases q10
   have q11:some x11=some _:=h3 11 (by omega) (by omega)
   cases q11
   have q12:some x12=some _:=h3 12 (by omega) (by omega)
   cases q12
   have q13:some x13=some _:=h3 13 (by omega) (by omega)
   cases q13
   have q14:some x14=some _:=h3 14 (by omega) (by omega)
   cases q14
   have q15:some x15=some _:=h3 15 (by omega) (by omega)
   cases q15
   have q16:some x16=some _:=h3 16 (by omega) (by omega)
   cases q16
   have q17:some x17=some _:=h3 17 (by omega) (by omega)
   cases q17
   have q18:some x18=some _:=h3 18 (by omega) (by omega)
   cases q18
   have q19:some x19=some _:=h3 19 (by omega) (by omega)
   cases q19
   have q20:some x20=some _:=h3 20 (by omega) (by omega)
   cases q20
   have q21:some x21=some _:=h3 21 (by omega) (by omega)
   cases q21
   have q22:some x22=some _:=h3 22 (by omega) (by omega)
   cases q22
   have q23:some x23=some _:=h3 23 (by omega) (by omega)
   cases q23
   have q24:some x24=some _:=h3 24 (by omega) (by omega)
   cases q24
   clear h3
   go_wp2_with fail
   go_meet
   exact⟨o,k,rfl,by omega,zz2,tmF,hM,hK⟩
  ·show cntU (Array.replicate _ false) 11=11
   kernel_rfl
  ·kernel_rfl
  ·intro i h1 h2
   obtain rfl:i=11:=by have:i<12:=h2;omega
   rfl
  ·exact⟨hM4,hkd,fun o e=>by cases e⟩
  ·exact⟨s0.2,s0.1,fun k _ _=>rfl⟩
  ·intro i hi h
   have:(Array.replicate 12 false).getD i true=false:=by unfold Array.getD;rw [dif_pos (by simp;omega)];simp
   exact absurd (this.symm.trans h) (by simp)
 case rest =>
 obtain⟨o5,k5,rfl,ho5,x5,tm5,hM',hk5⟩:=hcut
 obtain⟨w5,hw5⟩:∃ V,V=wc:=⟨_,rfl⟩
 subst hw5
 have hs5:=hk5.size
 have x1:=x1.kn hk5 (by omega)
 have xc:=xc.kn hk5 (by omega)
 have tmC:=tmC.kn hk5 (fun q h=>by show q≠g;omega)
 have hol:=x5.lt
 have hgo:g<o5:=by omega
 have hK5:Kn (Ng g) w2 w5:=hK4.trans hk5
 clear hM hK4 hk5 xi tmI
 have hM:=hM'
 clear hM'
 go_upto_region 6 with fail
 go_cut [6] (fun s wx=>∃ o ra8 rc8 ka8 kc8 sa8 sc8,s=.pointer (some ⟨o,0,none⟩)∧w5.heap.size≤o∧Six wx o (.int .i64 idAll.kind) (.int .i64 idAll.n) (.string idAll.name) (.slice ra8 idAll.r.length rc8) (.slice ka8 idAll.kids.length kc8) (.slice sa8 idAll.sys.length sc8)∧TmIn (fun q=>w5.heap.size≤q) wx idAll (.agg #[.int .i64 idAll.kind,.int .i64 idAll.n,.string idAll.name,.slice ra8 idAll.r.length rc8,.slice ka8 idAll.kids.length kc8,.slice sa8 idAll.sys.length sc8])∧Kn (Ng g) w5 wx)
 case first =>
  have xci:=xc
  have x5i:=x5
  refine wp_region_any (by kernel_rfl) ?_
  obtain⟨wd,hwd⟩:∃ V,V={ w5 with drawn:=w5.drawn+1 }:=⟨_,rfl⟩
  rw [← hwd]
  have hkd:Kn (Ng g) w5 wd:=by rw [hwd];exact (Kn.refl _ _).drew
  generalize hA0:({ tmps:=_,defers:=[] }:Act)=a0
  have s0:a0.tmps.size=52∧a0.defers=[]:=by rw [← hA0];exact⟨rfl,rfl⟩
  have s1:a0.tmps[1]? = some (.pointer (some ⟨g,0,none⟩)):=by rw [← hA0];rfl
  have s3:a0.tmps[3]? = some (.pointer (some ⟨oc,0,none⟩)):=by rw [← hA0];rfl
  have s5:a0.tmps[5]? = some (.pointer (some ⟨o5,0,none⟩)):=by rw [← hA0];rfl
  have hM4:Mk wd g 0:=hM.blw (by rw [hwd];exact (Below.refl _ _).drew:Below w5.heap.size w5 wd)
  have hg4:g<w5.heap.size:=hM.lt
  have gG:∀ {l:Array Bool} {G:Option Nat} {w:World},BaS g 16 w5 l G w→∀ o,G=some o→g≠o:=fun hB o e=>by have:=(hB.2.2.1 o e).1;omega
  refine region_invL (γ:=Option Nat) 18 (fun i v G w=>match i with
   | 0=>v=.pointer (some ⟨g,0,none⟩)
   | 1=>v=.agg #[.int .i64 1,.int .i64 0,.string ⟨#[]⟩,.slice none 0 0,.slice none 0 0,.slice none 0 0]
   | 2=>∃ k,v=.slice (some ⟨k,0,none⟩) 1 1∧KdT (OkZ g 0 G) w (TmIn (OkZ g 0 G) w) [varT 0] v
   | 3=>∃ k,v=.agg #[.int .i64 5,.int .i64 0,.string ⟨#[]⟩,.slice none 0 0,.slice (some ⟨k,0,none⟩) 1 1,.slice none 0 0]∧TmIn (OkZ g 0 G) w (mkT 5 [varT 0]) v
   | 4=>v=.agg #[.int .i64 8,.int .i64 0,.string ⟨#[]⟩,.slice none 0 0,.slice (some ⟨qB,0,none⟩) 2 2,.slice none 0 0]∧TmIn (OkZ g 0 G) w idCen v
   | 5=>v=.agg #[.int .i64 5,.int .i64 0,.string ⟨#[]⟩,.slice none 0 0,.slice (some ⟨k5,0,none⟩) 1 1,.slice none 0 0]∧TmIn (OkZ g 0 G) w idTo v
   | 6=>∃ k,v=.slice (some ⟨k,0,none⟩) 2 2∧KdT (OkZ g 0 G) w (TmIn (OkZ g 0 G) w) [idCen,idTo] v
   | 7=>∃ k,v=.agg #[.int .i64 8,.int .i64 0,.string ⟨#[]⟩,.slice none 0 0,.slice (some ⟨k,0,none⟩) 2 2,.slice none 0 0]∧TmIn (OkZ g 0 G) w (mkT 8 [idCen,idTo]) v
   | 8=>∃ k,v=.slice (some ⟨k,0,none⟩) 1 1∧KdT (OkZ g 0 G) w (TmIn (OkZ g 0 G) w) [(mkT 8 [idCen,idTo])] v
   | 9=>∃ k,v=.agg #[.int .i64 5,.int .i64 0,.string ⟨#[]⟩,.slice none 0 0,.slice (some ⟨k,0,none⟩) 1 1,.slice none 0 0]∧TmIn (OkZ g 0 G) w (mkT 5 [(mkT 8 [idCen,idTo])]) v
   | 10=>∃ k,v=.slice (some ⟨k,0,none⟩) 2 2∧KdT (OkZ g 0 G) w (TmIn (OkZ g 0 G) w) [(mkT 5 [varT 0]),(mkT 5 [(mkT 8 [idCen,idTo])])] v
   | 11=>∃ k,v=.agg #[.int .i64 8,.int .i64 0,.string ⟨#[]⟩,.slice none 0 0,.slice (some ⟨k,0,none⟩) 2 2,.slice none 0 0]∧TmIn (OkZ g 0 G) w idAll v
   | 12=>∃ ra rc ka kc sa sc,v=.tuple #[.agg #[.int .i64 idAll.kind,.int .i64 idAll.n,.string idAll.name,.slice ra idAll.r.length rc,.slice ka idAll.kids.length kc,.slice sa idAll.sys.length sc],.int .i64 0]∧TmIn (OkZ g w5.heap.size G) w idAll (.agg #[.int .i64 idAll.kind,.int .i64 idAll.n,.string idAll.name,.slice ra idAll.r.length rc,.slice ka idAll.kids.length kc,.slice sa idAll.sys.length sc])
   | 13=>∃ ra rc ka kc sa sc,v=.tuple #[.agg #[.int .i64 idAll.kind,.int .i64 idAll.n,.string idAll.name,.slice ra idAll.r.length rc,.slice ka idAll.kids.length kc,.slice sa idAll.sys.length sc],.int .i64 0]∧TmIn (OkZ g w5.heap.size G) w idAll (.agg #[.int .i64 idAll.kind,.int .i64 idAll.n,.string idAll.name,.slice ra idAll.r.length rc,.slice ka idAll.kids.length kc,.slice sa idAll.sys.length sc])
   | 14=>∃ ra rc ka kc sa sc,v=.agg #[.int .i64 idAll.kind,.int .i64 idAll.n,.string idAll.name,.slice ra idAll.r.length rc,.slice ka idAll.kids.length kc,.slice sa idAll.sys.length sc]∧TmIn (OkZ g w5.heap.size G) w idAll v
   | 15=>v=.int .i64 0
   | 16=>∃ o,v=.pointer (some ⟨o,0,none⟩)∧G=some o∧∃ u0 u1 u2 u3 u4 u5,Six w o u0 u1 u2 u3 u4 u5
   | 17=>∃ o,G=some o∧PS g w5.heap.size idAll G w o
   | _=>True) (fun a=>a.defers=[]∧a.tmps.size=52∧∀ k,k<35→k≠6→a.tmps[k]? = a0.tmps[k]?) (BaS g 16 w5) (ChS g w5.heap.size idAll)
   ?_ ?_ ?_ ?_ ?_ ?_ 18 _ a0 none wd ?_ ?_ ?_ ?_ ?_ ?_
  ·kernel_rfl
  ·rintro a ⟨h1,h2,h3⟩ i o d hi ho hd
   match i,hi with
   | 0,_=>cases ho;cases hd;rw [h2];decide
   | 1,_=>cases ho;cases hd;rw [h2];decide
   | 2,_=>cases ho;cases hd;rw [h2];decide
   | 3,_=>cases ho;cases hd;rw [h2];decide
   | 4,_=>cases ho;cases hd;rw [h2];decide
   | 5,_=>cases ho;cases hd;rw [h2];decide
   | 6,_=>cases ho;cases hd;rw [h2];decide
   | 7,_=>cases ho;cases hd;rw [h2];decide
   | 8,_=>cases ho;cases hd;rw [h2];decide
   | 9,_=>cases ho;cases hd;rw [h2];decide
   | 10,_=>cases ho;cases hd;rw [h2];decide
   | 11,_=>cases ho;cases hd;rw [h2];decide
   | 12,_=>cases ho;cases hd;rw [h2];decide
   | 13,_=>cases ho;cases hd;rw [h2];decide
   | 14,_=>cases ho;cases hd;rw [h2];decide
   | 15,_=>cases ho;cases hd;rw [h2];decide
   | 16,_=>cases ho;cases hd;rw [h2];decide
   | 17,_=>cases ho;cases hd
   | n+18,hi=>exact absurd hi (by omega)
  ·rintro a i o v hi ho ⟨h1,h2,h3⟩
   match i,hi with
   | 0,_=>cases ho;exact⟨h1,by show (a.tmps.setIfInBounds _ _).size=52;rw [Array.size_setIfInBounds];exact h2,fun k q1 q2=>(slot_put (by omega) v).trans (h3 k q1 q2)⟩
   | 1,_=>cases ho;exact⟨h1,by show (a.tmps.setIfInBounds _ _).size=52;rw [Array.size_setIfInBounds];exact h2,fun k q1 q2=>(slot_put (by omega) v).trans (h3 k q1 q2)⟩
   | 2,_=>cases ho;exact⟨h1,by show (a.tmps.setIfInBounds _ _).size=52;rw [Array.size_setIfInBounds];exact h2,fun k q1 q2=>(slot_put (by omega) v).trans (h3 k q1 q2)⟩
   | 3,_=>cases ho;exact⟨h1,by show (a.tmps.setIfInBounds _ _).size=52;rw [Array.size_setIfInBounds];exact h2,fun k q1 q2=>(slot_put (by omega) v).trans (h3 k q1 q2)⟩
   | 4,_=>cases ho;exact⟨h1,by show (a.tmps.setIfInBounds _ _).size=52;rw [Array.size_setIfInBounds];exact h2,fun k q1 q2=>(slot_put (by omega) v).trans (h3 k q1 q2)⟩
   | 5,_=>cases ho;exact⟨h1,by show (a.tmps.setIfInBounds _ _).size=52;rw [Array.size_setIfInBounds];exact h2,fun k q1 q2=>(slot_put (by omega) v).trans (h3 k q1 q2)⟩
   | 6,_=>cases ho;exact⟨h1,by show (a.tmps.setIfInBounds _ _).size=52;rw [Array.size_setIfInBounds];exact h2,fun k q1 q2=>(slot_put (by omega) v).trans (h3 k q1 q2)⟩
   | 7,_=>cases ho;exact⟨h1,by show (a.tmps.setIfInBounds _ _).size=52;rw [Array.size_setIfInBounds];exact h2,fun k q1 q2=>(slot_put (by omega) v).trans (h3 k q1 q2)⟩
   | 8,_=>cases ho;exact⟨h1,by show (a.tmps.setIfInBounds _ _).size=52;rw [Array.size_setIfInBounds];exact h2,fun k q1 q2=>(slot_put (by omega) v).trans (h3 k q1 q2)⟩
   | 9,_=>cases ho;exact⟨h1,by show (a.tmps.setIfInBounds _ _).size=52;rw [Array.size_setIfInBounds];exact h2,fun k q1 q2=>(slot_put (by omega) v).trans (h3 k q1 q2)⟩
   | 10,_=>cases ho;exact⟨h1,by show (a.tmps.setIfInBounds _ _).size=52;rw [Array.size_setIfInBounds];exact h2,fun k q1 q2=>(slot_put (by omega) v).trans (h3 k q1 q2)⟩
   | 11,_=>cases ho;exact⟨h1,by show (a.tmps.setIfInBounds _ _).size=52;rw [Array.size_setIfInBounds];exact h2,fun k q1 q2=>(slot_put (by omega) v).trans (h3 k q1 q2)⟩
   | 12,_=>cases ho;exact⟨h1,by show (a.tmps.setIfInBounds _ _).size=52;rw [Array.size_setIfInBounds];exact h2,fun k q1 q2=>(slot_put (by omega) v).trans (h3 k q1 q2)⟩
   | 13,_=>cases ho;exact⟨h1,by show (a.tmps.setIfInBounds _ _).size=52;rw [Array.size_setIfInBounds];exact h2,fun k q1 q2=>(slot_put (by omega) v).trans (h3 k q1 q2)⟩
   | 14,_=>cases ho;exact⟨h1,by show (a.tmps.setIfInBounds _ _).size=52;rw [Array.size_setIfInBounds];exact h2,fun k q1 q2=>(slot_put (by omega) v).trans (h3 k q1 q2)⟩
   | 15,_=>cases ho;exact⟨h1,by show (a.tmps.setIfInBounds _ _).size=52;rw [Array.size_setIfInBounds];exact h2,fun k q1 q2=>(slot_put (by omega) v).trans (h3 k q1 q2)⟩
   | 16,_=>cases ho;exact⟨h1,by show (a.tmps.setIfInBounds _ _).size=52;rw [Array.size_setIfInBounds];exact h2,fun k q1 q2=>(slot_put (by omega) v).trans (h3 k q1 q2)⟩
   | 17,_=>cases ho;exact⟨h1,h2,h3⟩
   | n+18,hi=>exact absurd hi (by omega)
  ·intro i v G w G' w' c h
   match i with
   | 0=>exact h
   | 1=>exact h
   | 2=>obtain⟨k,e,h⟩:=h;exact⟨k,e,kd_ss h c⟩
   | 3=>obtain⟨k,e,h⟩:=h;exact⟨k,e,tm_ss h c⟩
   | 4=>exact⟨h.1,tm_ss h.2 c⟩
   | 5=>exact⟨h.1,tm_ss h.2 c⟩
   | 6=>obtain⟨k,e,h⟩:=h;exact⟨k,e,kd_ss h c⟩
   | 7=>obtain⟨k,e,h⟩:=h;exact⟨k,e,tm_ss h c⟩
   | 8=>obtain⟨k,e,h⟩:=h;exact⟨k,e,kd_ss h c⟩
   | 9=>obtain⟨k,e,h⟩:=h;exact⟨k,e,tm_ss h c⟩
   | 10=>obtain⟨k,e,h⟩:=h;exact⟨k,e,kd_ss h c⟩
   | 11=>obtain⟨k,e,h⟩:=h;exact⟨k,e,tm_ss h c⟩
   | 12=>obtain⟨ra,rc,ka,kc,sa,sc,e,h⟩:=h;exact⟨ra,rc,ka,kc,sa,sc,e,tm_ss h c⟩
   | 13=>obtain⟨ra,rc,ka,kc,sa,sc,e,h⟩:=h;exact⟨ra,rc,ka,kc,sa,sc,e,tm_ss h c⟩
   | 14=>obtain⟨ra,rc,ka,kc,sa,sc,e,h⟩:=h;exact⟨ra,rc,ka,kc,sa,sc,e,tm_ss h c⟩
   | 15=>exact h
   | 16=>obtain⟨o,e,hG,h⟩:=h;exact⟨o,e,(by rcases c.2.1 with q | q;rw [q];exact hG;rw [q.1] at hG;cases hG),six_ss h c hG⟩
   | 17=>obtain⟨o,hG,h⟩:=h;exact⟨o,(by rcases c.2.1 with q | q;rw [q];exact hG;rw [q.1] at hG;cases hG),ps_ss h c hG⟩
   | _+18=>trivial
  ·intro i hi o ho l a G w hil hfl hB ⟨h1,h2,h3⟩ hF
   have sl:∀ k,k<35→k≠6→a.tmps[k]? = a0.tmps[k]?:=h3
   have gd:∀ k (hk:k<a.tmps.size),a.tmps.getD k undef=a.tmps[k]:=fun k hk=>by unfold Array.getD;rw [dif_pos hk];rfl
   have sz:=hB.2.1.size
   match i,hi with
   | 0,_ =>
    cases ho
    clear hF
    obtain⟨_,e1⟩:=Array.getElem?_eq_some_iff.1 ((sl 1 (by omega) (by omega)).trans s1)
    go_simp
    exact⟨_,rfl,_,bas_kn hB (Kn.refl _ _) (fun e=>hB.1 (getD_true e)),chs_kn (Kn.refl _ _) (gG hB),rfl⟩
   | 1,_ =>
    cases ho
    clear hF
    have cc:=variable_any 0 w
    go_simp
    refine cc.mono ?_
    rintro e w' ⟨rfl,hb⟩
    exact⟨_,rfl,_,bas_kn hB (Kn.of_below hb) (mk_ls hB.1 hb),chs_kn (Kn.of_below hb) (gG hB),rfl⟩
   | 2,_ =>
    cases ho
    have f1:(fun v=>v=.agg #[.int .i64 1,.int .i64 0,.string ⟨#[]⟩,.slice none 0 0,.slice none 0 0,.slice none 0 0]) (a.tmps.getD 37 undef):=hF ⟨1,.data⟩ (by simp) rfl
    rw [gd 37 (by omega)] at f1
    clear hF
    go_simp
    generalize hW:w.alloc _=W
    have bW:Below w.heap.size w W:=by rw [← hW];exact belowA _ _
    have zW:W.heap[w.heap.size]? = some (.cells #[.int .i64 1,.int .i64 0,.string ⟨#[]⟩,.slice none 0 0,.slice none 0 0,.slice none 0 0] 26 (0,0)):=by rw [← hW];exact heapNew _ _
    have cW:ChS g w5.heap.size idAll G w G W:=chs_kn (Kn.of_below bW) (gG hB)
    exact⟨_,rfl,_,bas_kn hB (Kn.of_below bW) (mk_ls hB.1 bW),cW,⟨_,rfl⟩,kd_one zW (okz_ge hB hg4 (Nat.zero_le _) (Nat.le_refl _)) (var_in _ 0 ⟨by decide,by decide⟩ _)⟩
   | 3,_ =>
    cases ho
    have f2:(fun v=>∃ k,v=.slice (some ⟨k,0,none⟩) 1 1∧KdT (OkZ g 0 G) w (TmIn (OkZ g 0 G) w) [varT 0] v) (a.tmps.getD 38 undef):=hF ⟨2,.data⟩ (by simp) rfl
    rw [gd 38 (by omega)] at f2
    obtain⟨k,e2,f2⟩:=f2
    rw [e2] at f2
    clear hF
    have cc:=node_any 5 (some ⟨k,0,none⟩) 1 1 w
    go_simp
    refine cc.mono ?_
    rintro e w' ⟨rfl,hb⟩
    have tm:=TmIn.mk 5 0 ⟨#[]⟩ [] _ [] _ _ _ ⟨by decide,by decide⟩ ⟨by decide,by decide⟩ (cl_nil _ _) f2 (sy_nil _ _ _)
    have c:ChS g w5.heap.size idAll G w G w':=chs_kn (Kn.of_below hb) (gG hB)
    exact⟨_,rfl,_,bas_kn hB (Kn.of_below hb) (mk_ls hB.1 hb),c,⟨_,rfl⟩,tm_ss tm c⟩
   | 4,_ =>
    cases ho
    clear hF
    obtain⟨_,e1⟩:=Array.getElem?_eq_some_iff.1 ((sl 3 (by omega) (by omega)).trans s3)
    have xq:=xci.kn hB.2.1 (by omega)
    have tq:TmIn (OkZ g 0 G) w idCen _:=(((tmC.lt' (ok':=fun q=>g<q∧q<w5.heap.size) fun q h1 h2=>⟨h1,h2⟩).kn hB.2.1 (fun q h=>by show q≠g;omega)).up fun q h=>⟨Nat.zero_le _,h.1,fun e=>by have:=hB.2.2.1 q e;omega⟩)
    obtain⟨o0,o1,o2,o3,o4,o5',ff⟩:=xq.cells
    have g0:=ff 0
    have g1:=ff 1
    have g2:=ff 2
    have g3:=ff 3
    have g4:=ff 4
    have g5:=ff 5
    go_simp
    exact⟨_,rfl,_,bas_kn hB (Kn.refl _ _) (fun e=>hB.1 (getD_true e)),chs_kn (Kn.refl _ _) (gG hB),rfl,tq⟩
   | 5,_ =>
    cases ho
    clear hF
    obtain⟨_,e1⟩:=Array.getElem?_eq_some_iff.1 ((sl 5 (by omega) (by omega)).trans s5)
    have xq:=x5i.kn hB.2.1 (by omega)
    have tq:TmIn (OkZ g 0 G) w idTo _:=(((tm5.lt' (ok':=fun q=>g<q∧q<w5.heap.size) fun q h1 h2=>⟨h1,h2⟩).kn hB.2.1 (fun q h=>by show q≠g;omega)).up fun q h=>⟨Nat.zero_le _,h.1,fun e=>by have:=hB.2.2.1 q e;omega⟩)
    obtain⟨o0,o1,o2,o3,o4,o5',ff⟩:=xq.cells
    have g0:=ff 0
    have g1:=ff 1
    have g2:=ff 2
    have g3:=ff 3
    have g4:=ff 4
    have g5:=ff 5
    go_simp
    exact⟨_,rfl,_,bas_kn hB (Kn.refl _ _) (fun e=>hB.1 (getD_true e)),chs_kn (Kn.refl _ _) (gG hB),rfl,tq⟩
   | 6,_ =>
    cases ho
    have f4:(fun v=>v=.agg #[.int .i64 8,.int .i64 0,.string ⟨#[]⟩,.slice none 0 0,.slice (some ⟨qB,0,none⟩) 2 2,.slice none 0 0]∧TmIn (OkZ g 0 G) w idCen v) (a.tmps.getD 40 undef):=hF ⟨4,.data⟩ (by simp) rfl
    rw [gd 40 (by omega)] at f4
    obtain⟨e4,f4⟩:=f4
    rw [e4] at f4
    have f5:(fun v=>v=.agg #[.int .i64 5,.int .i64 0,.string ⟨#[]⟩,.slice none 0 0,.slice (some ⟨k5,0,none⟩) 1 1,.slice none 0 0]∧TmIn (OkZ g 0 G) w idTo v) (a.tmps.getD 41 undef):=hF ⟨5,.data⟩ (by simp) rfl
    rw [gd 41 (by omega)] at f5
    obtain⟨e5,f5⟩:=f5
    rw [e5] at f5
    clear hF
    go_simp
    generalize hW:w.alloc _=W
    have bW:Below w.heap.size w W:=by rw [← hW];exact belowA _ _
    have zW:W.heap[w.heap.size]? = some (.cells #[.int .i64 8,.int .i64 0,.string ⟨#[]⟩,.slice none 0 0,.slice (some ⟨qB,0,none⟩) 2 2,.slice none 0 0,.int .i64 5,.int .i64 0,.string ⟨#[]⟩,.slice none 0 0,.slice (some ⟨k5,0,none⟩) 1 1,.slice none 0 0] 26 (0,0)):=by rw [← hW];exact heapNew _ _
    have cW:ChS g w5.heap.size idAll G w G W:=chs_kn (Kn.of_below bW) (gG hB)
    exact⟨_,rfl,_,bas_kn hB (Kn.of_below bW) (mk_ls hB.1 bW),cW,⟨_,rfl⟩,kd_two zW (okz_ge hB hg4 (Nat.zero_le _) (Nat.le_refl _)) (tm_ss f4 cW) (tm_ss f5 cW)⟩
   | 7,_ =>
    cases ho
    have f6:(fun v=>∃ k,v=.slice (some ⟨k,0,none⟩) 2 2∧KdT (OkZ g 0 G) w (TmIn (OkZ g 0 G) w) [idCen,idTo] v) (a.tmps.getD 42 undef):=hF ⟨6,.data⟩ (by simp) rfl
    rw [gd 42 (by omega)] at f6
    obtain⟨k,e6,f6⟩:=f6
    rw [e6] at f6
    clear hF
    have cc:=node_any 8 (some ⟨k,0,none⟩) 2 2 w
    go_simp
    refine cc.mono ?_
    rintro e w' ⟨rfl,hb⟩
    have tm:=TmIn.mk 8 0 ⟨#[]⟩ [] _ [] _ _ _ ⟨by decide,by decide⟩ ⟨by decide,by decide⟩ (cl_nil _ _) f6 (sy_nil _ _ _)
    have c:ChS g w5.heap.size idAll G w G w':=chs_kn (Kn.of_below hb) (gG hB)
    exact⟨_,rfl,_,bas_kn hB (Kn.of_below hb) (mk_ls hB.1 hb),c,⟨_,rfl⟩,tm_ss tm c⟩
   | 8,_ =>
    cases ho
    have f7:(fun v=>∃ k,v=.agg #[.int .i64 8,.int .i64 0,.string ⟨#[]⟩,.slice none 0 0,.slice (some ⟨k,0,none⟩) 2 2,.slice none 0 0]∧TmIn (OkZ g 0 G) w (mkT 8 [idCen,idTo]) v) (a.tmps.getD 43 undef):=hF ⟨7,.data⟩ (by simp) rfl
    rw [gd 43 (by omega)] at f7
    obtain⟨k,e7,f7⟩:=f7
    rw [e7] at f7
    clear hF
    go_simp
    generalize hW:w.alloc _=W
    have bW:Below w.heap.size w W:=by rw [← hW];exact belowA _ _
    have zW:W.heap[w.heap.size]? = some (.cells #[.int .i64 8,.int .i64 0,.string ⟨#[]⟩,.slice none 0 0,.slice (some ⟨k,0,none⟩) 2 2,.slice none 0 0] 26 (0,0)):=by rw [← hW];exact heapNew _ _
    have cW:ChS g w5.heap.size idAll G w G W:=chs_kn (Kn.of_below bW) (gG hB)
    exact⟨_,rfl,_,bas_kn hB (Kn.of_below bW) (mk_ls hB.1 bW),cW,⟨_,rfl⟩,kd_one zW (okz_ge hB hg4 (Nat.zero_le _) (Nat.le_refl _)) (tm_ss f7 cW)⟩
   | 9,_ =>
    cases ho
    have f8:(fun v=>∃ k,v=.slice (some ⟨k,0,none⟩) 1 1∧KdT (OkZ g 0 G) w (TmIn (OkZ g 0 G) w) [(mkT 8 [idCen,idTo])] v) (a.tmps.getD 44 undef):=hF ⟨8,.data⟩ (by simp) rfl
    rw [gd 44 (by omega)] at f8
    obtain⟨k,e8,f8⟩:=f8
    rw [e8] at f8
    clear hF
    have cc:=node_any 5 (some ⟨k,0,none⟩) 1 1 w
    go_simp
    refine cc.mono ?_
    rintro e w' ⟨rfl,hb⟩
    have tm:=TmIn.mk 5 0 ⟨#[]⟩ [] _ [] _ _ _ ⟨by decide,by decide⟩ ⟨by decide,by decide⟩ (cl_nil _ _) f8 (sy_nil _ _ _)
    have c:ChS g w5.heap.size idAll G w G w':=chs_kn (Kn.of_below hb) (gG hB)
    exact⟨_,rfl,_,bas_kn hB (Kn.of_below hb) (mk_ls hB.1 hb),c,⟨_,rfl⟩,tm_ss tm c⟩
   | 10,_ =>
    cases ho
    have f3:(fun v=>∃ k,v=.agg #[.int .i64 5,.int .i64 0,.string ⟨#[]⟩,.slice none 0 0,.slice (some ⟨k,0,none⟩) 1 1,.slice none 0 0]∧TmIn (OkZ g 0 G) w (mkT 5 [varT 0]) v) (a.tmps.getD 39 undef):=hF ⟨3,.data⟩ (by simp) rfl
    rw [gd 39 (by omega)] at f3
    obtain⟨k,e3,f3⟩:=f3
    rw [e3] at f3
    have f9:(fun v=>∃ k,v=.agg #[.int .i64 5,.int .i64 0,.string ⟨#[]⟩,.slice none 0 0,.slice (some ⟨k,0,none⟩) 1 1,.slice none 0 0]∧TmIn (OkZ g 0 G) w (mkT 5 [(mkT 8 [idCen,idTo])]) v) (a.tmps.getD 45 undef):=hF ⟨9,.data⟩ (by simp) rfl
    rw [gd 45 (by omega)] at f9
    obtain⟨k2,e9,f9⟩:=f9
    rw [e9] at f9
    clear hF
    go_simp
    generalize hW:w.alloc _=W
    have bW:Below w.heap.size w W:=by rw [← hW];exact belowA _ _
    have zW:W.heap[w.heap.size]? = some (.cells #[.int .i64 5,.int .i64 0,.string ⟨#[]⟩,.slice none 0 0,.slice (some ⟨k,0,none⟩) 1 1,.slice none 0 0,.int .i64 5,.int .i64 0,.string ⟨#[]⟩,.slice none 0 0,.slice (some ⟨k2,0,none⟩) 1 1,.slice none 0 0] 26 (0,0)):=by rw [← hW];exact heapNew _ _
    have cW:ChS g w5.heap.size idAll G w G W:=chs_kn (Kn.of_below bW) (gG hB)
    exact⟨_,rfl,_,bas_kn hB (Kn.of_below bW) (mk_ls hB.1 bW),cW,⟨_,rfl⟩,kd_two zW (okz_ge hB hg4 (Nat.zero_le _) (Nat.le_refl _)) (tm_ss f3 cW) (tm_ss f9 cW)⟩
   | 11,_ =>
    cases ho
    have f10:(fun v=>∃ k,v=.slice (some ⟨k,0,none⟩) 2 2∧KdT (OkZ g 0 G) w (TmIn (OkZ g 0 G) w) [(mkT 5 [varT 0]),(mkT 5 [(mkT 8 [idCen,idTo])])] v) (a.tmps.getD 46 undef):=hF ⟨10,.data⟩ (by simp) rfl
    rw [gd 46 (by omega)] at f10
    obtain⟨k,e10,f10⟩:=f10
    rw [e10] at f10
    clear hF
    have cc:=node_any 8 (some ⟨k,0,none⟩) 2 2 w
    go_simp
    refine cc.mono ?_
    rintro e w' ⟨rfl,hb⟩
    have tm:=TmIn.mk 8 0 ⟨#[]⟩ [] _ [] _ _ _ ⟨by decide,by decide⟩ ⟨by decide,by decide⟩ (cl_nil _ _) f10 (sy_nil _ _ _)
    have c:ChS g w5.heap.size idAll G w G w':=chs_kn (Kn.of_below hb) (gG hB)
    exact⟨_,rfl,_,bas_kn hB (Kn.of_below hb) (mk_ls hB.1 hb),c,⟨_,rfl⟩,tm_ss tm c⟩
   | 12,_ =>
    cases ho
    have f0:(fun v=>v=.pointer (some ⟨g,0,none⟩)) (a.tmps.getD 36 undef):=hF ⟨0,.data⟩ (by simp) rfl
    rw [gd 36 (by omega)] at f0
    have f11:(fun v=>∃ k,v=.agg #[.int .i64 8,.int .i64 0,.string ⟨#[]⟩,.slice none 0 0,.slice (some ⟨k,0,none⟩) 2 2,.slice none 0 0]∧TmIn (OkZ g 0 G) w idAll v) (a.tmps.getD 47 undef):=hF ⟨11,.data⟩ (by simp) rfl
    rw [gd 47 (by omega)] at f11
    obtain⟨k,e11,f11⟩:=f11
    rw [e11] at f11
    clear hF
    have cc:=mdone_any g 0 idAll _ w (hB.1 hfl) f11.tt (f11.up fun r q=>by have q1:=q.2.1;show r≠g;omega) id_blk
    rw [id_done.1,id_done.2] at cc
    go_simp
    refine cc.mono ?_
    rintro e w' ⟨vq,rfl,hv,hk⟩
    obtain⟨ra,rc,ka,kc,sa,sc,rfl,ht⟩:=hv.form
    have tq:=ht.value.up (ok':=OkZ g w5.heap.size G) (fun q h=>okz_ge hB hg4 (Nat.le_refl _) h.2.1)
    exact⟨_,rfl,_,bas_kn hB hk (fun e=>by rw [getD_set hil,if_pos rfl] at e;cases e),chs_kn hk (gG hB),⟨_,_,_,_,_,_,rfl,tq⟩⟩
   | 13,_ =>
    cases ho
    have f12:(fun v=>∃ ra rc ka kc sa sc,v=.tuple #[.agg #[.int .i64 idAll.kind,.int .i64 idAll.n,.string idAll.name,.slice ra idAll.r.length rc,.slice ka idAll.kids.length kc,.slice sa idAll.sys.length sc],.int .i64 0]∧TmIn (OkZ g w5.heap.size G) w idAll (.agg #[.int .i64 idAll.kind,.int .i64 idAll.n,.string idAll.name,.slice ra idAll.r.length rc,.slice ka idAll.kids.length kc,.slice sa idAll.sys.length sc])) (a.tmps.getD 48 undef):=hF ⟨12,.data⟩ (by simp) rfl
    rw [gd 48 (by omega)] at f12
    obtain⟨ra,rc,ka,kc,sa,sc,e12,f12⟩:=f12
    clear hF
    go_simp
    exact⟨_,rfl,_,bas_kn hB (Kn.refl _ _) (fun e=>hB.1 (getD_true e)),chs_kn (Kn.refl _ _) (gG hB),⟨_,_,_,_,_,_,rfl,f12⟩⟩
   | 14,_ =>
    cases ho
    have f13:(fun v=>∃ ra rc ka kc sa sc,v=.tuple #[.agg #[.int .i64 idAll.kind,.int .i64 idAll.n,.string idAll.name,.slice ra idAll.r.length rc,.slice ka idAll.kids.length kc,.slice sa idAll.sys.length sc],.int .i64 0]∧TmIn (OkZ g w5.heap.size G) w idAll (.agg #[.int .i64 idAll.kind,.int .i64 idAll.n,.string idAll.name,.slice ra idAll.r.length rc,.slice ka idAll.kids.length kc,.slice sa idAll.sys.length sc])) (a.tmps.getD 35 undef):=hF ⟨13,.data⟩ (by simp) rfl
    rw [gd 35 (by omega)] at f13
    obtain⟨ra,rc,ka,kc,sa,sc,e13,f13⟩:=f13
    clear hF
    go_simp
    exact⟨_,rfl,_,bas_kn hB (Kn.refl _ _) (fun e=>hB.1 (getD_true e)),chs_kn (Kn.refl _ _) (gG hB),⟨_,_,_,_,_,_,rfl⟩,f13⟩
   | 15,_ =>
    cases ho
    have f13:(fun v=>∃ ra rc ka kc sa sc,v=.tuple #[.agg #[.int .i64 idAll.kind,.int .i64 idAll.n,.string idAll.name,.slice ra idAll.r.length rc,.slice ka idAll.kids.length kc,.slice sa idAll.sys.length sc],.int .i64 0]∧TmIn (OkZ g w5.heap.size G) w idAll (.agg #[.int .i64 idAll.kind,.int .i64 idAll.n,.string idAll.name,.slice ra idAll.r.length rc,.slice ka idAll.kids.length kc,.slice sa idAll.sys.length sc])) (a.tmps.getD 35 undef):=hF ⟨13,.data⟩ (by simp) rfl
    rw [gd 35 (by omega)] at f13
    obtain⟨ra,rc,ka,kc,sa,sc,e13,f13⟩:=f13
    clear hF
    go_simp
    exact⟨_,rfl,_,bas_kn hB (Kn.refl _ _) (fun e=>hB.1 (getD_true e)),chs_kn (Kn.refl _ _) (gG hB),rfl⟩
   | 16,_ =>
    cases ho
    clear hF
    obtain rfl:G=none:=hB.2.2.2 hfl
    go_simp
    generalize hW:w.alloc _=W
    have bW:Below w.heap.size w W:=by rw [← hW];exact belowA _ _
    have zW:Six W w.heap.size (.int .i64 0) (.int .i64 0) (.string ⟨#[]⟩) (.slice none 0 0) (.slice none 0 0) (.slice none 0 0):=⟨by rw [← hW];exact heapNew _ _⟩
    have sW:W.heap.size=w.heap.size+1:=by rw [← hW];simp
    refine⟨_,rfl,some w.heap.size,⟨mk_ls hB.1 bW,hB.2.1.trans (Kn.of_below bW),fun o e=>by injection e with e;omega,fun e=>?_⟩,⟨Kn.of_below bW,.inr ⟨rfl,rfl⟩,fun o e=>by cases e⟩,?_⟩
    ·rw [getD_set hil,if_pos rfl] at e;cases e
    ·exact⟨_,rfl,rfl,_,_,_,_,_,_,zW⟩
   | 17,_ =>
    cases ho
    have f16:(fun v=>∃ o,v=.pointer (some ⟨o,0,none⟩)∧G=some o∧∃ u0 u1 u2 u3 u4 u5,Six w o u0 u1 u2 u3 u4 u5) (a.tmps.getD 6 undef):=hF ⟨16,.data⟩ (by simp) rfl
    rw [gd 6 (by omega)] at f16
    have f14:(fun v=>∃ ra rc ka kc sa sc,v=.agg #[.int .i64 idAll.kind,.int .i64 idAll.n,.string idAll.name,.slice ra idAll.r.length rc,.slice ka idAll.kids.length kc,.slice sa idAll.sys.length sc]∧TmIn (OkZ g w5.heap.size G) w idAll v) (a.tmps.getD 49 undef):=hF ⟨14,.data⟩ (by simp) rfl
    rw [gd 49 (by omega)] at f14
    obtain⟨ra,rc,ka,kc,sa,sc,e14,f14⟩:=f14
    clear hF
    obtain⟨o,e16,hGo,u0,u1,u2,u3,u4,u5,xq⟩:=f16
    rw [e14] at f14
    have hoo:=hB.2.2.1 o hGo
    have zz2:=xq.set6 (.int .i64 idAll.kind) (.int .i64 idAll.n) (.string idAll.name) (.slice ra idAll.r.length rc) (.slice ka idAll.kids.length kc) (.slice sa idAll.sys.length sc)
    obtain⟨o0,o1,o2,o3,o4,o5',ff⟩:=xq.cells
    have g0:=ff 0
    have g1:=ff 1
    have g2:=ff 2
    have g3:=ff 3
    have g4:=ff 4
    have g5:=ff 5
    obtain⟨W,hwz⟩:∃ W,W=((((((w.setCell ⟨o,0,none⟩ (.int .i64 idAll.kind)).setCell ⟨o,1,none⟩ (.int .i64 idAll.n)).setCell ⟨o,2,none⟩ (.string idAll.name)).setCell ⟨o,3,none⟩ (.slice ra idAll.r.length rc)).setCell ⟨o,4,none⟩ (.slice ka idAll.kids.length kc)).setCell ⟨o,5,none⟩ (.slice sa idAll.sys.length sc)):=⟨_,rfl⟩
    rw [← hwz] at zz2
    have kz:Kn (fun q=>q≠o) w W:=by rw [hwz];exact kn_set66 _ _ _ _ _ _ _ _
    have Hwz:Hid (_=_):=hwz
    clear hwz
    have tW:=f14.kn kz (fun q h=>fun e=>h.2.2 (e ▸ hGo))
    have pW:PS g w5.heap.size idAll G W o:=⟨_,_,_,_,_,_,zz2,tW⟩
    have key:BaS g 16 w5 (l.setIfInBounds 17 true) G W∧ChS g w5.heap.size idAll G w G W∧∃ o,G=some o∧PS g w5.heap.size idAll G W o:=by
     refine⟨⟨fun e=>(hB.1 (getD_true e)).kn kz (by omega),hB.2.1.new kz (by omega),fun o' e=>⟨(hB.2.2.1 o' e).1,by have:=(hB.2.2.1 o' e).2;have:=kz.size;omega⟩,fun e=>hB.2.2.2 (getD_true e)⟩,⟨kz.sub fun q h=>fun e=>h.2 (e ▸ hGo),.inl rfl,fun o' e _=>.inr ?_⟩,⟨o,hGo,pW⟩⟩
     rw [hGo] at e
     injection e with e
     rw [← e]
     exact pW
    rw [hGo] at key
    go_simp
    rw [← Hwz.out]
    exact⟨_,key⟩
   | n+18,hi=>exact absurd hi (by omega)
  ·intro l a G w hu hB ⟨h1,h2,h3⟩ hF
   have gd:∀ k (hk:k<a.tmps.size),a.tmps.getD k undef=a.tmps[k]:=fun k hk=>by unfold Array.getD;rw [dif_pos hk];rfl
   have f15:(fun v=>v=.int .i64 0) (a.tmps.getD 50 undef):=hF 15 (by omega)
   rw [gd 50 (by omega)] at f15
   have f16:(fun v=>∃ o,v=.pointer (some ⟨o,0,none⟩)∧G=some o∧∃ u0 u1 u2 u3 u4 u5,Six w o u0 u1 u2 u3 u4 u5) (a.tmps.getD 6 undef):=hF 16 (by omega)
   rw [gd 6 (by omega)] at f16
   have f17:∃ o,G=some o∧PS g w5.heap.size idAll G w o:=hF 17 (by omega)
   clear hF
   obtain⟨o,e16,hGo,_⟩:=f16
   obtain⟨o',hGo',ra,rc,ka,kc,sa,sc,x17,t17⟩:=f17
   obtain rfl:o'=o:=by rw [hGo] at hGo'; injection hGo' with e;exact e.symm
   have hoo:=hB.2.2.1 o' hGo
   have hK:=hB.2.1
   have e16':a.tmps[6]? = some (.pointer (some ⟨o',0,none⟩)):=by rw [Array.getElem?_eq_getElem (by omega),e16]
   refine tail_one (by kernel_rfl) rfl rfl hu ?_
   go_simp
   have tF:=t17.up (ok':=fun q=>w5.heap.size≤q) (fun q h=>h.1)
   clear e16 f15 gd hu hB t17
   subst hA0
   obtain⟨⟨l'⟩,df⟩:=a
   cases h1
   have hl:l'.length=52:=h2
   clear h2
   obtain⟨x0,l',rfl⟩:=List.exists_cons_of_length_pos (l:=l') (by omega)
   simp only [List.length_cons] at hl
   obtain⟨x1,l',rfl⟩:=List.exists_cons_of_length_pos (l:=l') (by omega)
   simp only [List.length_cons] at hl
   obtain⟨x2,l',rfl⟩:=List.exists_cons_of_length_pos (l:=l') (by omega)
   simp only [List.length_cons] at hl
   obtain⟨x3,l',rfl⟩:=List.exists_cons_of_length_pos (l:=l') (by omega)
   simp only [List.length_cons] at hl
   obtain⟨x4,l',rfl⟩:=List.exists_cons_of_length_pos (l:=l') (by omega)
   simp only [List.length_cons] at hl
   obtain⟨x5,l',rfl⟩:=List.exists_cons_of_length_pos (l:=l') (by omega)
   simp only [List.length_cons] at hl
   obtain⟨x6,l',rfl⟩:=List.exists_cons_of_length_pos (l:=l') (by omega)
   simp only [List.length_cons] at hl
   obtain⟨x7,l',rfl⟩:=List.exists_cons_of_length_pos (l:=l') (by omega)
   simp only [List.length_cons] at hl
   obtain⟨x8,l',rfl⟩:=List.exists_cons_of_length_pos (l:=l') (by omega)
   simp only [List.length_cons] at hl
   obtain⟨x9,l',rfl⟩:=List.exists_cons_of_length_pos (l:=l') (by omega)
   simp only [List.length_cons] at hl
   obtain⟨x10,l',rfl⟩:=List.exists_cons_of_length_pos (l:=l') (by omega)
   simp only [List.length_cons] at hl
   obtain⟨x11,l',rfl⟩:=List.exists_cons_of_length_pos (l:=l') (by omega)
   simp only [List.length_cons] at hl
   obtain⟨x12,l',rfl⟩:=List.exists_cons_of_length_pos (l:=l') (by omega)
   simp only [List.length_cons] at hl
   obtain⟨x13,l',rfl⟩:=List.exists_cons_of_length_pos (l:=l') (by omega)
   simp only [List.length_cons] at hl
   obtain⟨x14,l',rfl⟩:=List.exists_cons_of_length_pos (l:=l') (by omega)
   simp only [List.length_cons] at hl
   obtain⟨x15,l',rfl⟩:=List.exists_cons_of_length_pos (l:=l') (by omega)
   simp only [List.length_cons] at hl
   obtain⟨x16,l',rfl⟩:=List.exists_cons_of_length_pos (l:=l') (by omega)
   simp only [List.length_cons] at hl
   obtain⟨x17,l',rfl⟩:=List.exists_cons_of_length_pos (l:=l') (by omega)
   simp only [List.length_cons] at hl
   obtain⟨x18,l',rfl⟩:=List.exists_cons_of_length_pos (l:=l') (by omega)
   simp only [List.length_cons] at hl
   obtain⟨x19,l',rfl⟩:=List.exists_cons_of_length_pos (l:=l') (by omega)
   simp only [List.length_cons] at hl
   obtain⟨x20,l',rfl⟩:=List.exists_cons_of_length_pos (l:=l') (by omega)
   simp only [List.length_cons] at hl
   obtain⟨x21,l',rfl⟩:=List.exists_cons_of_length_pos (l:=l') (by omega)
   simp only [List.length_cons] at hl
   obtain⟨x22,l',rfl⟩:=List.exists_cons_of_length_pos (l:=l') (by omega)
   simp only [List.length_cons] at hl
   obtain⟨x23,l',rfl⟩:=List.exists_cons_of_length_pos (l:=l') (by omega)
   simp only [List.length_cons] at hl
   obtain⟨x24,l',rfl⟩:=List.exists_cons_of_length_pos (l:=l') (by omega)
   simp only [List.length_cons] at hl
   obtain⟨x25,l',rfl⟩:=List.exists_cons_of_length_pos (l:=l') (by omega)
   simp only [List.length_cons] at hl
   obtain⟨x26,l',rfl⟩:=List.exists_cons_of_length_pos (l:=l') (by omega)
   simp only [List.length_cons] at hl
   obtain⟨x27,l',rfl⟩:=List.exists_cons_of_length_pos (l:=l') (by omega)
   simp only [List.length_cons] at hl
   obtain⟨x28,l',rfl⟩:=List.exists_cons_of_length_pos (l:=l') (by omega)
   simp only [List.length_cons] at hl
   obtain⟨x29,l',rfl⟩:=List.exists_cons_of_length_pos (l:=l') (by omega)
   simp only [List.length_cons] at hl
   obtain⟨x30,l',rfl⟩:=List.exists_cons_of_length_pos (l:=l') (by omega)
   simp only [List.length_cons] at hl
   obtain⟨x31,l',rfl⟩:=List.exists_cons_of_length_pos (l:=l') (by omega)
   simp only [List.length_cons] at hl
   obtain⟨x32,l',rfl⟩:=List.exists_cons_of_length_pos (l:=l') (by omega)
   simp only [List.length_cons] at hl
   obtain⟨x33,l',rfl⟩:=List.exists_cons_of_length_pos (l:=l') (by omega)
   simp only [List.length_cons] at hl
   obtain⟨x34,l',rfl⟩:=List.exists_cons_of_length_pos (l:=l') (by omega)
   simp only [List.length_cons] at hl
   obtain⟨x35,l',rfl⟩:=List.exists_cons_of_length_pos (l:=l') (by omega)
   simp only [List.length_cons] at hl
   obtain⟨x36,l',rfl⟩:=List.exists_cons_of_length_pos (l:=l') (by omega)
   simp only [List.length_cons] at hl
   obtain⟨x37,l',rfl⟩:=List.exists_cons_of_length_pos (l:=l') (by omega)
   simp only [List.length_cons] at hl
   obtain⟨x38,l',rfl⟩:=List.exists_cons_of_length_pos (l:=l') (by omega)
   simp only [List.length_cons] at hl
   obtain⟨x39,l',rfl⟩:=List.exists_cons_of_length_pos (l:=l') (by omega)
   simp only [List.length_cons] at hl
   obtain⟨x40,l',rfl⟩:=List.exists_cons_of_length_pos (l:=l') (by omega)
   simp only [List.length_cons] at hl
   obtain⟨x41,l',rfl⟩:=List.exists_cons_of_length_pos (l:=l') (by omega)
   simp only [List.length_cons] at hl
   obtain⟨x42,l',rfl⟩:=List.exists_cons_of_length_pos (l:=l') (by omega)
   simp only [List.length_cons] at hl
   obtain⟨x43,l',rfl⟩:=List.exists_cons_of_length_pos (l:=l') (by omega)
   simp only [List.length_cons] at hl
   obtain⟨x44,l',rfl⟩:=List.exists_cons_of_length_pos (l:=l') (by omega)
   simp only [List.length_cons] at hl
   obtain⟨x45,l',rfl⟩:=List.exists_cons_of_length_pos (l:=l') (by omega)
   simp only [List.length_cons] at hl
   obtain⟨x46,l',rfl⟩:=List.exists_cons_of_length_pos (l:=l') (by omega)
   simp only [List.length_cons] at hl
   obtain⟨x47,l',rfl⟩:=List.exists_cons_of_length_pos (l:=l') (by omega)
   simp only [List.length_cons] at hl
   obtain⟨x48,l',rfl⟩:=List.exists_cons_of_length_pos (l:=l') (by omega)
   simp only [List.length_cons] at hl
   obtain⟨x49,l',rfl⟩:=List.exists_cons_of_length_pos (l:=l') (by omega)
   simp only [List.length_cons] at hl
   obtain⟨x50,l',rfl⟩:=List.exists_cons_of_length_pos (l:=l') (by omega)
   simp only [List.length_cons] at hl
   obtain⟨x51,l',rfl⟩:=List.exists_cons_of_length_pos (l:=l') (by omega)
   simp only [List.length_cons] at hl
   obtain rfl:l'=[]:=List.eq_nil_of_length_eq_zero (by omega)
   have q0:some x0=some _:=h3 0 (by omega) (by omega)
   cases q0
   have q1:some x1=some _:=h3 1 (by omega) (by omega)
   cases q1
   have q2:some x2=some _:=h3 2 (by omega) (by omega)
   cases q2
   have q3:some x3=some _:=h3 3 (by omega) (by omega)
   cases q3
   have q4:some x4=some _:=h3 4 (by omega) (by omega)
   cases q4
   have q5:some x5=some _:=h3 5 (by omega) (by omega)
   cases q5
   have q6:some x6=some _:=e16'
   cases q6
   have q7:some x7=some _:=h3 7 (by omega) (by omega)
   cases q7
   have q8:some x8=some _:=h3 8 (by omega) (by omega)
   cases q8
   have q9:some x9=some _:=h3 9 (by omega) (by omega)
   cases q9
   have q10:some x10=some _:=h3 10 (by omega) (by omega)
   cases q10
   have q11:some x11=some _:=h3 11 (by omega) (by omega)
   cases q11
   have q12:some x12=some _:=h3 12 (by omega) (by omega)
   cases q12
   have q13:some x13=some _:=h3 13 (by omega) (by omega)
   cases q13
   have q14:some x14=some _:=h3 14 (by omega) (by omega)
   cases q14
   have q15:some x15=some _:=h3 15 (by omega) (by omega)
   cases q15
   have q16:some x16=some _:=h3 16 (by omega) (by omega)
   cases q16
   have q17:some x17=some _:=h3 17 (by omega) (by omega)
   cases q17
   have q18:some x18=some _:=h3 18 (by omega) (by omega)
   cases q18
   have q19:some x19=some _:=h3 19 (by omega) (by omega)
   cases q19
   have q20:some x20=some _:=h3 20 (by omega) (by omega)
   cases q20
   have q21:some x21=some _:=h3 21 (by omega) (by omega)
   cases q21
   have q22:some x22=some _:=h3 22 (by omega) (by omega)
   cases q22
   have q23:some x23=some _:=h3 23 (by omega) (by omega)
   cases q23
   have q24:some x24=some _:=h3 24 (by omega) (by omega)
   cases q24
   have q25:some x25=some _:=h3 25 (by omega) (by omega)
   cases q25
   have q26:some x26=some _:=h3 26 (by omega) (by omega)
   cases q26
   have q27:some x27=some _:=h3 27 (by omega) (by omega)
   cases q27
   have q28:some x28=some _:=h3 28 (by omega) (by omega)
   cases q28
   have q29:some x29=some _:=h3 29 (by omega) (by omega)
   cases q29
   have q30:some x30=some _:=h3 30 (by omega) (by omega)
   cases q30
   have q31:some x31=some _:=h3 31 (by omega) (by omega)
   cases q31
   have q32:some x32=some _:=h3 32 (by omega) (by omega)
   cases q32
   have q33:some x33=some _:=h3 33 (by omega) (by omega)
   cases q33
   have q34:some x34=some _:=h3 34 (by omega) (by omega)
   cases q34
   clear h3
   try simp only [Act.put,zg1,zg2,zg3,zs1,zs2,zs3]
   go_wp2_with fail
   go_meet
   exact⟨o',ra,rc,ka,kc,sa,sc,rfl,by omega,x17,tF,hK⟩
  ·show cntU (Array.replicate _ false) 18=18
   kernel_rfl
  ·kernel_rfl
  ·intro i h1 h2
   obtain rfl:i=18:=by have:i<19:=h2;omega
   rfl
  ·exact⟨fun _=>hM4,hkd,fun o e=>(by cases e),fun _=>rfl⟩
  ·exact⟨s0.2,s0.1,fun k _ _=>rfl⟩
  ·intro i hi h
   have:(Array.replicate 19 false).getD i true=false:=by unfold Array.getD;rw [dif_pos (by simp;omega)];simp
   exact absurd (this.symm.trans h) (by simp)
 case rest =>
 obtain⟨o6,ra8,rc8,ka8,kc8,sa8,sc8,rfl,ho6,x6,tm6,hk6⟩:=hcut
 obtain⟨w6,hw6⟩:∃ V,V=wc:=⟨_,rfl⟩
 subst hw6
 have zz:=x1.kn hk6 (by omega)
 have hK6:Kn (Ng g) w2 w6:=hK5.trans hk6
 obtain⟨y0,y1,y2,y3,y4,y5,_⟩:=x6.cells
 clear x1 xc tmC tm5 x5 hM hK5 hk6 x6
 obtain⟨w9,hwz,zz2,kz,o0,o1,o2,o3,o4,o5,f0,f1,f2,f3,f4,f5⟩:=zst zz (.int .i64 idAll.kind) (.int .i64 idAll.n) (.string idAll.name) (.slice ra8 idAll.r.length rc8) (.slice ka8 idAll.kids.length kc8) (.slice sa8 idAll.sys.length sc8)
 have hTf:Hid (TmIn (fun q=>X≤q) w9 idAll (.agg #[.int .i64 idAll.kind,.int .i64 idAll.n,.string idAll.name,.slice ra8 idAll.r.length rc8,.slice ka8 idAll.kids.length kc8,.slice sa8 idAll.sys.length sc8])):=(tm6.kn kz (fun q h=>by have h:w5.heap.size≤q:=h;omega)).up fun q h=>by have h:w5.heap.size≤q:=h;show X≤q;omega
 have hKf:Below X w w9:=by
  have q1:Kn (fun q=>q<X) w2 w9:=(hK6.sub (fun q h=>by show q≠g;omega)).trans (kz.sub (fun q h=>by omega))
  have q2:=(Kn.of_below (No:=fun q=>q<X) Hb2.out).trans q1
  exact q2.below (fun q h=>h) (by rw [HX.out];exact Nat.le_refl _)
 obtain⟨g0,g1,g2,g3,g4,g5,_⟩:=zz2.cells
 have Hwz:Hid (_=_):=hwz
 clear hwz kz zz zz2
 go_wp2_with fail
 rw [← Hwz.out]
 exact bodyPost_ret (v:=.agg #[.int .i64 idAll.kind,.int .i64 idAll.n,.string idAll.name,.slice ra8 idAll.r.length rc8,.slice ka8 idAll.kids.length kc8,.slice sa8 idAll.sys.length sc8]) (by simp only [results,Tryz.results26];simp [go_sem,g0,g1,g2,g3,g4,g5]) rfl ⟨_,rfl,hTf.out,hKf⟩
end Go.Proofs.YtmblbmdchinflaaGreat
