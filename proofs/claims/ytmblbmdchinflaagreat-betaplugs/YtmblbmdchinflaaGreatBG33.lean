/- Beta: a step. -/
import Derived.Test.YtmblbmdchinflaaGreatBG16
import Derived.Test.YtmblbmdchinflaaGreatBG15
import Derived.Test.YtmblbmdchinflaaGreatBYMeas
import Derived.Test.YtmblbmdchinflaaGreatBG23
set_option linter.unusedVariables false
set_option linter.unusedSimpArgs false
namespace Go.Proofs.YtmblbmdchinflaaGreat
open Go.RowKit
def stE (k E:Int) (t M:Tm):Int:=if wrongN true 0 0 t=0 then (if k=0 then 0 else if E=0 then ((wrongN true 0 0 M:Nat):Int) else E) else ((wrongN true 0 0 t:Nat):Int)
def stB (k E:Int) (t M:Tm):Bool:=decide (wrongN true 0 0 t=0∧k≠0∧E=0∧wrongN true 0 0 M=0)
def stT (k E:Int) (t M:Tm):Tm:=if wrongN true 0 0 t=0∧k≠0∧E=0∧wrongN true 0 0 M=0 then M else zeroT
theorem st_bad {k E:Int} {t M:Tm} (h:¬ (wrongN true 0 0 t=0∧k≠0∧E=0∧wrongN true 0 0 M=0)):stB k E t M=false∧stT k E t M=zeroT:=⟨decide_eq_false h,if_neg h⟩
theorem st_ok {k E:Int} {t M:Tm} (h:wrongN true 0 0 t=0∧k≠0∧E=0∧wrongN true 0 0 M=0):stB k E t M=true∧stT k E t M=M∧stE k E t M=0:=⟨decide_eq_true h,if_pos h,by unfold stE;rw [if_pos h.1,if_neg h.2.1,if_pos h.2.2.1,h.2.2.2];rfl⟩
set_option maxRecDepth 100000 in
set_option maxHeartbeats 8000000 in
theorem step_any (t M:Tm) (k E:Int) (v:Value) (w:World) (hv:TmIn Tt w t v) (hb:blk t≤20000)
  (hW:wrongN true 0 0 t=0→∀ W v,TmIn Tt W t v→Calls Tryz.prog 55 #[v] W fun e w'=>e=.returned (.int .i64 k)∧Below W.heap.size W w')
  (hB:wrongN true 0 0 t=0→k≠0→∀ W v,TmIn Tt W t v→Calls Tryz.prog 56 #[v,.int .i64 k] W fun e w'=>∃ v',e=.returned (.tuple #[v',.int .i64 E])∧TmIn Tt w' M v'∧Below W.heap.size W w')
  (hM:E=0→blk M≤50000∧sizeT M≤20000) :
  Calls Tryz.prog 22 #[v] w fun e w'=>∃ v',e=.returned (.tuple #[v',.bool (stB k E t M),.int .i64 (stE k E t M)])∧TmIn (fun q=>w.heap.size≤q) w' (stT k E t M) v'∧Below w.heap.size w w':=by
 have hv0:TmIn (fun q=>q<w.heap.size) w t v:=hv.lt' (fun q _ h=>h)
 obtain⟨ra,rc,ka,kc,sa,sc,rfl,ht⟩:=hv0.form
 obtain⟨w1,hw1⟩:∃ W,W=(w.alloc (.cells #[.int .i64 t.kind,.int .i64 t.n,.string t.name,.slice ra t.r.length rc,.slice ka t.kids.length kc,.slice sa t.sys.length sc] 26)).alloc (.cells #[.int .i64 0,.int .i64 0,.string ⟨#[]⟩,.slice none 0 0,.slice none 0 0,.slice none 0 0] 26):=⟨_,rfl⟩
 have b1:Below w.heap.size w w1:=by rw [hw1];exact bchain (belowA _ _) (belowA _ _)
 obtain⟨X,hX⟩:∃ X,X=w.heap.size:=⟨_,rfl⟩
 have s1:w1.heap.size=X+2:=by rw [hw1,hX];simp
 have x1:Six w1 X (.int .i64 t.kind) (.int .i64 t.n) (.string t.name) (.slice ra t.r.length rc) (.slice ka t.kids.length kc) (.slice sa t.sys.length sc):=⟨by rw [hX,hw1];exact (Below.heap_alloc _ _ _ (by simp)).trans (heapNew w _)⟩
 have x2:Six w1 (X+1) (.int .i64 0) (.int .i64 0) (.string ⟨#[]⟩) (.slice none 0 0) (.slice none 0 0) (.slice none 0 0):=⟨by
  rw [hX,hw1];have:=heapNew (w.alloc (.cells #[.int .i64 t.kind,.int .i64 t.n,.string t.name,.slice ra t.r.length rc,.slice ka t.kids.length kc,.slice sa t.sys.length sc] 26)) (.cells #[.int .i64 0,.int .i64 0,.string ⟨#[]⟩,.slice none 0 0,.slice none 0 0,.slice none 0 0] 26);rwa [World.size_alloc] at this⟩
 have ht1:=ht.blw b1
 rw [← hX] at ht1
 have HT:Hid (∀ W,Below w1.heap.size w1 W→Six W X (.int .i64 t.kind) (.int .i64 t.n) (.string t.name) (.slice ra t.r.length rc) (.slice ka t.kids.length kc) (.slice sa t.sys.length sc)∧TmIn Tt W t (.agg #[.int .i64 t.kind,.int .i64 t.n,.string t.name,.slice ra t.r.length rc,.slice ka t.kids.length kc,.slice sa t.sys.length sc])):=fun W q=>⟨x1.blw q,(ht1.tt.blw q).value⟩
 have cF:=formed_any t _ w1 ht1.tt.value hb
 have Hx2:Hid (∀ W,Below w1.heap.size w1 W→Six W (X+1) (.int .i64 0) (.int .i64 0) (.string ⟨#[]⟩) (.slice none 0 0) (.slice none 0 0) (.slice none 0 0)):=fun W q=>x2.blw q
 have H1:Hid (_=_):=hw1
 have HX:Hid (X=w.heap.size):=hX
 have Hb1:Hid (Below X w w1):=(by rw [hX];exact b1:Below X w w1)
 have Hs1:Hid (w1.heap.size=X+2):=s1
 obtain⟨fw,hfw⟩:∃ n,n=wrongN true 0 0 t:=⟨_,rfl⟩
 have HW:Hid (fw=0→∀ W v,TmIn Tt W t v→Calls Tryz.prog 55 #[v] W fun e w'=>e=.returned (.int .i64 k)∧Below W.heap.size W w'):=(by rw [hfw];exact hW:fw=0→_)
 have HBc:Hid (fw=0→k≠0→∀ W v,TmIn Tt W t v→Calls Tryz.prog 56 #[v,.int .i64 k] W fun e w'=>∃ v',e=.returned (.tuple #[v',.int .i64 E])∧TmIn Tt w' M v'∧Below W.heap.size W w'):=(by rw [hfw];exact hB:fw=0→_)
 have HM:Hid (E=0→blk M≤50000∧sizeT M≤20000):=hM
 have Hfw:Hid (fw=wrongN true 0 0 t):=hfw
 rw [← hfw] at cF
 obtain⟨y0,y1,y2,y3,y4,y5,_⟩:=x1.cells
 rw [← hX]
 clear hw1 hv hv0 ht ht1 b1 hX s1 x1 x2 hfw hW hB hM hb
 go_enter Tryz.func22,Tryz.ntmps22
 go_upto_region 1 with fail
 rw [← H1.out]
 simp only [← HX.out]
 clear H1
 go_wp2_with fail
 refine cF.mono ?_
 rintro e w2 ⟨rfl,b2⟩
 clear cF y0 y1 y2 y3 y4 y5
 by_cases hz:fw=0
 rotate_left
 ·have hz1:(((fw:Nat):Int) == 0)=false:=by simpa using hz
  have x9:=Hx2.out w2 b2
  have zz2:=x9.set6 (.int .i64 0) (.int .i64 0) (.string ⟨#[]⟩) (.slice none 0 0) (.slice none 0 0) (.slice none 0 0)
  obtain⟨o0,o1,o2,o3,o4,o5,ff⟩:=x9.cells
  have f0:=ff 0
  have f1:=ff 1
  have f2:=ff 2
  have f3:=ff 3
  have f4:=ff 4
  have f5:=ff 5
  obtain⟨wz,hwz⟩:∃ W,W=(((((w2.setCell ⟨X+1,0,none⟩ (.int .i64 0)).setCell ⟨X+1,1,none⟩ (.int .i64 0)).setCell ⟨X+1,2,none⟩ (.string ⟨#[]⟩)).setCell ⟨X+1,3,none⟩ (.slice none 0 0)).setCell ⟨X+1,4,none⟩ (.slice none 0 0)).setCell ⟨X+1,5,none⟩ (.slice none 0 0):=⟨_,rfl⟩
  rw [← hwz] at zz2
  have kz:Kn (fun q=>q≠X+1) w2 wz:=by rw [hwz];exact kn_set66 _ _ _ _ _ _ _ _
  have hKz:Hid (Below X w wz):=(Hb1.out.trans ((b2.mono (by have:=Hs1.out;omega)))).trans (kz.below (fun q hq=>by show q≠X+1;omega) (by have:=b2.size;have:=Hs1.out;omega))
  have HF:Hid (stE k E t M=(fw:Int)∧stB k E t M=false∧stT k E t M=zeroT):=⟨by unfold stE;rw [if_neg (by rw [← Hfw.out];exact hz),Hfw.out],st_bad fun h=>hz (Hfw.out.trans h.1)⟩
  obtain⟨h0,h1,h2,h3,h4,h5,_⟩:=zz2.cells
  have Hwz:Hid (_=_):=hwz
  clear hwz ff kz zz2 x9
  go_wp2_with fail
  rw [← Hwz.out]
  exact bodyPost_ret (v:=.tuple #[.agg #[.int .i64 0,.int .i64 0,.string ⟨#[]⟩,.slice none 0 0,.slice none 0 0,.slice none 0 0],.bool false,.int .i64 ((fw:Int))]) (by simp only [results,Tryz.results22];simp [go_sem,h0,h1,h2,h3,h4,h5]) rfl ⟨_,by rw [HF.out.1,HF.out.2.1],by rw [HF.out.2.2];exact zeroT_in _ _,hKz.out⟩
 subst hz
 have cW:=HW.out rfl w2 _ (HT.out w2 b2).2
 have HBd:=HBc.out rfl
 have HBe:Hid (k≠0→∀ W v,TmIn Tt W t v→Calls Tryz.prog 56 #[v,.int .i64 k] W fun e w'=>∃ v',e=.returned (.tuple #[v',.int .i64 E])∧TmIn Tt w' M v'∧Below W.heap.size W w'):=HBd
 clear HBd HW HBc
 obtain⟨y0,y1,y2,y3,y4,y5,_⟩:=(HT.out w2 b2).1.cells
 go_wp2_with fail
 refine cW.mono ?_
 rintro e w3 ⟨rfl,b3⟩
 clear cW y0 y1 y2 y3 y4 y5
 have b13:Below w1.heap.size w1 w3:=b2.trans (b3.mono b2.size)
 clear b2 b3
 by_cases hk:k=0
 ·subst hk
  have x9:=Hx2.out w3 b13
  have zz2:=x9.set6 (.int .i64 0) (.int .i64 0) (.string ⟨#[]⟩) (.slice none 0 0) (.slice none 0 0) (.slice none 0 0)
  obtain⟨o0,o1,o2,o3,o4,o5,ff⟩:=x9.cells
  have f0:=ff 0
  have f1:=ff 1
  have f2:=ff 2
  have f3:=ff 3
  have f4:=ff 4
  have f5:=ff 5
  obtain⟨wz,hwz⟩:∃ W,W=(((((w3.setCell ⟨X+1,0,none⟩ (.int .i64 0)).setCell ⟨X+1,1,none⟩ (.int .i64 0)).setCell ⟨X+1,2,none⟩ (.string ⟨#[]⟩)).setCell ⟨X+1,3,none⟩ (.slice none 0 0)).setCell ⟨X+1,4,none⟩ (.slice none 0 0)).setCell ⟨X+1,5,none⟩ (.slice none 0 0):=⟨_,rfl⟩
  rw [← hwz] at zz2
  have kz:Kn (fun q=>q≠X+1) w3 wz:=by rw [hwz];exact kn_set66 _ _ _ _ _ _ _ _
  have hKz:Hid (Below X w wz):=(Hb1.out.trans ((b13.mono (by have:=Hs1.out;omega)))).trans (kz.below (fun q hq=>by show q≠X+1;omega) (by have:=b13.size;have:=Hs1.out;omega))
  have HF:Hid (stE 0 E t M=0∧stB 0 E t M=false∧stT 0 E t M=zeroT):=⟨by unfold stE;rw [if_pos Hfw.out.symm,if_pos rfl],st_bad fun h=>h.2.1 rfl⟩
  obtain⟨h0,h1,h2,h3,h4,h5,_⟩:=zz2.cells
  have Hwz:Hid (_=_):=hwz
  clear hwz ff kz zz2 x9
  go_wp2_with fail
  rw [← Hwz.out]
  exact bodyPost_ret (v:=.tuple #[.agg #[.int .i64 0,.int .i64 0,.string ⟨#[]⟩,.slice none 0 0,.slice none 0 0,.slice none 0 0],.bool false,.int .i64 (0)]) (by simp only [results,Tryz.results22];simp [go_sem,h0,h1,h2,h3,h4,h5]) rfl ⟨_,by rw [HF.out.1,HF.out.2.1],by rw [HF.out.2.2];exact zeroT_in _ _,hKz.out⟩
 have hk1:(k == 0)=false:=by simpa using hk
 have cB:=HBe.out hk w3 _ (HT.out w3 b13).2
 obtain⟨y0,y1,y2,y3,y4,y5,_⟩:=(HT.out w3 b13).1.cells
 go_wp2_with fail
 refine cB.mono ?_
 rintro e w4 ⟨v4,rfl,t4,b4⟩
 clear cB y0 y1 y2 y3 y4 y5
 have b14:Below w1.heap.size w1 w4:=b13.trans (b4.mono b13.size)
 clear b13 b4
 obtain⟨ra4,rc4,ka4,kc4,sa4,sc4,rfl,ht4⟩:=t4.form
 obtain⟨Y,hY⟩:∃ Y,Y=w4.heap.size:=⟨_,rfl⟩
 obtain⟨w5,hw5⟩:∃ W,W=w4.alloc (.cells #[.int .i64 M.kind,.int .i64 M.n,.string M.name,.slice ra4 M.r.length rc4,.slice ka4 M.kids.length kc4,.slice sa4 M.sys.length sc4] 26):=⟨_,rfl⟩
 have b45:Below w4.heap.size w4 w5:=by rw [hw5];exact belowA _ _
 have b15:Below w1.heap.size w1 w5:=b14.trans (b45.mono b14.size)
 have HC:Hid (∀ W,Below w5.heap.size w5 W→Six W Y (.int .i64 M.kind) (.int .i64 M.n) (.string M.name) (.slice ra4 M.r.length rc4) (.slice ka4 M.kids.length kc4) (.slice sa4 M.sys.length sc4)∧TmIn Tt W M (.agg #[.int .i64 M.kind,.int .i64 M.n,.string M.name,.slice ra4 M.r.length rc4,.slice ka4 M.kids.length kc4,.slice sa4 M.sys.length sc4])):=fun W q=>⟨(⟨by rw [hY,hw5];exact heapNew _ _⟩:Six w5 Y (.int .i64 M.kind) (.int .i64 M.n) (.string M.name) (.slice ra4 M.r.length rc4) (.slice ka4 M.kids.length kc4) (.slice sa4 M.sys.length sc4)).blw q,((ht4.blw b45).blw q).value⟩
 have H5:Hid (_=_):=hw5
 have HY:Hid (Y=w4.heap.size):=hY
 clear hw5 hY t4 ht4 b45 b14
 go_upto_region 8 with fail
 rw [← H5.out]
 simp only [← HY.out]
 clear H5
 by_cases hE:E=0
 rotate_left
 ·have hE1:(E == 0)=false:=by simpa using hE
  have x9:=Hx2.out w5 b15
  have zz2:=x9.set6 (.int .i64 0) (.int .i64 0) (.string ⟨#[]⟩) (.slice none 0 0) (.slice none 0 0) (.slice none 0 0)
  obtain⟨o0,o1,o2,o3,o4,o5,ff⟩:=x9.cells
  have f0:=ff 0
  have f1:=ff 1
  have f2:=ff 2
  have f3:=ff 3
  have f4:=ff 4
  have f5:=ff 5
  obtain⟨wz,hwz⟩:∃ W,W=(((((w5.setCell ⟨X+1,0,none⟩ (.int .i64 0)).setCell ⟨X+1,1,none⟩ (.int .i64 0)).setCell ⟨X+1,2,none⟩ (.string ⟨#[]⟩)).setCell ⟨X+1,3,none⟩ (.slice none 0 0)).setCell ⟨X+1,4,none⟩ (.slice none 0 0)).setCell ⟨X+1,5,none⟩ (.slice none 0 0):=⟨_,rfl⟩
  rw [← hwz] at zz2
  have kz:Kn (fun q=>q≠X+1) w5 wz:=by rw [hwz];exact kn_set66 _ _ _ _ _ _ _ _
  have hKz:Hid (Below X w wz):=(Hb1.out.trans ((b15.mono (by have:=Hs1.out;omega)))).trans (kz.below (fun q hq=>by show q≠X+1;omega) (by have:=b15.size;have:=Hs1.out;omega))
  have HF:Hid (stE k E t M=E∧stB k E t M=false∧stT k E t M=zeroT):=⟨by unfold stE;rw [if_pos Hfw.out.symm,if_neg hk,if_neg hE],st_bad fun h=>hE h.2.2.1⟩
  obtain⟨h0,h1,h2,h3,h4,h5,_⟩:=zz2.cells
  have Hwz:Hid (_=_):=hwz
  clear hwz ff kz zz2 x9
  go_wp2_with fail
  rw [← Hwz.out]
  exact bodyPost_ret (v:=.tuple #[.agg #[.int .i64 0,.int .i64 0,.string ⟨#[]⟩,.slice none 0 0,.slice none 0 0,.slice none 0 0],.bool false,.int .i64 (E)]) (by simp only [results,Tryz.results22];simp [go_sem,h0,h1,h2,h3,h4,h5]) rfl ⟨_,by rw [HF.out.1,HF.out.2.1],by rw [HF.out.2.2];exact zeroT_in _ _,hKz.out⟩
 subst hE
 obtain⟨hm1,hm2⟩:=HM.out rfl
 have cF:=formed_anyB M _ w5 (HC.out w5 (Below.refl _ _)).2 hm1 hm2
 obtain⟨fm,hfm⟩:∃ n,n=wrongN true 0 0 M:=⟨_,rfl⟩
 rw [← hfm] at cF
 have Hfm:Hid (fm=wrongN true 0 0 M):=hfm
 have Hm1:Hid (blk M≤50000):=hm1
 obtain⟨y0,y1,y2,y3,y4,y5,_⟩:=(HC.out w5 (Below.refl _ _)).1.cells
 clear hm1 hm2 hfm
 go_wp2_with fail
 refine cF.mono ?_
 rintro e w6 ⟨rfl,b6⟩
 clear cF y0 y1 y2 y3 y4 y5
 have b16:Below w1.heap.size w1 w6:=b15.trans (b6.mono b15.size)
 by_cases hz:fm=0
 rotate_left
 ·have hz1:(((fm:Nat):Int) == 0)=false:=by simpa using hz
  have x9:=Hx2.out w6 b16
  have zz2:=x9.set6 (.int .i64 0) (.int .i64 0) (.string ⟨#[]⟩) (.slice none 0 0) (.slice none 0 0) (.slice none 0 0)
  obtain⟨o0,o1,o2,o3,o4,o5,ff⟩:=x9.cells
  have f0:=ff 0
  have f1:=ff 1
  have f2:=ff 2
  have f3:=ff 3
  have f4:=ff 4
  have f5:=ff 5
  obtain⟨wz,hwz⟩:∃ W,W=(((((w6.setCell ⟨X+1,0,none⟩ (.int .i64 0)).setCell ⟨X+1,1,none⟩ (.int .i64 0)).setCell ⟨X+1,2,none⟩ (.string ⟨#[]⟩)).setCell ⟨X+1,3,none⟩ (.slice none 0 0)).setCell ⟨X+1,4,none⟩ (.slice none 0 0)).setCell ⟨X+1,5,none⟩ (.slice none 0 0):=⟨_,rfl⟩
  rw [← hwz] at zz2
  have kz:Kn (fun q=>q≠X+1) w6 wz:=by rw [hwz];exact kn_set66 _ _ _ _ _ _ _ _
  have hKz:Hid (Below X w wz):=(Hb1.out.trans ((b16.mono (by have:=Hs1.out;omega)))).trans (kz.below (fun q hq=>by show q≠X+1;omega) (by have:=b16.size;have:=Hs1.out;omega))
  have HF:Hid (stE k 0 t M=(fm:Int)∧stB k 0 t M=false∧stT k 0 t M=zeroT):=⟨by unfold stE;rw [if_pos Hfw.out.symm,if_neg hk,if_pos rfl,Hfm.out],st_bad fun h=>hz (Hfm.out.trans h.2.2.2)⟩
  obtain⟨h0,h1,h2,h3,h4,h5,_⟩:=zz2.cells
  have Hwz:Hid (_=_):=hwz
  clear hwz ff kz zz2 x9
  go_wp2_with fail
  rw [← Hwz.out]
  exact bodyPost_ret (v:=.tuple #[.agg #[.int .i64 0,.int .i64 0,.string ⟨#[]⟩,.slice none 0 0,.slice none 0 0,.slice none 0 0],.bool false,.int .i64 ((fm:Int))]) (by simp only [results,Tryz.results22];simp [go_sem,h0,h1,h2,h3,h4,h5]) rfl ⟨_,by rw [HF.out.1,HF.out.2.1],by rw [HF.out.2.2];exact zeroT_in _ _,hKz.out⟩
 subst hz
 have cC:=copy_any M _ w6 (HC.out w6 b6).2 (by have:=Hm1.out;omega)
 obtain⟨y0,y1,y2,y3,y4,y5,_⟩:=(HC.out w6 b6).1.cells
 go_upto_region 12 with fail
 go_wp2_with fail
 refine cC.mono ?_
 rintro e w7 ⟨v7,rfl,t7,b7⟩
 clear cC y0 y1 y2 y3 y4 y5
 have b17:Below w1.heap.size w1 w7:=b16.trans (b7.mono b16.size)
 have hs6:=b16.size
 obtain⟨ra9,rc9,ka9,kc9,sa9,sc9,rfl,ht9⟩:=t7.form
 have x9:=Hx2.out w7 b17
 have zz2:=x9.set6 (.int .i64 M.kind) (.int .i64 M.n) (.string M.name) (.slice ra9 M.r.length rc9) (.slice ka9 M.kids.length kc9) (.slice sa9 M.sys.length sc9)
 obtain⟨o0,o1,o2,o3,o4,o5,ff⟩:=x9.cells
 have f0:=ff 0
 have f1:=ff 1
 have f2:=ff 2
 have f3:=ff 3
 have f4:=ff 4
 have f5:=ff 5
 obtain⟨wz,hwz⟩:∃ W,W=(((((w7.setCell ⟨X+1,0,none⟩ (.int .i64 M.kind)).setCell ⟨X+1,1,none⟩ (.int .i64 M.n)).setCell ⟨X+1,2,none⟩ (.string M.name)).setCell ⟨X+1,3,none⟩ (.slice ra9 M.r.length rc9)).setCell ⟨X+1,4,none⟩ (.slice ka9 M.kids.length kc9)).setCell ⟨X+1,5,none⟩ (.slice sa9 M.sys.length sc9):=⟨_,rfl⟩
 rw [← hwz] at zz2
 have kz:Kn (fun q=>q≠X+1) w7 wz:=by rw [hwz];exact kn_set66 _ _ _ _ _ _ _ _
 have hT:Hid (TmIn (fun q=>X≤q) wz M (.agg #[.int .i64 M.kind,.int .i64 M.n,.string M.name,.slice ra9 M.r.length rc9,.slice ka9 M.kids.length kc9,.slice sa9 M.sys.length sc9])):=((ht9.value).kn kz (fun q h=>by have:=h.1;have:=Hs1.out;show q≠X+1;omega)).up (fun q h=>by have:=h.1;have:=Hs1.out;show X≤q;omega)
 have hKz:Hid (Below X w wz):=(Hb1.out.trans ((b17.mono (by have:=Hs1.out;omega)))).trans (kz.below (fun q hq=>by show q≠X+1;omega) (by have:=b17.size;have:=Hs1.out;omega))
 have HF:Hid (stB k 0 t M=true∧stT k 0 t M=M∧stE k 0 t M=0):=st_ok ⟨Hfw.out.symm,hk,rfl,Hfm.out.symm⟩
 obtain⟨h0,h1,h2,h3,h4,h5,_⟩:=zz2.cells
 have Hwz:Hid (_=_):=hwz
 clear hwz ff kz zz2 x9 t7 ht9
 go_wp2_with fail
 rw [← Hwz.out]
 exact bodyPost_ret (v:=.tuple #[.agg #[.int .i64 M.kind,.int .i64 M.n,.string M.name,.slice ra9 M.r.length rc9,.slice ka9 M.kids.length kc9,.slice sa9 M.sys.length sc9],.bool true,.int .i64 0]) (by simp only [results,Tryz.results22];simp [go_sem,h0,h1,h2,h3,h4,h5]) rfl ⟨_,by rw [HF.out.1,HF.out.2.2],by rw [HF.out.2.1];exact hT.out,hKz.out⟩
end Go.Proofs.YtmblbmdchinflaaGreat
set_option linter.unusedVariables false
set_option linter.unusedSimpArgs false
namespace Go.Proofs.YtmblbmdchinflaaGreat
open Go.RowKit
def BulkR (m B r:Nat):Prop:=(B≤m→r=B)∧(m<B→m<r)∧r≤2*m+2∧1≤r
def BulkC (N:Nat):Prop:=∀ (m:Nat) (q:Int) (t:Tm) (v:Value) (w:World),q=(m:Nat)→m≤1000000→blk t≤N→TmIn Tt w t v→Calls Tryz.prog 27 #[v,.int .i64 q] w fun e w'=>(∃ r:Nat,e=.returned (.int .i64 r)∧BulkR m (blk t) r)∧Below w.heap.size w w'
structure Pt (m S P:Nat):Prop where
 out:S=P∨(m<S∧m<P)
theorem Pt.step {m S P B r:Nat} (h:Pt m S P) (hS:S≤m) (hr:BulkR (m - S) B r):Pt m (S+r) (P+B):=by
 obtain⟨r1,r2,r3,r4⟩:=hr
 refine⟨?_⟩
 rcases h.out with h|h
 ·by_cases hz:B≤m - S
  ·have:=r1 hz;left;omega
  ·have:=r2 (by omega);right;omega
 ·omega
theorem Pt.add {m S P:Nat} (h:Pt m S P) (x:Nat):Pt m (S+x) (P+x):=⟨by have:=h.out;omega⟩
theorem Pt.to {m S P P':Nat} (h:Pt m S P) (e:P=P'):Pt m S P':=e ▸ h
theorem Pt.bulk {m S P B:Nat} (h:Pt m S P) (hP:P≤B) (he:P=B∨m<S) (h2:S≤2*m+2) (h1:1≤S):BulkR m B S:=by
 have:=h.out
 refine⟨?_,?_,h2,h1⟩ <;> omega
set_option maxRecDepth 100000 in
set_option maxHeartbeats 16000000 in
theorem bulk_step (N:Nat) (IH:BulkC N):BulkC (N+1):=by
 intro m q t v w hq hm hbN h
 subst hq
 obtain⟨ra,rc,ka,kc,sa,sc,rfl,ht⟩:=h.form
 obtain⟨w1,hw1⟩:∃ w1,w1=w.alloc (.cells #[.int .i64 t.kind,.int .i64 t.n,.string t.name,.slice ra t.r.length rc,.slice ka t.kids.length kc,.slice sa t.sys.length sc] 26):=⟨_,rfl⟩
 have b1:Below w.heap.size w w1:=by rw [hw1];exact belowA _ _
 have c6:Cs6 w1 w.heap.size 0 t ra rc ka kc sa sc:=by rw [hw1];exact cs6_new w t ra rc ka kc sa sc
 have HT:Hid (TmTop Tt w1 t ra rc ka kc sa sc):=ht.blw b1
 have HC:Hid (Cs6 w1 w.heap.size 0 t ra rc ka kc sa sc):=c6
 have hbs:=blk_eq t
 have HB:Hid (blk t=1+t.r.length+t.name.size+blkL t.kids+blkS t.sys):=hbs
 obtain⟨R,hR⟩:∃ R,R=t.r.length:=⟨_,rfl⟩
 obtain⟨Q,hQ⟩:∃ Q,Q=t.name.size:=⟨_,rfl⟩
 have HR:Hid (R=t.r.length∧Q=t.name.size):=⟨hR,hQ⟩
 obtain⟨_,y0,y1,y2,y3,y4,y5⟩:=c6
 simp only [Nat.zero_add] at y1 y2 y3 y4 y5
 rw [← hR] at y3 hw1
 rw [← hR,← hQ] at hbs
 have HW:Hid (_=_):=hw1
 clear hw1 h ht
 rw [← hR]
 have hsz:t.name.size=Q:=hQ.symm
 clear hR hQ
 by_cases h1:m<R
 ·have hi:(m:Int) < (R:Int):=by omega
  go_enter Tryz.func27,Tryz.ntmps27
  go_wp2_with fail
  rw [← HW.out]
  go_wp2_with fail
  go_ret
  exact⟨⟨m+1,by go_num,by unfold BulkR;omega⟩,b1⟩
 ·have hi:¬ (m:Int) < (R:Int):=by omega
  by_cases h2:m<Q
  ·have hi2:(m:Int) < (Q:Int):=by omega
   go_enter Tryz.func27,Tryz.ntmps27
   go_wp2_with fail
   rw [← HW.out]
   go_wp2_with fail
   go_ret
   exact⟨⟨m+1,by go_num,by unfold BulkR;omega⟩,b1⟩
  ·have hi2:¬ (m:Int) < (Q:Int):=by omega
   obtain⟨L,hL⟩:∃ L,L=t.kids.length:=⟨_,rfl⟩
   have HL:Hid (L=t.kids.length):=hL
   obtain⟨M,hM⟩:∃ M,M=t.sys.length:=⟨_,rfl⟩
   have HM:Hid (M=t.sys.length):=hM
   have HBs:Hid (blk t=1+R+Q+blkL t.kids+blkS t.sys):=hbs
   clear hL hM hbs
   go_enter Tryz.func27,Tryz.ntmps27
   go_wp2_with fail
   rw [← HW.out]
   clear y0 y1 y2 y3 y4 y5
   go_loopw [5,6] (fun s i wr=>∃ k S:Nat,k≤L∧i=.int .i64 k∧s=.int .i64 S∧Pt m S (1+R+Q+blkL (t.kids.take k))∧S≤2*m+2∧k+1≤S∧Below w1.heap.size w1 wr) (fun _ i _=>L - (intOf i).toNat)
   case atStart=>exact⟨0,1+R+Q,Nat.zero_le _,rfl,by go_num,⟨.inl (by simp [blkL])⟩,by omega,by omega,Below.refl _ _⟩
   case round =>
    obtain⟨wo,hwo⟩:∃ wo,wo=wr:=⟨_,rfl⟩
    subst hwo
    obtain⟨k,S,hk,rfl,rfl,hS,hSm,hkS,hBr⟩:=hrel
    obtain⟨_,x0,x1,x2,x3,x4,x5⟩:=HC.out.blw hBr
    simp only [Nat.zero_add] at x1 x2 x3 x4 x5
    rw [← HL.out] at x4
    rw [← HM.out] at x5
    by_cases hgo:k<L∧S≤m
    ·obtain⟨hlt,hSl⟩:=hgo
     have hkI:(k:Int) < (L:Int):=by omega
     have hSI:(S:Int)≤(m:Int):=by omega
     obtain⟨y,hy⟩:=someL (l:=t.kids) (k:=k) (by rw [← HL.out];exact hlt)
     obtain⟨g,off,ra1,rc1,ka1,kc1,sa1,sc1,rfl,hg,q6,qt⟩:=(HT.out.blw hBr).kids.at hy
     have hby:blk y<blk t:=blk_kid (List.mem_of_getElem? hy)
     have HY:Hid (_=_):=blkL_step hy
     have cc:=IH (m - S) ((m:Int) - (S:Int)) y _ wo (by omega) (by omega) (by omega) qt.value
     obtain⟨_,c0,c1,c2,c3,c4,c5⟩:=q6
     clear hy qt
     go_wp2_with fail
     refine cc.mono ?_
     rintro e w6 ⟨⟨r,rfl,hr⟩,hb6⟩
     clear cc
     have hP:=(hS.step hSl hr).to (show _=1+R+Q+blkL (t.kids.take (k+1)) by rw [HY.out];omega)
     obtain⟨_,_,r3,r4⟩:=hr
     clear HY hS x0 x1 x2 x3 x4 x5 c0 c1 c2 c3 c4 c5
     go_wp2_with fail
     go_roundw
     case rel=>exact⟨k+1,S+r,by omega,by go_num,by go_num,hP,by omega,by omega,hBr.trans (hb6.mono hBr.size)⟩
     case measure=>simp [intOf];omega
    ·have HP0:Pt m S (1+R+Q+blkL (t.kids.take k))∧(blkL (t.kids.take k)=blkL t.kids∨m<S):=⟨hS,by
      by_cases hkL:k<L
      ·right;omega
      ·left;rw [List.take_of_length_le (by rw [← HL.out];omega)]⟩
     have HPt:Hid (Pt m S (1+R+Q+blkL t.kids)):=(by
      have h9:=blkL_take t.kids k
      have:=HP0.1.out
      rcases HP0.2 with e|e
      ·rw [← e];exact HP0.1
      ·exact⟨.inr ⟨e,by omega⟩⟩:Pt m S (1+R+Q+blkL t.kids))
     clear HP0 hS
     rcases (show L≤k∨(k<L∧m<S) by omega) with hend|⟨hend,hend2⟩
     ·have hkI:¬ (k:Int) < (L:Int):=by omega
      go_wp2_with fail
      clear x0 x1 x2 x3 x4 x5
      have hS1:1≤S:=by omega
      go_loopw [5,7] (fun s i wr=>∃ k S:Nat,k≤M∧i=.int .i64 k∧s=.int .i64 S∧Pt m S (1+R+Q+blkL t.kids+blkS (t.sys.take k))∧S≤2*m+2∧k+1≤S∧Below w1.heap.size w1 wr) (fun _ i _=>M - (intOf i).toNat)
      case atStart=>exact⟨0,S,Nat.zero_le _,rfl,rfl,HPt.out.to (by simp [blkS]),hSm,by omega,hBr⟩
      case round =>
       obtain⟨wp,hwp⟩:∃ wp,wp=wr:=⟨_,rfl⟩
       subst hwp
       clear hkI hBr hSm hkS HPt hS1
       obtain⟨k,S,hk,rfl,rfl,hS,hSm,hkS,hBr⟩:=hrel
       obtain⟨_,x0,x1,x2,x3,x4,x5⟩:=HC.out.blw hBr
       simp only [Nat.zero_add] at x1 x2 x3 x4 x5
       rw [← HM.out] at x5
       by_cases hgo:k<M∧S≤m
       ·obtain⟨hlt,hSl⟩:=hgo
        have hkI:(k:Int) < (M:Int):=by omega
        have hSI:(S:Int)≤(m:Int):=by omega
        obtain⟨b,hb⟩:=someL (l:=t.sys) (k:=k) (by rw [← HM.out];exact hlt)
        obtain⟨g,off,fa,fc,ka1,kc1,rfl,hg,q2,qf,qk⟩:=(HT.out.blw hBr).sys.at hb
        have HY:Hid (_=_):=blkS_step hb
        have HMm:Hid (b∈t.sys):=List.mem_of_getElem? hb
        have hle:=blkS_take t.sys (k+1)
        have hle2:=HY.out
        have HQ2:Hid (Cs2 wp g (off+k*2) b fa fc ka1 kc1):=q2
        have HK:Hid (KdT Tt wp (TmIn Tt wp) b.2 (.slice ka1 b.2.length kc1)):=qk
        obtain⟨_,c0,c1⟩:=q2
        obtain⟨Fl,hFl⟩:∃ Fl,Fl=b.1.length:=⟨_,rfl⟩
        have HF:Hid (Fl=b.1.length):=hFl
        obtain⟨K,hK⟩:∃ K,K=b.2.length:=⟨_,rfl⟩
        have HKl:Hid (K=b.2.length):=hK
        rw [← hFl] at c0 hle2
        rw [← hK] at c1
        clear hFl hK hb qf qk
        by_cases hf:m<Fl
        ·have hfI:(m:Int) < (Fl:Int):=by omega
         have HRR:Hid (BulkR m (blk t) (m+1)):=(by have:=HBs.out;unfold BulkR;omega:BulkR m (blk t) (m+1))
         clear hle hle2
         go_wp2_with fail
         go_ret
         exact⟨⟨m+1,by go_num,HRR.out⟩,bchain b1 hBr⟩
        ·have hfI:¬ (m:Int) < (Fl:Int):=by omega
         clear hle hle2
         go_wp2_with fail
         have HP1:Hid (Pt m (S+1+Fl) (1+R+Q+blkL t.kids+blkS (t.sys.take k) + 1+Fl+blkL (b.2.take 0))):=((hS.add 1).add Fl).to (by simp [blkL])
         clear hS x0 x1 x2 x3 x4 x5 c0 c1
         have hS2:S+1+Fl≤2*m+2:=by omega
         go_loopw [5,8] (fun s i wr=>∃ j S':Nat,j≤K∧i=.int .i64 j∧s=.int .i64 S'∧Pt m S' (1+R+Q+blkL t.kids+blkS (t.sys.take k) + 1+Fl+blkL (b.2.take j))∧S'≤2*m+2∧k+2+j≤S'∧Below wp.heap.size wp wr) (fun _ i _=>K - (intOf i).toNat)
         case atStart=>exact⟨0,S+1+Fl,Nat.zero_le _,rfl,by go_num,HP1.out,hS2,by omega,Below.refl _ _⟩
         case round =>
          obtain⟨wq,hwq⟩:∃ wq,wq=wr:=⟨_,rfl⟩
          subst hwq
          obtain⟨j,S',hj,rfl,rfl,hS',hSm',hjS,hBq⟩:=hrel
          have hB2:=bchain hBr hBq
          obtain⟨_,x0,x1,x2,x3,x4,x5⟩:=HC.out.blw hB2
          simp only [Nat.zero_add] at x1 x2 x3 x4 x5
          rw [← HM.out] at x5
          obtain⟨_,c0,c1⟩:=HQ2.out.blw hBq
          rw [← HKl.out] at c1
          by_cases hgo2:j<K∧S'≤m
          ·obtain⟨hlt2,hSl2⟩:=hgo2
           have hjI:(j:Int) < (K:Int):=by omega
           have hSI2:(S':Int)≤(m:Int):=by omega
           obtain⟨y,hy⟩:=someL (l:=b.2) (k:=j) (by rw [← HKl.out];exact hlt2)
           obtain⟨g2,off2,ra2,rc2,ka2,kc2,sa2,sc2,rfl,hg2,q6,qt⟩:=(HK.out.blw hBq).at hy
           have hby:blk y<blk t:=blk_sub HMm.out (List.mem_of_getElem? hy)
           have HY2:Hid (_=_):=blkL_step hy
           have cc:=IH (m - S') ((m:Int) - (S':Int)) y _ wq (by omega) (by omega) (by omega) qt.value
           obtain⟨_,d0,d1,d2,d3,d4,d5⟩:=q6
           clear hy qt
           go_wp2_with fail
           refine cc.mono ?_
           rintro e w6 ⟨⟨r,rfl,hr⟩,hb6⟩
           clear cc
           have hP:=(hS'.step hSl2 hr).to (show _=1+R+Q+blkL t.kids+blkS (t.sys.take k) + 1+Fl+blkL (b.2.take (j+1)) by rw [HY2.out];omega)
           obtain⟨_,_,r3,r4⟩:=hr
           clear HY2 hS' x0 x1 x2 x3 x4 x5 c0 c1 d0 d1 d2 d3 d4 d5
           go_wp2_with fail
           go_roundw
           case rel=>exact⟨j+1,S' + r,by omega,by go_num,by go_num,hP,by omega,by omega,hBq.trans (hb6.mono hBq.size)⟩
           case measure=>simp [intOf];omega
          ·have HPn:Hid (Pt m S' (1+R+Q+blkL t.kids+blkS (t.sys.take (k+1)))):=(by
            have e0:=HY.out
            rw [← HF.out] at e0
            have h9:=blkL_take b.2 j
            have h8:=hS'.out
            by_cases hjK:j<K
            ·exact⟨.inr ⟨by omega,by omega⟩⟩
            ·have e9:b.2.take j=b.2:=List.take_of_length_le (by rw [← HKl.out];omega)
             rw [e9] at hS'
             exact hS'.to (by omega):Pt m S' (1+R+Q+blkL t.kids+blkS (t.sys.take (k+1))))
           clear hS'
           rcases (show K≤j∨(j<K∧m<S') by omega) with hend|⟨hend,hend2⟩
           ·have hjI:¬ (j:Int) < (K:Int):=by omega
            go_wp2_with fail
            go_roundw
            case rel=>exact⟨k+1,S',by omega,by go_num,rfl,HPn.out,hSm',by omega,hB2⟩
            case measure=>simp [intOf];omega
           ·have hjI:(j:Int) < (K:Int):=by omega
            have hSI2:¬ (S':Int)≤(m:Int):=by omega
            go_wp2_with fail
            go_roundw
            case rel=>exact⟨k+1,S',by omega,by go_num,rfl,HPn.out,hSm',by omega,hB2⟩
            case measure=>simp [intOf];omega
       ·have HRR:Hid (BulkR m (blk t) S):=(by
         have h3:=HBs.out
         have h9:=blkS_take t.sys k
         refine hS.bulk (by omega) ?_ hSm (by omega)
         by_cases hkM:k<M
         ·right;omega
         ·left;rw [List.take_of_length_le (by rw [← HM.out];omega)];omega:BulkR m (blk t) S)
        clear hS
        rcases (show M≤k∨(k<M∧m<S) by omega) with hend|⟨hend,hend2⟩
        ·have hkI:¬ (k:Int) < (M:Int):=by omega
         go_wp2_with fail
         go_ret
         exact⟨⟨S,rfl,HRR.out⟩,bchain b1 hBr⟩
        ·have hkI:(k:Int) < (M:Int):=by omega
         have hSI:¬ (S:Int)≤(m:Int):=by omega
         go_wp2_with fail
         go_ret
         exact⟨⟨S,rfl,HRR.out⟩,bchain b1 hBr⟩
     ·have hkI:(k:Int) < (L:Int):=by omega
      have hSI:¬ (S:Int)≤(m:Int):=by omega
      go_wp2_with fail
      clear x0 x1 x2 x3 x4 x5
      have hS1:1≤S:=by omega
      go_loopw [5,7] (fun s i wr=>∃ k S:Nat,k≤M∧i=.int .i64 k∧s=.int .i64 S∧Pt m S (1+R+Q+blkL t.kids+blkS (t.sys.take k))∧S≤2*m+2∧k+1≤S∧Below w1.heap.size w1 wr) (fun _ i _=>M - (intOf i).toNat)
      case atStart=>exact⟨0,S,Nat.zero_le _,rfl,rfl,HPt.out.to (by simp [blkS]),hSm,by omega,hBr⟩
      case round =>
       obtain⟨wp,hwp⟩:∃ wp,wp=wr:=⟨_,rfl⟩
       subst hwp
       clear hkI hBr hSm hkS HPt hS1
       obtain⟨k,S,hk,rfl,rfl,hS,hSm,hkS,hBr⟩:=hrel
       obtain⟨_,x0,x1,x2,x3,x4,x5⟩:=HC.out.blw hBr
       simp only [Nat.zero_add] at x1 x2 x3 x4 x5
       rw [← HM.out] at x5
       by_cases hgo:k<M∧S≤m
       ·obtain⟨hlt,hSl⟩:=hgo
        have hkI:(k:Int) < (M:Int):=by omega
        have hSI:(S:Int)≤(m:Int):=by omega
        obtain⟨b,hb⟩:=someL (l:=t.sys) (k:=k) (by rw [← HM.out];exact hlt)
        obtain⟨g,off,fa,fc,ka1,kc1,rfl,hg,q2,qf,qk⟩:=(HT.out.blw hBr).sys.at hb
        have HY:Hid (_=_):=blkS_step hb
        have HMm:Hid (b∈t.sys):=List.mem_of_getElem? hb
        have hle:=blkS_take t.sys (k+1)
        have hle2:=HY.out
        have HQ2:Hid (Cs2 wp g (off+k*2) b fa fc ka1 kc1):=q2
        have HK:Hid (KdT Tt wp (TmIn Tt wp) b.2 (.slice ka1 b.2.length kc1)):=qk
        obtain⟨_,c0,c1⟩:=q2
        obtain⟨Fl,hFl⟩:∃ Fl,Fl=b.1.length:=⟨_,rfl⟩
        have HF:Hid (Fl=b.1.length):=hFl
        obtain⟨K,hK⟩:∃ K,K=b.2.length:=⟨_,rfl⟩
        have HKl:Hid (K=b.2.length):=hK
        rw [← hFl] at c0 hle2
        rw [← hK] at c1
        clear hFl hK hb qf qk
        by_cases hf:m<Fl
        ·have hfI:(m:Int) < (Fl:Int):=by omega
         have HRR:Hid (BulkR m (blk t) (m+1)):=(by have:=HBs.out;unfold BulkR;omega:BulkR m (blk t) (m+1))
         clear hle hle2
         go_wp2_with fail
         go_ret
         exact⟨⟨m+1,by go_num,HRR.out⟩,bchain b1 hBr⟩
        ·have hfI:¬ (m:Int) < (Fl:Int):=by omega
         clear hle hle2
         go_wp2_with fail
         have HP1:Hid (Pt m (S+1+Fl) (1+R+Q+blkL t.kids+blkS (t.sys.take k) + 1+Fl+blkL (b.2.take 0))):=((hS.add 1).add Fl).to (by simp [blkL])
         clear hS x0 x1 x2 x3 x4 x5 c0 c1
         have hS2:S+1+Fl≤2*m+2:=by omega
         go_loopw [5,8] (fun s i wr=>∃ j S':Nat,j≤K∧i=.int .i64 j∧s=.int .i64 S'∧Pt m S' (1+R+Q+blkL t.kids+blkS (t.sys.take k) + 1+Fl+blkL (b.2.take j))∧S'≤2*m+2∧k+2+j≤S'∧Below wp.heap.size wp wr) (fun _ i _=>K - (intOf i).toNat)
         case atStart=>exact⟨0,S+1+Fl,Nat.zero_le _,rfl,by go_num,HP1.out,hS2,by omega,Below.refl _ _⟩
         case round =>
          obtain⟨wq,hwq⟩:∃ wq,wq=wr:=⟨_,rfl⟩
          subst hwq
          obtain⟨j,S',hj,rfl,rfl,hS',hSm',hjS,hBq⟩:=hrel
          have hB2:=bchain hBr hBq
          obtain⟨_,x0,x1,x2,x3,x4,x5⟩:=HC.out.blw hB2
          simp only [Nat.zero_add] at x1 x2 x3 x4 x5
          rw [← HM.out] at x5
          obtain⟨_,c0,c1⟩:=HQ2.out.blw hBq
          rw [← HKl.out] at c1
          by_cases hgo2:j<K∧S'≤m
          ·obtain⟨hlt2,hSl2⟩:=hgo2
           have hjI:(j:Int) < (K:Int):=by omega
           have hSI2:(S':Int)≤(m:Int):=by omega
           obtain⟨y,hy⟩:=someL (l:=b.2) (k:=j) (by rw [← HKl.out];exact hlt2)
           obtain⟨g2,off2,ra2,rc2,ka2,kc2,sa2,sc2,rfl,hg2,q6,qt⟩:=(HK.out.blw hBq).at hy
           have hby:blk y<blk t:=blk_sub HMm.out (List.mem_of_getElem? hy)
           have HY2:Hid (_=_):=blkL_step hy
           have cc:=IH (m - S') ((m:Int) - (S':Int)) y _ wq (by omega) (by omega) (by omega) qt.value
           obtain⟨_,d0,d1,d2,d3,d4,d5⟩:=q6
           clear hy qt
           go_wp2_with fail
           refine cc.mono ?_
           rintro e w6 ⟨⟨r,rfl,hr⟩,hb6⟩
           clear cc
           have hP:=(hS'.step hSl2 hr).to (show _=1+R+Q+blkL t.kids+blkS (t.sys.take k) + 1+Fl+blkL (b.2.take (j+1)) by rw [HY2.out];omega)
           obtain⟨_,_,r3,r4⟩:=hr
           clear HY2 hS' x0 x1 x2 x3 x4 x5 c0 c1 d0 d1 d2 d3 d4 d5
           go_wp2_with fail
           go_roundw
           case rel=>exact⟨j+1,S' + r,by omega,by go_num,by go_num,hP,by omega,by omega,hBq.trans (hb6.mono hBq.size)⟩
           case measure=>simp [intOf];omega
          ·have HPn:Hid (Pt m S' (1+R+Q+blkL t.kids+blkS (t.sys.take (k+1)))):=(by
            have e0:=HY.out
            rw [← HF.out] at e0
            have h9:=blkL_take b.2 j
            have h8:=hS'.out
            by_cases hjK:j<K
            ·exact⟨.inr ⟨by omega,by omega⟩⟩
            ·have e9:b.2.take j=b.2:=List.take_of_length_le (by rw [← HKl.out];omega)
             rw [e9] at hS'
             exact hS'.to (by omega):Pt m S' (1+R+Q+blkL t.kids+blkS (t.sys.take (k+1))))
           clear hS'
           rcases (show K≤j∨(j<K∧m<S') by omega) with hend|⟨hend,hend2⟩
           ·have hjI:¬ (j:Int) < (K:Int):=by omega
            go_wp2_with fail
            go_roundw
            case rel=>exact⟨k+1,S',by omega,by go_num,rfl,HPn.out,hSm',by omega,hB2⟩
            case measure=>simp [intOf];omega
           ·have hjI:(j:Int) < (K:Int):=by omega
            have hSI2:¬ (S':Int)≤(m:Int):=by omega
            go_wp2_with fail
            go_roundw
            case rel=>exact⟨k+1,S',by omega,by go_num,rfl,HPn.out,hSm',by omega,hB2⟩
            case measure=>simp [intOf];omega
       ·have HRR:Hid (BulkR m (blk t) S):=(by
         have h3:=HBs.out
         have h9:=blkS_take t.sys k
         refine hS.bulk (by omega) ?_ hSm (by omega)
         by_cases hkM:k<M
         ·right;omega
         ·left;rw [List.take_of_length_le (by rw [← HM.out];omega)];omega:BulkR m (blk t) S)
        clear hS
        rcases (show M≤k∨(k<M∧m<S) by omega) with hend|⟨hend,hend2⟩
        ·have hkI:¬ (k:Int) < (M:Int):=by omega
         go_wp2_with fail
         go_ret
         exact⟨⟨S,rfl,HRR.out⟩,bchain b1 hBr⟩
        ·have hkI:(k:Int) < (M:Int):=by omega
         have hSI:¬ (S:Int)≤(m:Int):=by omega
         go_wp2_with fail
         go_ret
         exact⟨⟨S,rfl,HRR.out⟩,bchain b1 hBr⟩
theorem bulk_any (N:Nat):BulkC N:=by
 induction N with
 | zero=>intro m q t v w _ _ hb;have:=blk_pos t;omega
 | succ N ih=>exact bulk_step N ih
end Go.Proofs.YtmblbmdchinflaaGreat
set_option linter.unusedVariables false
set_option linter.unusedSimpArgs false
namespace Go.Proofs.YtmblbmdchinflaaGreat
open Go.RowKit
end Go.Proofs.YtmblbmdchinflaaGreat
