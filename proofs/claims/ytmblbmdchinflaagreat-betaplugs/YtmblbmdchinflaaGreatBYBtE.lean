/- Beta: the chapter's examples. -/
import Derived.Test.YtmblbmdchinflaaGreatBG34
import Derived.Test.YtmblbmdchinflaaGreatBYLfD
import Derived.Test.YtmblbmdchinflaaGreatBG36
set_option linter.unusedVariables false
set_option linter.unusedSimpArgs false
namespace Go.Proofs.YtmblbmdchinflaaGreat
open Go.RowKit
def xbV:Tm:=mkT 1 []
def xbU:Tm:=mkT 3 []
def xbA:Tm:=mkT 6 [mkT 5 [xbV],xbU]
def xbL:Tm:=.mk 21 0 ⟨#[]⟩ [posB 0] [] []
def xbB:Tm:=mkT 20 []
def xbP:Tm:=.mk 13 0 ⟨#[]⟩ [((0,2):C)] [mkT 12 [xbL],xbB,xbB] []
theorem e_app:stB 1 (plE 0 xbV xbU) xbA (plT 0 xbV xbU)=true∧stE 1 (plE 0 xbV xbU) xbA (plT 0 xbV xbU)=0∧(stT 1 (plE 0 xbV xbU) xbA (plT 0 xbV xbU)).kind=3:=by decide +kernel
theorem e_blk:blk xbV≤200∧blk xbU≤200∧blk xbP≤20000∧blk xbL≤20000∧blk (ansD (putOp 0 (liftFF xbP.r 0 1).1) xbL)≤40000∧blk (takT 0 xbP.r xbL)≤50000∧sizeT (takT 0 xbP.r xbL)≤20000:=by decide +kernel
theorem e_papp:stB 6 (takE 0 xbP.r xbL) xbP (takT 0 xbP.r xbL)=true∧stE 6 (takE 0 xbP.r xbL) xbP (takT 0 xbP.r xbL)=0∧(stT 6 (takE 0 xbP.r xbL) xbP (takT 0 xbP.r xbL)).kind=21∧(stT 6 (takE 0 xbP.r xbL) xbP (takT 0 xbP.r xbL)).r=[((0,2):C)]:=by decide +kernel
theorem e_univ:stB 0 0 xbU zeroT=false∧stE 0 0 xbU zeroT=0:=by decide +kernel
theorem xrowA (ok:Nat→Prop) (w:World) (g:Nat) (ho:ok g) (h:w.heap[g]? = some (.cells #[.int .u32 1,.int .u32 0] 48 (0,0))):ClRow ok w [((1,0):C)] (.slice (some ⟨g,0,none⟩) 1 1):=by
 refine⟨_,_,rfl,Nat.le_refl _,fun j x hx=>?_⟩
 have hj:j=0:=by have:=some_lt hx;simp at this;omega
 subst hj
 simp only [List.getElem?_cons_zero,Option.some.injEq] at hx
 subst hx
 refine⟨g,0,rfl,ho,(Array.getElem?_eq_some_iff.1 h).1,?_,?_⟩ <;> (unfold World.cell?; simp [h])
theorem xrowB (ok:Nat→Prop) (w:World) (g:Nat) (ho:ok g) (h:w.heap[g]? = some (.cells #[.int .u32 0,.int .u32 2] 48 (0,0))):ClRow ok w [((0,2):C)] (.slice (some ⟨g,0,none⟩) 1 1):=by
 refine⟨_,_,rfl,Nat.le_refl _,fun j x hx=>?_⟩
 have hj:j=0:=by have:=some_lt hx;simp at this;omega
 subst hj
 simp only [List.getElem?_cons_zero,Option.some.injEq] at hx
 subst hx
 refine⟨g,0,rfl,ho,(Array.getElem?_eq_some_iff.1 h).1,?_,?_⟩ <;> (unfold World.cell?; simp [h])
theorem st_papp (v:Value) (w:World) (hv:TmIn Tt w xbP v) :
  Calls Tryz.prog 22 #[v] w fun e w'=>∃ v',e=.returned (.tuple #[v',.bool (stB 6 (takE 0 xbP.r xbL) xbP (takT 0 xbP.r xbL)),.int .i64 (stE 6 (takE 0 xbP.r xbL) xbP (takT 0 xbP.r xbL))])∧TmIn (fun q=>w.heap.size≤q) w' (stT 6 (takE 0 xbP.r xbL) xbP (takT 0 xbP.r xbL)) v'∧Below w.heap.size w w' :=
 step_any _ _ 6 _ v w hv e_blk.2.2.1
  (fun _ W v h=>which_papp _ (mkT 12 [xbL]) v W h rfl rfl 6 rfl (by decide) 6 (by decide))
  (fun _ _ W v h=>bec_within (fun s hs N=>lf_any hs N) _ (mkT 12 [xbL]) xbL v W h rfl rfl e_blk.2.2.2.1 (by decide) e_blk.2.2.2.2.1)
  (fun _=>e_blk.2.2.2.2.2)
theorem st_univ (v:Value) (w:World) (hv:TmIn Tt w xbU v) :
  Calls Tryz.prog 22 #[v] w fun e w'=>∃ v',e=.returned (.tuple #[v',.bool (stB 0 0 xbU zeroT),.int .i64 (stE 0 0 xbU zeroT)])∧TmIn (fun q=>w.heap.size≤q) w' (stT 0 0 xbU zeroT) v'∧Below w.heap.size w w' :=
 step_any _ _ 0 _ v w hv (by have:=e_blk.2.1;omega) (fun _ W v h=>which_univ _ v W h rfl) (fun _ hk=>absurd rfl hk) (fun _=>by decide +kernel)
set_option maxRecDepth 100000 in
set_option maxHeartbeats 8000000 in
theorem works16_any (w:World):Calls Tryz.prog 19 #[] w fun e w'=>e=.returned (.bool true)∧Below w.heap.size w w':=by
 have hLA:LAll:=fun s hs N=>lf_any hs N
 have B0:Below w.heap.size w w:=Below.refl _ _
 go_enter Tryz.func19,Tryz.ntmps19
 go_upto_region 1 with fail
 have cc:=of16_any 1 none 0 0 w
 go_wp2_with fail
 refine cc.mono ?_
 rintro e w1 ⟨rfl,b1⟩
 clear cc
 have B1:Below w.heap.size w w1:=B0.trans (b1.mono B0.size)
 obtain⟨A1,hA1⟩:∃ q,q=w1.heap.size:=⟨_,rfl⟩
 obtain⟨w2,hw2⟩:∃ W,W=w1.alloc (.cells #[.int .i64 1,.int .i64 0,.string ⟨#[]⟩,.slice none 0 0,.slice none 0 0,.slice none 0 0] 26):=⟨_,rfl⟩
 have b2:Below w1.heap.size w1 w2:=by rw [hw2];exact belowA _ _
 have zA1:w2.heap[A1]? = some (.cells #[.int .i64 1,.int .i64 0,.string ⟨#[]⟩,.slice none 0 0,.slice none 0 0,.slice none 0 0] 26 (0,0)):=by rw [hw2,hA1];exact heapNew _ _
 have B2:Below w.heap.size w w2:=B1.trans (b2.mono B1.size)
 have Hw2:Hid (_=_):=hw2
 have HA1:Hid (_=_):=hA1
 clear hw2 hA1
 have kA:=kd_one zA1 (ok:=Tt) trivial (mk_in (k:=1) (l:=[]) ⟨by decide,by decide⟩ (kd_nil0 _))
 have cc:=of16_any 5 (some ⟨A1,0,none⟩) 1 1 w2
 go_wp2_with fail
 simp only [← HA1.out]
 rw [← Hw2.out]
 refine cc.mono ?_
 rintro e w3 ⟨rfl,b3⟩
 clear cc
 have B3:Below w.heap.size w w3:=B2.trans (b3.mono B2.size)
 have kA:=kA.blw b3
 have cc:=of16_any 3 none 0 0 w3
 go_wp2_with fail
 refine cc.mono ?_
 rintro e w4 ⟨rfl,b4⟩
 clear cc
 have B4:Below w.heap.size w w4:=B3.trans (b4.mono B3.size)
 have kA:=kA.blw b4
 obtain⟨A2,hA2⟩:∃ q,q=w4.heap.size:=⟨_,rfl⟩
 obtain⟨w5,hw5⟩:∃ W,W=w4.alloc (.cells #[.int .i64 5,.int .i64 0,.string ⟨#[]⟩,.slice none 0 0,.slice (some ⟨A1,0,none⟩) 1 1,.slice none 0 0,.int .i64 3,.int .i64 0,.string ⟨#[]⟩,.slice none 0 0,.slice none 0 0,.slice none 0 0] 26):=⟨_,rfl⟩
 have b5:Below w4.heap.size w4 w5:=by rw [hw5];exact belowA _ _
 have zA2:w5.heap[A2]? = some (.cells #[.int .i64 5,.int .i64 0,.string ⟨#[]⟩,.slice none 0 0,.slice (some ⟨A1,0,none⟩) 1 1,.slice none 0 0,.int .i64 3,.int .i64 0,.string ⟨#[]⟩,.slice none 0 0,.slice none 0 0,.slice none 0 0] 26 (0,0)):=by rw [hw5,hA2];exact heapNew _ _
 have B5:Below w.heap.size w w5:=B4.trans (b5.mono B4.size)
 have Hw5:Hid (_=_):=hw5
 have HA2:Hid (_=_):=hA2
 clear hw5 hA2
 have kA:=kA.blw b5
 have kB:=kd_two zA2 (ok:=Tt) trivial (mk_in (k:=5) ⟨by decide,by decide⟩ kA) (mk_in (k:=3) (l:=[]) ⟨by decide,by decide⟩ (kd_nil0 _))
 have cc:=of16_any 6 (some ⟨A2,0,none⟩) 2 2 w5
 go_wp2_with fail
 simp only [← HA2.out]
 rw [← Hw5.out]
 refine cc.mono ?_
 rintro e w6 ⟨rfl,b6⟩
 clear cc
 have B6:Below w.heap.size w w6:=B5.trans (b6.mono B5.size)
 have kB:=kB.blw b6
 obtain⟨S1,hS1⟩:∃ S,S=stT 1 (plE 0 xbV xbU) xbA (plT 0 xbV xbU):=⟨_,rfl⟩
 have q1:S1.kind=3:=by rw [hS1];exact e_app.2.2
 have c1:=st_app hLA xbV xbU _ w6 (mk_in (k:=6) ⟨by decide,by decide⟩ kB) e_blk.1 e_blk.2.1
 have e1:=e_app
 unfold xbA at e1 hS1
 rw [e1.1,e1.2.1,← hS1] at c1
 clear hS1 e1
 go_wp2_with fail
 refine c1.mono ?_
 rintro e w7 ⟨v1,rfl,t1,b7⟩
 clear c1 kA kB zA1 zA2
 have B7:Below w.heap.size w w7:=B6.trans (b7.mono B6.size)
 obtain⟨r1,rc1,k1,kc1,s1,sc1,rfl,ht1⟩:=t1.tt.form
 rw [q1]
 obtain⟨Y1,hY1⟩:∃ q,q=w7.heap.size:=⟨_,rfl⟩
 obtain⟨w8,hw8⟩:∃ W,W=w7.alloc (.cells #[.int .i64 3,.int .i64 S1.n,.string S1.name,.slice r1 S1.r.length rc1,.slice k1 S1.kids.length kc1,.slice s1 S1.sys.length sc1] 26):=⟨_,rfl⟩
 have b8:Below w7.heap.size w7 w8:=by rw [hw8];exact belowA _ _
 have zY1:w8.heap[Y1]? = some (.cells #[.int .i64 3,.int .i64 S1.n,.string S1.name,.slice r1 S1.r.length rc1,.slice k1 S1.kids.length kc1,.slice s1 S1.sys.length sc1] 26 (0,0)):=by rw [hw8,hY1];exact heapNew _ _
 have B8:Below w.heap.size w w8:=B7.trans (b8.mono B7.size)
 have Hw8:Hid (_=_):=hw8
 have HY1:Hid (_=_):=hY1
 clear hw8 hY1
 have HY1c:Hid (∀ V,Below w8.heap.size w8 V→V.cell? ⟨Y1,0,none⟩=some (.int .i64 3)):=fun V q=>by have z:=(q.block _ (Array.getElem?_eq_some_iff.1 zY1).1).trans zY1;unfold World.cell?; simp [z]
 clear zY1 ht1 t1 q1
 go_upto_region 2 with fail
 simp only [← HY1.out]
 rw [← Hw8.out]
 have C0:Below w8.heap.size w8 w8:=Below.refl _ _
 obtain⟨R1,hR1⟩:∃ q,q=w8.heap.size:=⟨_,rfl⟩
 obtain⟨w9,hw9⟩:∃ W,W=w8.alloc (.cells #[.int .u32 1,.int .u32 0] 48):=⟨_,rfl⟩
 have b9:Below w8.heap.size w8 w9:=by rw [hw9];exact belowA _ _
 have zR1:w9.heap[R1]? = some (.cells #[.int .u32 1,.int .u32 0] 48 (0,0)):=by rw [hw9,hR1];exact heapNew _ _
 have B9:Below w.heap.size w w9:=B8.trans (b9.mono B8.size)
 have Hw9:Hid (_=_):=hw9
 have HR1:Hid (_=_):=hR1
 clear hw9 hR1
 have C9:Below w8.heap.size w8 w9:=C0.trans (b9.mono C0.size)
 have rA:=xrowA Tt _ _ trivial zR1
 clear zR1
 obtain⟨A3,hA3⟩:∃ q,q=w9.heap.size:=⟨_,rfl⟩
 obtain⟨w10,hw10⟩:∃ W,W=w9.alloc (.cells #[.int .i64 21,.int .i64 0,.string ⟨#[]⟩,.slice (some ⟨R1,0,none⟩) 1 1,.slice none 0 0,.slice none 0 0] 26):=⟨_,rfl⟩
 have b10:Below w9.heap.size w9 w10:=by rw [hw10];exact belowA _ _
 have zA3:w10.heap[A3]? = some (.cells #[.int .i64 21,.int .i64 0,.string ⟨#[]⟩,.slice (some ⟨R1,0,none⟩) 1 1,.slice none 0 0,.slice none 0 0] 26 (0,0)):=by rw [hw10,hA3];exact heapNew _ _
 have B10:Below w.heap.size w w10:=B9.trans (b10.mono B9.size)
 have Hw10:Hid (_=_):=hw10
 have HA3:Hid (_=_):=hA3
 clear hw10 hA3
 have C10:Below w8.heap.size w8 w10:=C9.trans (b10.mono C9.size)
 have rA:=rA.blw b10
 have HA3x:Hid (R1+1=A3):=by show _=_;rw [HA3.out,Hw9.out,World.size_alloc,HR1.out]
 have kL:=kd_one zA3 (ok:=Tt) (x:=xbL) trivial (.mk _ _ _ _ _ _ _ _ _ ⟨by decide,by decide⟩ ⟨by decide,by decide⟩ rA (kd_nil0 _) (sy_nil0 _))
 clear rA zA3
 have cc:=of16_any 12 (some ⟨A3,0,none⟩) 1 1 w10
 go_wp2_with fail
 simp only [← HR1.out]
 rw [← Hw9.out]
 simp only [HA3x.out]
 rw [← Hw10.out]
 refine cc.mono ?_
 rintro e w11 ⟨rfl,b11⟩
 clear cc
 have B11:Below w.heap.size w w11:=B10.trans (b11.mono B10.size)
 have C11:Below w8.heap.size w8 w11:=C10.trans (b11.mono C10.size)
 have kL:=kL.blw b11
 have cc:=of16_any 20 none 0 0 w11
 go_wp2_with fail
 refine cc.mono ?_
 rintro e w12 ⟨rfl,b12⟩
 clear cc
 have B12:Below w.heap.size w w12:=B11.trans (b12.mono B11.size)
 have C12:Below w8.heap.size w8 w12:=C11.trans (b12.mono C11.size)
 have kL:=kL.blw b12
 have cc:=of16_any 20 none 0 0 w12
 go_wp2_with fail
 refine cc.mono ?_
 rintro e w13 ⟨rfl,b13⟩
 clear cc
 have B13:Below w.heap.size w w13:=B12.trans (b13.mono B12.size)
 have C13:Below w8.heap.size w8 w13:=C12.trans (b13.mono C12.size)
 have kL:=kL.blw b13
 obtain⟨A4,hA4⟩:∃ q,q=w13.heap.size:=⟨_,rfl⟩
 obtain⟨w14,hw14⟩:∃ W,W=w13.alloc (.cells #[.int .i64 12,.int .i64 0,.string ⟨#[]⟩,.slice none 0 0,.slice (some ⟨A3,0,none⟩) 1 1,.slice none 0 0,.int .i64 20,.int .i64 0,.string ⟨#[]⟩,.slice none 0 0,.slice none 0 0,.slice none 0 0,.int .i64 20,.int .i64 0,.string ⟨#[]⟩,.slice none 0 0,.slice none 0 0,.slice none 0 0] 26):=⟨_,rfl⟩
 have b14:Below w13.heap.size w13 w14:=by rw [hw14];exact belowA _ _
 have zA4:w14.heap[A4]? = some (.cells #[.int .i64 12,.int .i64 0,.string ⟨#[]⟩,.slice none 0 0,.slice (some ⟨A3,0,none⟩) 1 1,.slice none 0 0,.int .i64 20,.int .i64 0,.string ⟨#[]⟩,.slice none 0 0,.slice none 0 0,.slice none 0 0,.int .i64 20,.int .i64 0,.string ⟨#[]⟩,.slice none 0 0,.slice none 0 0,.slice none 0 0] 26 (0,0)):=by rw [hw14,hA4];exact heapNew _ _
 have B14:Below w.heap.size w w14:=B13.trans (b14.mono B13.size)
 have Hw14:Hid (_=_):=hw14
 have HA4:Hid (_=_):=hA4
 clear hw14 hA4
 have C14:Below w8.heap.size w8 w14:=C13.trans (b14.mono C13.size)
 have kL:=kL.blw b14
 have kP:=kd_three zA4 (ok:=Tt) trivial (mk_in (k:=12) ⟨by decide,by decide⟩ kL) (mk_in (k:=20) (l:=[]) ⟨by decide,by decide⟩ (kd_nil0 _)) (mk_in (k:=20) (l:=[]) ⟨by decide,by decide⟩ (kd_nil0 _))
 clear kL zA4
 have cc:=of16_any 13 (some ⟨A4,0,none⟩) 3 3 w14
 go_wp2_with fail
 simp only [← HA4.out]
 rw [← Hw14.out]
 refine cc.mono ?_
 rintro e w15 ⟨rfl,b15⟩
 clear cc
 have B15:Below w.heap.size w w15:=B14.trans (b15.mono B14.size)
 have C15:Below w8.heap.size w8 w15:=C14.trans (b15.mono C14.size)
 have kP:=kP.blw b15
 have kP:=kP.ltA (ok':=fun q=>q<w15.heap.size) (fun q _ h=>h)
 obtain⟨P,hP⟩:∃ q,q=w15.heap.size:=⟨_,rfl⟩
 obtain⟨w16,hw16⟩:∃ W,W=w15.alloc (.cells #[.int .i64 13,.int .i64 0,.string ⟨#[]⟩,.slice none 0 0,.slice (some ⟨A4,0,none⟩) 3 3,.slice none 0 0] 26):=⟨_,rfl⟩
 have b16:Below w15.heap.size w15 w16:=by rw [hw16];exact belowA _ _
 have zP:w16.heap[P]? = some (.cells #[.int .i64 13,.int .i64 0,.string ⟨#[]⟩,.slice none 0 0,.slice (some ⟨A4,0,none⟩) 3 3,.slice none 0 0] 26 (0,0)):=by rw [hw16,hP];exact heapNew _ _
 have B16:Below w.heap.size w w16:=B15.trans (b16.mono B15.size)
 have Hw16:Hid (_=_):=hw16
 have HP:Hid (_=_):=hP
 clear hw16 hP
 have C16:Below w8.heap.size w8 w16:=C15.trans (b16.mono C15.size)
 have kP:=kP.blw b16
 have xP:Six w16 P (.int .i64 13) (.int .i64 0) (.string ⟨#[]⟩) (.slice none 0 0) (.slice (some ⟨A4,0,none⟩) 3 3) (.slice none 0 0):=⟨zP⟩
 clear zP
 go_upto_region 3 with fail
 simp only [← HP.out]
 rw [← Hw16.out]
 have xPo:=xP
 obtain⟨R2,hR2⟩:∃ q,q=w16.heap.size:=⟨_,rfl⟩
 obtain⟨w17,hw17⟩:∃ W,W=w16.alloc (.cells #[.int .u32 0,.int .u32 2] 48):=⟨_,rfl⟩
 have b17:Below w16.heap.size w16 w17:=by rw [hw17];exact belowA _ _
 have zR2:w17.heap[R2]? = some (.cells #[.int .u32 0,.int .u32 2] 48 (0,0)):=by rw [hw17,hR2];exact heapNew _ _
 have B17:Below w.heap.size w w17:=B16.trans (b17.mono B16.size)
 have Hw17:Hid (_=_):=hw17
 have HR2:Hid (_=_):=hR2
 clear hw17 hR2
 have C17:Below w8.heap.size w8 w17:=C16.trans (b17.mono C16.size)
 have kP:=kP.blw b17
 have xP:=xP.blw b17
 have hPb:w.heap.size≤P∧w8.heap.size≤P:=⟨by rw [HP.out];exact B15.size,by rw [HP.out];exact C15.size⟩
 have rB:=xrowB (fun q=>q≠P) _ _ (by have:=xPo.lt;show R2≠P;have:=HR2.out;omega) zR2
 clear zR2
 obtain⟨w18,hw18⟩:∃ W,W=w17.setCell ⟨P,3,none⟩ (.slice (some ⟨R2,0,none⟩) 1 1):=⟨_,rfl⟩
 have kz:Kn (fun q=>q≠P) w17 w18:=by rw [hw18];exact kn_set _ _ _ _
 have xP2:Six w18 P (.int .i64 13) (.int .i64 0) (.string ⟨#[]⟩) (.slice (some ⟨R2,0,none⟩) 1 1) (.slice (some ⟨A4,0,none⟩) 3 3) (.slice none 0 0):=by rw [hw18];exact xP.set3 _
 obtain⟨y0,y1,y2,y3,y4,y5,ff⟩:=xP.cells
 have f3:=ff 3
 have B18:Below w.heap.size w w18:=B17.trans (kz.below (fun q hq=>by show q≠P;omega) B17.size)
 have C18:Below w8.heap.size w8 w18:=C17.trans (kz.below (fun q hq=>by show q≠P;omega) C17.size)
 have tmP:TmIn Tt w18 xbP (.agg #[.int .i64 13,.int .i64 0,.string ⟨#[]⟩,.slice (some ⟨R2,0,none⟩) 1 1,.slice (some ⟨A4,0,none⟩) 3 3,.slice none 0 0]):=.mk _ _ _ _ _ _ _ _ _ ⟨by decide,by decide⟩ ⟨by decide,by decide⟩ ((rB.keep kz.size (fun q h=>h) (fun q h hs=>kz.block q h hs)).keep (Nat.le_refl _) (fun _ _=>trivial) (fun _ _ _=>rfl)) ((kP.kn kz (fun q h=>by have:=HP.out;show q≠P;omega)).all (Nat.le_refl _) (fun _ _=>trivial) (fun _ _ _=>rfl)) (sy_nil _ _ _)
 have Hw18:Hid (_=_):=hw18
 clear hw18 kz ff rB kP xP
 rw [Hw17.out] at y0 y1 y2 y3 y4 y5 f3
 go_upto_region 4 with fail
 simp only [← HR2.out]
 rw [← Hw17.out]
 rw [← Hw18.out]
 clear y0 y1 y2 y3 y4 y5 f3
 obtain⟨y0,y1,y2,y3,y4,y5,_⟩:=xP2.cells
 obtain⟨S2,hS2⟩:∃ S,S=stT 6 (takE 0 xbP.r xbL) xbP (takT 0 xbP.r xbL):=⟨_,rfl⟩
 have q2:S2.kind=21:=by rw [hS2];exact e_papp.2.2.1
 have q3:S2.r=[((0,2):C)]:=by rw [hS2];exact e_papp.2.2.2
 have c2:=st_papp _ w18 tmP
 rw [e_papp.1,e_papp.2.1,← hS2] at c2
 clear hS2
 go_wp2_with fail
 refine c2.mono ?_
 rintro e w19 ⟨v2,rfl,t2,b19⟩
 clear c2 tmP xP2 y0 y1 y2 y3 y4 y5
 have B19:Below w.heap.size w w19:=B18.trans (b19.mono B18.size)
 obtain⟨r2,rc2,k2,kc2,s2,sc2,rfl,ht2⟩:=t2.tt.form
 have hr2:=ht2.row
 rw [q3] at hr2
 rw [q2,q3]
 simp only [List.length_cons,List.length_nil,Nat.zero_add] at hr2 ⊢
 have C19:Below w8.heap.size w8 w19:=C18.trans (b19.mono C18.size)
 obtain⟨Y2,hY2⟩:∃ q,q=w19.heap.size:=⟨_,rfl⟩
 obtain⟨w20,hw20⟩:∃ W,W=w19.alloc (.cells #[.int .i64 21,.int .i64 S2.n,.string S2.name,.slice r2 1 rc2,.slice k2 S2.kids.length kc2,.slice s2 S2.sys.length sc2] 26):=⟨_,rfl⟩
 have b20:Below w19.heap.size w19 w20:=by rw [hw20];exact belowA _ _
 have zY2:w20.heap[Y2]? = some (.cells #[.int .i64 21,.int .i64 S2.n,.string S2.name,.slice r2 1 rc2,.slice k2 S2.kids.length kc2,.slice s2 S2.sys.length sc2] 26 (0,0)):=by rw [hw20,hY2];exact heapNew _ _
 have B20:Below w.heap.size w w20:=B19.trans (b20.mono B19.size)
 have Hw20:Hid (_=_):=hw20
 have HY2:Hid (_=_):=hY2
 clear hw20 hY2
 have C20:Below w8.heap.size w8 w20:=C19.trans (b20.mono C19.size)
 have HY2c:Hid (∀ V,Below w20.heap.size w20 V→V.cell? ⟨Y2,0,none⟩=some (.int .i64 21)∧V.cell? ⟨Y2,3,none⟩=some (.slice r2 1 rc2)∧ClRow Tt V [((0,2):C)] (.slice r2 1 rc2)):=fun V q=>by
  have z:=(q.block _ (Array.getElem?_eq_some_iff.1 zY2).1).trans zY2
  refine⟨by unfold World.cell?; simp [z],by unfold World.cell?; simp [z],(hr2.blw b20).blw q⟩
 clear zY2 ht2 hr2 t2 q2 q3
 go_upto_region 5 with fail
 simp only [← HY2.out]
 rw [← Hw20.out]
 have D0:Below w20.heap.size w20 w20:=Below.refl _ _
 have cc:=of16_any 3 none 0 0 w20
 go_wp2_with fail
 refine cc.mono ?_
 rintro e w21 ⟨rfl,b21⟩
 clear cc
 have B21:Below w.heap.size w w21:=B20.trans (b21.mono B20.size)
 have C21:Below w8.heap.size w8 w21:=C20.trans (b21.mono C20.size)
 have D21:Below w20.heap.size w20 w21:=D0.trans (b21.mono D0.size)
 have c3:=st_univ _ w21 (mk_in (k:=3) (l:=[]) ⟨by decide,by decide⟩ (kd_nil0 _))
 rw [e_univ.1,e_univ.2] at c3
 go_wp2_with fail
 refine c3.mono ?_
 rintro e w22 ⟨v3,rfl,t3,b22⟩
 clear c3
 have B22:Below w.heap.size w w22:=B21.trans (b22.mono B21.size)
 obtain⟨r3,rc3,k3,kc3,s3,sc3,rfl,ht3⟩:=t3.tt.form
 obtain⟨S3,hS3⟩:∃ S,S=stT 0 0 xbU zeroT:=⟨_,rfl⟩
 rw [← hS3]
 clear ht3 t3 hS3
 have C22:Below w8.heap.size w8 w22:=C21.trans (b22.mono C21.size)
 have D22:Below w20.heap.size w20 w22:=D21.trans (b22.mono D21.size)
 obtain⟨Y3,hY3⟩:∃ q,q=w22.heap.size:=⟨_,rfl⟩
 obtain⟨w23,hw23⟩:∃ W,W=w22.alloc (.cells #[.int .i64 S3.kind,.int .i64 S3.n,.string S3.name,.slice r3 S3.r.length rc3,.slice k3 S3.kids.length kc3,.slice s3 S3.sys.length sc3] 26):=⟨_,rfl⟩
 have b23:Below w22.heap.size w22 w23:=by rw [hw23];exact belowA _ _
 have zY3:w23.heap[Y3]? = some (.cells #[.int .i64 S3.kind,.int .i64 S3.n,.string S3.name,.slice r3 S3.r.length rc3,.slice k3 S3.kids.length kc3,.slice s3 S3.sys.length sc3] 26 (0,0)):=by rw [hw23,hY3];exact heapNew _ _
 have B23:Below w.heap.size w w23:=B22.trans (b23.mono B22.size)
 have Hw23:Hid (_=_):=hw23
 have HY3:Hid (_=_):=hY3
 clear hw23 hY3
 have C23:Below w8.heap.size w8 w23:=C22.trans (b23.mono C22.size)
 have D23:Below w20.heap.size w20 w23:=D22.trans (b23.mono D22.size)
 clear zY3
 go_upto_region 6 with fail
 simp only [← HY3.out]
 rw [← Hw23.out]
 obtain⟨R4,hR4⟩:∃ q,q=w23.heap.size:=⟨_,rfl⟩
 obtain⟨w24,hw24⟩:∃ W,W=w23.alloc (.cells #[.int .u32 0,.int .u32 2] 48):=⟨_,rfl⟩
 have b24:Below w23.heap.size w23 w24:=by rw [hw24];exact belowA _ _
 have zR4:w24.heap[R4]? = some (.cells #[.int .u32 0,.int .u32 2] 48 (0,0)):=by rw [hw24,hR4];exact heapNew _ _
 have B24:Below w.heap.size w w24:=B23.trans (b24.mono B23.size)
 have Hw24:Hid (_=_):=hw24
 have HR4:Hid (_=_):=hR4
 clear hw24 hR4
 have rC:=xrowB Tt _ _ trivial zR4
 clear zR4
 have y0:=HY1c.out w23 C23
 obtain⟨p0,p3,_⟩:=HY2c.out w23 D23
 have C24:Below w8.heap.size w8 w24:=C23.trans (b24.mono C23.size)
 have D24:Below w20.heap.size w20 w24:=D23.trans (b24.mono D23.size)
 have c4:=same_any [((0,2):C)] [((0,2):C)] _ _ w24 (HY2c.out w24 D24).2.2.row rC.row (by simp)
 rw [decide_eq_true rfl] at c4
 go_wp2_with fail
 simp only [← HR4.out]
 rw [← Hw24.out]
 refine c4.mono ?_
 rintro e wE ⟨rfl,bE⟩
 clear c4 rC y0 p0 p3
 have hF:=B24.trans (bE.mono B24.size)
 go_wp2_with fail
 go_ret
 exact⟨rfl,hF⟩
end Go.Proofs.YtmblbmdchinflaaGreat
