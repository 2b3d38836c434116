/- A part of the proof. -/
import Derived.Test.YtblbhmnahoiecaaGreatHG31
set_option linter.unusedVariables false
set_option linter.unusedSimpArgs false
set_option maxRecDepth 100000
set_option maxHeartbeats 8000000
namespace Go.Proofs.YtblbhmnahoiecaaGreat
open Go.RowKit
def cP (n:Fin 4294967296):C:=(n,0)
def wU:Tm:=.mk 3 0 ⟨#[]⟩ [] [] []
def wA:Tm:=.mk 21 0 ⟨#[]⟩ [cP 1] [] []
def wA2:Tm:=.mk 21 0 ⟨#[]⟩ [cP 2] [] []
def wB:Tm:=.mk 21 0 ⟨#[]⟩ [cP 1,cP 2] [] []
def wH:Tm:=.mk 15 0 ⟨#[]⟩ [] [wU,wU] [([cP 1],[wU])]
def wH2:Tm:=.mk 15 0 ⟨#[]⟩ [] [wU,wU] []
theorem wk_pE:putE 0 [cP 2] wA=0:=by decide +kernel
theorem wk_pT:putT' 0 [cP 2] wA=wA2:=by kernel_rfl
theorem wk_tE:takE 0 [] wB=0:=by decide +kernel
theorem wk_tT:takT 0 [] wB=wA:=by kernel_rfl
theorem wk_u:undA ((0,1):C) wH=(wH2,0):=by kernel_rfl
theorem wk_b1:blk wA<=20000:=by decide +kernel
theorem wk_b2:blk wB<=20000:=by decide +kernel
theorem wk_b3:blk wH<=20000/\capT wH<=40000/\capT wB<=40000:=by decide +kernel
theorem wrow1_in (w:World) (g:Nat) (n:Fin 4294967296) (h:w.heap[g]? = some (.cells #[.int .u32 (n.val:Int),.int .u32 0] 38 (0,0))):ClRow Tt w [cP n] (.slice (some ⟨g,0,none⟩) 1 1):=by
 refine⟨_,_,rfl,Nat.le_refl _,fun j x hx=>?_⟩
 have hj:j=0:=by have:=some_lt hx;simp at this;omega
 subst hj
 simp only [List.getElem?_cons_zero,Option.some.injEq] at hx
 subst hx
 refine⟨g,0,rfl,trivial,(Array.getElem?_eq_some_iff.1 h).1,?_,?_⟩ <;> (unfold World.cell?; simp [h,cP])
theorem wrow2_in (w:World) (g:Nat) (h:w.heap[g]? = some (.cells #[.int .u32 1,.int .u32 0,.int .u32 2,.int .u32 0] 38 (0,0))):ClRow Tt w [cP 1,cP 2] (.slice (some ⟨g,0,none⟩) 2 2):=by
 refine⟨_,_,rfl,Nat.le_refl _,fun j x hx=>?_⟩
 have hj:j=0\/j=1:=by have:=some_lt hx;simp at this;omega
 rcases hj with rfl|rfl
 ·simp only [List.getElem?_cons_zero,Option.some.injEq] at hx
  subst hx
  refine⟨g,0,rfl,trivial,(Array.getElem?_eq_some_iff.1 h).1,?_,?_⟩ <;> (unfold World.cell?; simp [h,cP])
 ·simp only [List.getElem?_cons_succ,List.getElem?_cons_zero,Option.some.injEq] at hx
  subst hx
  refine⟨g,0,rfl,trivial,(Array.getElem?_eq_some_iff.1 h).1,?_,?_⟩ <;> (unfold World.cell?; simp [h,cP])
theorem wU_in (w:World):TmIn Tt w wU (.agg #[.int .i64 3,.int .i64 0,.string ⟨#[]⟩,.slice none 0 0,.slice none 0 0,.slice none 0 0]) :=
 .mk _ _ _ _ _ _ _ _ _ ⟨by decide,by decide⟩ ⟨by decide,by decide⟩ (cl_nil0 w) (kd_nil0 w) (sy_nil0 w)
theorem wLoop_in (w:World) (l:List C) (a:Option Addr) (n c:Nat) (h:ClRow Tt w l (.slice a n c)):TmIn Tt w (.mk 21 0 ⟨#[]⟩ l [] []) (.agg #[.int .i64 21,.int .i64 0,.string ⟨#[]⟩,.slice a n c,.slice none 0 0,.slice none 0 0]) :=
 .mk _ _ _ _ _ _ _ _ _ ⟨by decide,by decide⟩ ⟨by decide,by decide⟩ h (kd_nil0 w) (sy_nil0 w)
theorem wKids1 (w:World) (g:Nat) (h:w.heap[g]? = some (.cells #[.int .i64 3,.int .i64 0,.string ⟨#[]⟩,.slice none 0 0,.slice none 0 0,.slice none 0 0] 26 (0,0))):KdT Tt w (TmIn Tt w) [wU] (.slice (some ⟨g,0,none⟩) 1 1):=by
 refine⟨_,_,rfl,Nat.le_refl _,fun j x hx=>?_⟩
 have hj:j=0:=by have:=some_lt hx;simp at this;omega
 subst hj
 simp only [List.getElem?_cons_zero,Option.some.injEq] at hx
 subst hx
 refine⟨g,0,_,_,_,_,_,_,rfl,trivial,(Array.getElem?_eq_some_iff.1 h).1,wU_in w,?_,?_,?_,?_,?_,?_⟩ <;> (unfold World.cell?; simp [h])
theorem wKids2 (w:World) (g:Nat) (h:w.heap[g]? = some (.cells #[.int .i64 3,.int .i64 0,.string ⟨#[]⟩,.slice none 0 0,.slice none 0 0,.slice none 0 0,.int .i64 3,.int .i64 0,.string ⟨#[]⟩,.slice none 0 0,.slice none 0 0,.slice none 0 0] 26 (0,0))):KdT Tt w (TmIn Tt w) [wU,wU] (.slice (some ⟨g,0,none⟩) 2 2):=by
 refine⟨_,_,rfl,Nat.le_refl _,fun j x hx=>?_⟩
 have hj:j=0\/j=1:=by have:=some_lt hx;simp at this;omega
 rcases hj with rfl|rfl
 ·simp only [List.getElem?_cons_zero,Option.some.injEq] at hx
  subst hx
  refine⟨g,0,_,_,_,_,_,_,rfl,trivial,(Array.getElem?_eq_some_iff.1 h).1,wU_in w,?_,?_,?_,?_,?_,?_⟩ <;> (unfold World.cell?; simp [h])
 ·simp only [List.getElem?_cons_succ,List.getElem?_cons_zero,Option.some.injEq] at hx
  subst hx
  refine⟨g,0,_,_,_,_,_,_,rfl,trivial,(Array.getElem?_eq_some_iff.1 h).1,wU_in w,?_,?_,?_,?_,?_,?_⟩ <;> (unfold World.cell?; simp [h])
theorem wH_in (w:World) (g1 g2 g3 g4:Nat) (h1:w.heap[g1]? = some (.cells #[.int .i64 3,.int .i64 0,.string ⟨#[]⟩,.slice none 0 0,.slice none 0 0,.slice none 0 0,.int .i64 3,.int .i64 0,.string ⟨#[]⟩,.slice none 0 0,.slice none 0 0,.slice none 0 0] 26 (0,0)))
  (h2:w.heap[g2]? = some (.cells #[.int .u32 1,.int .u32 0] 38 (0,0))) (h3:w.heap[g3]? = some (.cells #[.int .i64 3,.int .i64 0,.string ⟨#[]⟩,.slice none 0 0,.slice none 0 0,.slice none 0 0] 26 (0,0)))
  (h4:w.heap[g4]? = some (.cells #[.slice (some ⟨g2,0,none⟩) 1 1,.slice (some ⟨g3,0,none⟩) 1 1] 40 (0,0))) :
  TmIn Tt w wH (.agg #[.int .i64 15,.int .i64 0,.string ⟨#[]⟩,.slice none 0 0,.slice (some ⟨g1,0,none⟩) 2 2,.slice (some ⟨g4,0,none⟩) 1 1]):=by
 refine .mk _ _ _ _ _ _ _ _ _ ⟨by decide,by decide⟩ ⟨by decide,by decide⟩ (cl_nil0 w) (wKids2 w g1 h1) ⟨_,_,rfl,Nat.le_refl _,fun j x hx=>?_⟩
 have hj:j=0:=by have:=some_lt hx;simp at this;omega
 subst hj
 simp only [List.getElem?_cons_zero,Option.some.injEq] at hx
 subst hx
 refine⟨g4,0,_,_,rfl,trivial,(Array.getElem?_eq_some_iff.1 h4).1,wrow1_in w g2 1 h2,wKids1 w g3 h3,?_,?_⟩ <;> (unfold World.cell?; simp [h4])
theorem loop_any (a:Option Addr) (n c:Nat) (w:World):Calls Tryz.prog 36 #[.slice a n c] w fun e w'=>e=.returned (.agg #[.int .i64 21,.int .i64 0,.string ⟨#[]⟩,.slice a n c,.slice none 0 0,.slice none 0 0])/\Below w.heap.size w w':=by
 obtain⟨w1,hw1⟩:∃ W,W=w.alloc (.cells #[.int .i64 21,.int .i64 0,.string ⟨#[]⟩,.slice a n c,.slice none 0 0,.slice none 0 0] 26):=⟨_,rfl⟩
 have b1:Below w.heap.size w w1:=by rw [hw1];exact belowA _ _
 have m1:Six w1 w.heap.size (.int .i64 21) (.int .i64 0) (.string ⟨#[]⟩) (.slice a n c) (.slice none 0 0) (.slice none 0 0):=⟨by rw [hw1];exact heapNew _ _⟩
 obtain⟨h0,h1,h2,h3,h4,h5,_⟩:=m1.cells
 have H1:Hid (_=_):=hw1
 clear hw1 m1
 go_enter Tryz.func36,Tryz.ntmps36
 go_wp2_with fail
 rw [<- H1.out]
 exact bodyPost_ret (v:=.agg #[.int .i64 21,.int .i64 0,.string ⟨#[]⟩,.slice a n c,.slice none 0 0,.slice none 0 0]) (by simp only [results,Tryz.results36];simp [go_sem,h0,h1,h2,h3,h4,h5]) rfl ⟨rfl,b1⟩
theorem works13_any (w:World):Calls Tryz.prog 8 #[] w fun e w'=>e=.returned (.bool true)/\Below w.heap.size w w':=by
 obtain⟨w1,hw1⟩:∃ W,W=w.alloc (.cells #[.int .u32 1,.int .u32 0] 38):=⟨_,rfl⟩
 have b1:Below w.heap.size w w1:=by rw [hw1];exact belowA _ _
 have m1:w1.heap[w.heap.size]? = some (.cells #[.int .u32 1,.int .u32 0] 38 (0,0)):=by rw [hw1];exact heapNew _ _
 have c1:=loop_any (some ⟨w.heap.size,0,none⟩) 1 1 w1
 obtain⟨X,hX⟩:∃ X,X=w.heap.size:=⟨_,rfl⟩
 rw [<- hX] at c1 m1
 have H1:Hid (_=_):=hw1
 have HX:Hid (X=w.heap.size):=hX
 have B1:Below X w w1:=by rw [hX];exact b1
 rw [<- hX]
 clear hw1 hX b1
 go_enter Tryz.func8,Tryz.ntmps8
 go_wp2_with fail
 simp only [<- HX.out]
 rw [<- H1.out]
 refine c1.mono ?_
 rintro e w2 ⟨rfl,b2⟩
 clear c1 H1
 obtain⟨w3,hw3⟩:∃ W,W=w2.alloc (.cells #[.int .u32 2,.int .u32 0] 38):=⟨_,rfl⟩
 have b3:Below w2.heap.size w2 w3:=by rw [hw3];exact belowA _ _
 have m3:w3.heap[w2.heap.size]? = some (.cells #[.int .u32 2,.int .u32 0] 38 (0,0)):=by rw [hw3];exact heapNew _ _
 have b13:=bchain b2 b3
 have r1:=(wrow1_in w1 X 1 m1).blw b13
 have c3:=dput_any wA _ w3 (wLoop_in w3 [cP 1] _ _ _ r1) wk_b1 0 [cP 2] _ (wrow1_in w3 w2.heap.size 2 m3) (by simp)
 rw [wk_pE,wk_pT] at c3
 have B3:Below X w w3:=B1.trans (b13.mono (by have:=B1.size;have:=HX.out;omega))
 have H3:Hid (_=_):=hw3
 clear hw3 r1 m1 m3
 go_wp2_with fail
 rw [<- H3.out]
 refine c3.mono ?_
 rintro e w4 ⟨v4,rfl,hv4,b4⟩
 clear c3 H3
 obtain⟨ra4,rc4,ka4,kc4,sa4,sc4,rfl,ht4⟩:=hv4.form
 obtain⟨w5,hw5⟩:∃ W,W=w4.alloc (.cells #[.int .i64 21,.int .i64 0,.string ⟨#[]⟩,.slice ra4 1 rc4,.slice ka4 0 kc4,.slice sa4 0 sc4] 26):=⟨_,rfl⟩
 obtain⟨A,hA⟩:∃ A,A=w4.heap.size:=⟨_,rfl⟩
 have b5:Below w4.heap.size w4 w5:=by rw [hw5];exact belowA _ _
 have n5:Six w5 A (.int .i64 21) (.int .i64 0) (.string ⟨#[]⟩) (.slice ra4 1 rc4) (.slice ka4 0 kc4) (.slice sa4 0 sc4):=⟨by rw [hw5,hA];exact heapNew _ _⟩
 have b35:=bchain b4 b5
 have B5:Below X w w5:=B3.trans (b35.mono (by have:=B3.size;have:=HX.out;omega))
 have HRa:Hid (ClRow Tt w5 [cP 2] (.slice ra4 1 rc4)):=((ht4.blw b5).row).keep (Nat.le_refl _) (fun _ _=>trivial) (fun _ _ _=>rfl)
 have H5:Hid (_=_):=hw5
 have HA:Hid (A=w4.heap.size):=hA
 clear hw5 hA hv4 ht4 b4 b5 b35
 simp only [wA2,List.length_cons,List.length_nil,Nat.zero_add]
 go_upto_region 2 with fail
 simp only [<- HA.out]
 rw [<- H5.out]
 clear H5
 obtain⟨w6,hw6⟩:∃ W,W=w5.alloc (.cells #[.int .u32 1,.int .u32 0,.int .u32 2,.int .u32 0] 38):=⟨_,rfl⟩
 obtain⟨Y,hY⟩:∃ Y,Y=w5.heap.size:=⟨_,rfl⟩
 have b6:Below w5.heap.size w5 w6:=by rw [hw6];exact belowA _ _
 have m6:w6.heap[Y]? = some (.cells #[.int .u32 1,.int .u32 0,.int .u32 2,.int .u32 0] 38 (0,0)):=by rw [hw6,hY];exact heapNew _ _
 have c6:=loop_any (some ⟨Y,0,none⟩) 2 2 w6
 have H6:Hid (_=_):=hw6
 have HY:Hid (Y=w5.heap.size):=hY
 clear hw6 hY
 go_wp2_with fail
 simp only [<- HY.out]
 rw [<- H6.out]
 refine c6.mono ?_
 rintro e w7 ⟨rfl,b7⟩
 clear c6 H6
 have b57:=bchain b6 b7
 have c7:=dtake_any wB _ w7 (wLoop_in w7 [cP 1,cP 2] _ _ _ ((wrow2_in w6 Y m6).blw b7)) wk_b2 0 [] (.slice none 0 0) (cl_nil0 w7) (by simp) (Nat.le_trans (cap_ge _).1 (Nat.le_trans (cap_ans (putOp_len _ _) _) wk_b3.2.2))
 rw [wk_tE,wk_tT] at c7
 go_wp2_with fail
 refine c7.mono ?_
 rintro e w8 ⟨v8,rfl,hv8,b8⟩
 clear c7
 obtain⟨ra8,rc8,ka8,kc8,sa8,sc8,rfl,ht8⟩:=hv8.form
 obtain⟨w9,hw9⟩:∃ W,W=w8.alloc (.cells #[.int .i64 21,.int .i64 0,.string ⟨#[]⟩,.slice ra8 1 rc8,.slice ka8 0 kc8,.slice sa8 0 sc8] 26):=⟨_,rfl⟩
 obtain⟨D,hD⟩:∃ A,A=w8.heap.size:=⟨_,rfl⟩
 have b9:Below w8.heap.size w8 w9:=by rw [hw9];exact belowA _ _
 have n9:Six w9 D (.int .i64 21) (.int .i64 0) (.string ⟨#[]⟩) (.slice ra8 1 rc8) (.slice ka8 0 kc8) (.slice sa8 0 sc8):=⟨by rw [hw9,hD];exact heapNew _ _⟩
 have b59:=bchain (bchain b57 b8) b9
 have HRb:Hid (ClRow Tt w9 [cP 1] (.slice ra8 1 rc8)):=((ht8.blw b9).row).keep (Nat.le_refl _) (fun _ _=>trivial) (fun _ _ _=>rfl)
 have H9:Hid (_=_):=hw9
 have HD:Hid (D=w8.heap.size):=hD
 clear hw9 hD hv8 ht8 b8 b9 b57 b6 b7 m6
 simp only [wA,List.length_cons,List.length_nil,Nat.zero_add]
 go_upto_region 3 with fail
 simp only [<- HD.out]
 rw [<- H9.out]
 clear H9
 obtain⟨U,hU⟩:∃ U,U=w9.heap.size:=⟨_,rfl⟩
 obtain⟨wu,hwu⟩:∃ W,W=w9.alloc (.cells #[.int .i64 3,.int .i64 0,.string ⟨#[]⟩,.slice none 0 0,.slice none 0 0,.slice none 0 0] 26):=⟨_,rfl⟩
 have bu:Below w9.heap.size w9 wu:=by rw [hwu];exact belowA _ _
 have nu:Six wu U (.int .i64 3) (.int .i64 0) (.string ⟨#[]⟩) (.slice none 0 0) (.slice none 0 0) (.slice none 0 0):=⟨by rw [hwu,hU];exact heapNew _ _⟩
 have Hu:Hid (_=_):=hwu
 have HU:Hid (U=w9.heap.size):=hU
 have su:wu.heap.size=U+1:=by rw [hwu,hU];simp
 clear hwu hU
 go_upto_region 4 with fail
 simp only [<- HU.out]
 rw [<- Hu.out]
 clear Hu
 obtain⟨wv,hwv⟩:∃ W,W=(((wu.alloc (.cells #[.int .i64 3,.int .i64 0,.string ⟨#[]⟩,.slice none 0 0,.slice none 0 0,.slice none 0 0,.int .i64 3,.int .i64 0,.string ⟨#[]⟩,.slice none 0 0,.slice none 0 0,.slice none 0 0] 26)).alloc (.cells #[.int .u32 1,.int .u32 0] 38)).alloc (.cells #[.int .i64 3,.int .i64 0,.string ⟨#[]⟩,.slice none 0 0,.slice none 0 0,.slice none 0 0] 26)).alloc (.cells #[.slice (some ⟨U+2,0,none⟩) 1 1,.slice (some ⟨U+3,0,none⟩) 1 1] 40):=⟨_,rfl⟩
 have bv:Below wu.heap.size wu wv:=by rw [hwv];exact bchain (bchain (bchain (belowA _ _) (belowA _ _)) (belowA _ _)) (belowA _ _)
 have k1:wv.heap[U+1]? = some (.cells #[.int .i64 3,.int .i64 0,.string ⟨#[]⟩,.slice none 0 0,.slice none 0 0,.slice none 0 0,.int .i64 3,.int .i64 0,.string ⟨#[]⟩,.slice none 0 0,.slice none 0 0,.slice none 0 0] 26 (0,0)):=by
  rw [hwv,<- su];exact (Below.heap_alloc _ _ _ (by simp;omega)).trans ((Below.heap_alloc _ _ _ (by simp;omega)).trans ((Below.heap_alloc _ _ _ (by simp)).trans (heapNew wu _)))
 have k2:wv.heap[U+2]? = some (.cells #[.int .u32 1,.int .u32 0] 38 (0,0)):=by
  rw [hwv];refine (Below.heap_alloc _ _ _ (by simp;omega)).trans ((Below.heap_alloc _ _ _ (by simp;omega)).trans ?_)
  have:=heapNew (wu.alloc (.cells #[.int .i64 3,.int .i64 0,.string ⟨#[]⟩,.slice none 0 0,.slice none 0 0,.slice none 0 0,.int .i64 3,.int .i64 0,.string ⟨#[]⟩,.slice none 0 0,.slice none 0 0,.slice none 0 0] 26)) (.cells #[.int .u32 1,.int .u32 0] 38);rwa [World.size_alloc,su] at this
 have k3:wv.heap[U+3]? = some (.cells #[.int .i64 3,.int .i64 0,.string ⟨#[]⟩,.slice none 0 0,.slice none 0 0,.slice none 0 0] 26 (0,0)):=by
  rw [hwv];refine (Below.heap_alloc _ _ _ (by simp;omega)).trans ?_
  have:=heapNew ((wu.alloc (.cells #[.int .i64 3,.int .i64 0,.string ⟨#[]⟩,.slice none 0 0,.slice none 0 0,.slice none 0 0,.int .i64 3,.int .i64 0,.string ⟨#[]⟩,.slice none 0 0,.slice none 0 0,.slice none 0 0] 26)).alloc (.cells #[.int .u32 1,.int .u32 0] 38)) (.cells #[.int .i64 3,.int .i64 0,.string ⟨#[]⟩,.slice none 0 0,.slice none 0 0,.slice none 0 0] 26);rwa [World.size_alloc,World.size_alloc,su] at this
 have k4:wv.heap[U+4]? = some (.cells #[.slice (some ⟨U+2,0,none⟩) 1 1,.slice (some ⟨U+3,0,none⟩) 1 1] 40 (0,0)):=by
  rw [hwv]
  have:=heapNew (((wu.alloc (.cells #[.int .i64 3,.int .i64 0,.string ⟨#[]⟩,.slice none 0 0,.slice none 0 0,.slice none 0 0,.int .i64 3,.int .i64 0,.string ⟨#[]⟩,.slice none 0 0,.slice none 0 0,.slice none 0 0] 26)).alloc (.cells #[.int .u32 1,.int .u32 0] 38)).alloc (.cells #[.int .i64 3,.int .i64 0,.string ⟨#[]⟩,.slice none 0 0,.slice none 0 0,.slice none 0 0] 26)) (.cells #[.slice (some ⟨U+2,0,none⟩) 1 1,.slice (some ⟨U+3,0,none⟩) 1 1] 40);rwa [World.size_alloc,World.size_alloc,World.size_alloc,su] at this
 have cu:=under_any wH _ wv (wH_in wv (U+1) (U+2) (U+3) (U+4) k1 k2 k3 k4) wk_b3.1 wk_b3.2.1 ((0,1):C)
 rw [wk_u] at cu
 dsimp only at cu
 obtain⟨y0,y1,y2,y3,y4,y5,_⟩:=nu.cells
 have nu2:Six ((wu.alloc (.cells #[.int .i64 3,.int .i64 0,.string ⟨#[]⟩,.slice none 0 0,.slice none 0 0,.slice none 0 0,.int .i64 3,.int .i64 0,.string ⟨#[]⟩,.slice none 0 0,.slice none 0 0,.slice none 0 0] 26)).alloc (.cells #[.int .u32 1,.int .u32 0] 38)) U (.int .i64 3) (.int .i64 0) (.string ⟨#[]⟩) (.slice none 0 0) (.slice none 0 0) (.slice none 0 0):=nu.blw (bchain (belowA _ _) (belowA _ _))
 obtain⟨z0,z1,z2,z3,z4,z5,_⟩:=nu2.cells
 have Hv:Hid (_=_):=hwv
 have Hsu:Hid (wu.heap.size=U+1):=su
 clear hwv k1 k2 k3 k4 su
 go_wp2_with fail
 simp only [Hsu.out,Nat.add_assoc,Nat.reduceAdd]
 rw [<- Hv.out]
 refine cu.mono ?_
 rintro e wx ⟨vx,rfl,hvx,bx⟩
 clear cu y0 y1 y2 y3 y4 y5 z0 z1 z2 z3 z4 z5 nu2 Hv
 obtain⟨rax,rcx,kax,kcx,sax,scx,rfl,htx⟩:=hvx.form
 obtain⟨wy,hwy⟩:∃ W,W=wx.alloc (.cells #[.int .i64 15,.int .i64 0,.string ⟨#[]⟩,.slice rax 0 rcx,.slice kax 2 kcx,.slice sax 0 scx] 26):=⟨_,rfl⟩
 obtain⟨E,hE⟩:∃ A,A=wx.heap.size:=⟨_,rfl⟩
 have by_:Below wx.heap.size wx wy:=by rw [hwy];exact belowA _ _
 have ny:Six wy E (.int .i64 15) (.int .i64 0) (.string ⟨#[]⟩) (.slice rax 0 rcx) (.slice kax 2 kcx) (.slice sax 0 scx):=⟨by rw [hwy,hE];exact heapNew _ _⟩
 have b9y:=bchain (bchain (bchain bu bv) bx) by_
 have b5y:=bchain b59 b9y
 have By:Below X w wy:=B5.trans (b5y.mono (by have:=B5.size;have:=HX.out;omega))
 have na:=n5.blw b5y
 have nb:=n9.blw b9y
 have ra:=(HRa.out.blw b5y).row
 have rb:=(HRb.out.blw b9y).row
 have Hy:Hid (_=_):=hwy
 have HEe:Hid (E=wx.heap.size):=hE
 clear hwy hE hvx htx bx by_ b9y b5y bu bv b59 n5 n9 B1 B3 B5 nu
 simp only [wH2,List.length_cons,List.length_nil,Nat.zero_add,Nat.reduceAdd]
 go_upto_region 5 with fail
 simp only [<- HEe.out]
 rw [<- Hy.out]
 clear Hy
 obtain⟨w10,hw10⟩:∃ W,W=wy.alloc (.cells #[.int .u32 2,.int .u32 0] 38):=⟨_,rfl⟩
 have b10:Below wy.heap.size wy w10:=by rw [hw10];exact belowA _ _
 have m10:w10.heap[wy.heap.size]? = some (.cells #[.int .u32 2,.int .u32 0] 38 (0,0)):=by rw [hw10];exact heapNew _ _
 have c10:=same_any [cP 2] [cP 2] _ _ w10 (ra.below b10) (wrow1_in w10 wy.heap.size 2 m10).row (by simp)
 rw [decide_eq_true rfl] at c10
 obtain⟨a0,a1,a2,a3,a4,a5,_⟩:=na.cells
 have H10:Hid (_=_):=hw10
 clear hw10 m10
 go_wp2_with fail
 rw [<- H10.out]
 refine c10.mono ?_
 rintro e w11 ⟨rfl,b11⟩
 clear c10 a0 a1 a2 a3 a4 a5 H10
 have by11:=bchain b10 b11
 obtain⟨w12,hw12⟩:∃ W,W=w11.alloc (.cells #[.int .u32 1,.int .u32 0] 38):=⟨_,rfl⟩
 have b12:Below w11.heap.size w11 w12:=by rw [hw12];exact belowA _ _
 have m12:w12.heap[w11.heap.size]? = some (.cells #[.int .u32 1,.int .u32 0] 38 (0,0)):=by rw [hw12];exact heapNew _ _
 have c12:=same_any [cP 1] [cP 1] _ _ w12 ((rb.below by11).below b12) (wrow1_in w12 w11.heap.size 1 m12).row (by simp)
 rw [decide_eq_true rfl] at c12
 obtain⟨a0,a1,a2,a3,a4,a5,_⟩:=(nb.blw by11).cells
 have H12:Hid (_=_):=hw12
 clear hw12 m12
 go_wp2_with fail
 rw [<- H12.out]
 refine c12.mono ?_
 rintro e w13 ⟨rfl,b13'⟩
 clear c12 a0 a1 a2 a3 a4 a5 H12
 have by13:=bchain by11 (bchain b12 b13')
 obtain⟨a0,a1,a2,a3,a4,a5,_⟩:=(ny.blw by13).cells
 have Bf:Below X w w13:=By.trans (by13.mono (by have:=By.size;have:=HX.out;omega))
 go_wp2_with fail
 go_ret
 exact⟨rfl,Bf⟩
theorem great13r_any (t:Tm) (v:Value) (w:World) (hv:TmIn Tt w t v) (a:Option Addr) (n c:Nat):Calls Tryz.prog 7 #[v,.slice a n c] w fun e w'=>∃ b,e=.returned (.bool b)/\(b=false->blk t<=200/\n<=12)/\Below w.heap.size w w':=by
 obtain⟨ra,rc,ka,kc,sa,sc,rfl,ht⟩:=hv.form
 obtain⟨w1,hw1⟩:∃ w1,w1=w.alloc (.cells #[.int .i64 t.kind,.int .i64 t.n,.string t.name,.slice ra t.r.length rc,.slice ka t.kids.length kc,.slice sa t.sys.length sc] 26):=⟨_,rfl⟩
 have b1:Below w.heap.size w w1:=by rw [hw1];exact belowA _ _
 have c6:Cs6 w1 w.heap.size 0 t ra rc ka kc sa sc:=by rw [hw1];exact cs6_new w t ra rc ka kc sa sc
 have cc:=bulk_any (blk t) 200 200 t _ w1 rfl (by omega) (Nat.le_refl _) (ht.blw b1).value
 obtain⟨_,y0,y1,y2,y3,y4,y5⟩:=c6
 simp only [Nat.zero_add] at y1 y2 y3 y4 y5
 have H1:Hid (_=_):=hw1
 clear hw1 hv ht
 go_enter Tryz.func7,Tryz.ntmps7
 go_upto_region 1 with fail
 rw [<- H1.out]
 go_wp2_with fail
 refine cc.mono ?_
 rintro e w3 ⟨⟨r,rfl,r1,r2,r3,r4⟩,hb3⟩
 clear cc y0 y1 y2 y3 y4 y5
 have bF:=bchain b1 hb3
 by_cases h:200<blk t
 ·have hq:(200:Int) < (r:Int):=by have:=r2 h;omega
  have hqb:decide ((200:Int) < (r:Int))=true:=decide_eq_true hq
  clear r1 r2 h
  go_wp2_with fail
  go_ret
  exact⟨true,rfl,(fun h=>by cases h),bF⟩
 ·have hq:¬ (200:Int) < (r:Int):=by have:=r1 (by omega);omega
  have hqb:decide ((200:Int) < (r:Int))=false:=decide_eq_false hq
  have HB:Hid (blk t<=200):=(by omega:blk t<=200)
  clear r1 r2 h
  go_wp2_with fail
  go_ret
  exact⟨decide ((12:Int) < (n:Int)),rfl,(fun h=>⟨HB.out,by have:=of_decide_eq_false h;omega⟩),bF⟩
structure Sp (base:Nat) (w w':World):Prop where
 os:w'.os=w.os
 tape:w'.tape=w.tape
 output:w'.output=w.output
 size:w.heap.size<=w'.heap.size
 low:∀ k:Nat,k<base->k<w.heap.size->w'.heap[k]? = w.heap[k]?
 blk:∀ (k:Nat) (cs:Array Value) (ty:TypeId),w.heap[k]? = some (Obj.cells cs ty (0,0))->∃ cs':Array Value,w'.heap[k]? = some (Obj.cells cs' ty (0,0))
 cell:∀ (p:Addr) (v:Value),w.cell? p=some v->w'.cell? p=some v\/∃ (k:IntKind) (n n':Int),v=.int k n/\w'.cell? p=some (.int k n')
theorem Sp.refl (base:Nat) (w:World):Sp base w w:=⟨rfl,rfl,rfl,Nat.le_refl _,fun _ _ _=>rfl,fun _ cs _ h=>⟨cs,h⟩,fun _ _ h=>.inl h⟩
theorem Sp.trans {base:Nat} {w1 w2 w3:World} (h:Sp base w1 w2) (k:Sp base w2 w3):Sp base w1 w3:=by
 refine⟨k.os.trans h.os,k.tape.trans h.tape,k.output.trans h.output,Nat.le_trans h.size k.size,fun i hi hb=>(k.low i hi (Nat.lt_of_lt_of_le hb h.size)).trans (h.low i hi hb),fun i cs ty hi=>?_,fun p v hp=>?_⟩
 ·obtain⟨c1,h1⟩:=h.blk i cs ty hi
  exact k.blk i c1 ty h1
 ·rcases h.cell p v hp with h1|⟨kk,n,n',rfl,h1⟩
  ·exact k.cell p v h1
  ·rcases k.cell p _ h1 with h2|⟨k2,m,m',e,h2⟩
   ·exact .inr ⟨kk,n,n',rfl,h2⟩
   ·cases e
    exact .inr ⟨kk,n,m',rfl,h2⟩
theorem Sp.of_below {base:Nat} {w w':World} (h:Below w.heap.size w w'):Sp base w w':=by
 refine⟨h.os,h.tape,h.output,h.size,fun k _ hk=>h.block k hk,fun k cs ty hk=>⟨cs,(h.block k (Array.getElem?_eq_some_iff.1 hk).1).trans hk⟩,fun p v hp=>.inl ?_⟩
 exact (World.cell?_of_block (h.block p.block (World.block_lt_of_cell? w p hp))).trans hp
theorem Sp.drew {base:Nat} {w w':World} (h:Sp base w w'):Sp base w w'.drew:=⟨h.os,h.tape,h.output,h.size,h.low,h.blk,h.cell⟩
theorem Sp.below {base:Nat} {w w':World} (h:Sp base w w') (hb:base<=w.heap.size):Below base w w':=⟨h.os,h.tape,h.output,h.size,fun k hk=>h.low k hk (Nat.lt_of_lt_of_le hk hb)⟩
theorem Sp.put {base:Nat} {w w':World} (h:Sp base w w') {g i:Nat} {k:IntKind} {n:Int} (hg:base<=g) (hc:w'.cell? ⟨g,i,none⟩=some (.int k n)) (m:Int):Sp base w (w'.setCell ⟨g,i,none⟩ (.int k m)):=by
 refine h.trans ⟨rfl,rfl,rfl,by simp [World.setCell],fun j hj hb=>Below.heap_setCell _ _ _ _ (by show j≠g;omega),fun j cs ty hj=>?_,fun p v hp=>?_⟩
 ·by_cases e:j=g
  ·subst e
   obtain⟨hlt,hk⟩:=Array.getElem?_eq_some_iff.1 hj
   refine⟨cs.setIfInBounds i (.int k m),?_⟩
   show (w'.heap.modify j _)[j]? = _
   rw [Array.getElem?_eq_getElem (by rw [Array.size_modify];exact hlt),Array.getElem_modify_self,hk]
   rfl
  ·exact⟨cs,(Below.heap_setCell _ _ _ _ e).trans hj⟩
 ·by_cases e:p=⟨g,i,none⟩
  ·subst e
   rw [hc] at hp
   cases hp
   exact .inr ⟨k,n,m,rfl,World.cell?_setCell_same' _ _ _ (by rw [hc];rfl)⟩
  ·exact .inl ((World.cell?_setCell_other _ _ _ _ (fun h=>e h.symm)).trans hp)
theorem OkN.sp {base:Nat} {w w':World} {q:Nat} (h:OkN base w q) (hs:Sp base w w'):OkN base w' q:=by
 obtain⟨h1,cs,ty,h2⟩:=h
 obtain⟨c,h3⟩:=hs.blk q cs ty h2
 exact⟨h1,c,ty,h3⟩
theorem OkN.soft {base:Nat} {w:World} {q:Nat} (h:OkN base w q) (i:Nat):w.frozen? ⟨q,i,none⟩=false:=by
 obtain⟨_,cs,ty,h2⟩:=h
 unfold World.frozen?; simp [h2]
theorem Sp.int {base:Nat} {w w':World} (h:Sp base w w') {p:Addr} {k:IntKind} {n:Int} (hp:w.cell? p=some (.int k n)):∃ m,w'.cell? p=some (.int k m):=by
 rcases h.cell p _ hp with h1|⟨kk,a,b,e,h1⟩
 ·exact⟨n,h1⟩
 ·cases e;exact⟨b,h1⟩
theorem Sp.str {base:Nat} {w w':World} (h:Sp base w w') {p:Addr} {s:ByteArray} (hp:w.cell? p=some (.string s)):w'.cell? p=some (.string s):=by
 rcases h.cell p _ hp with h1|⟨kk,a,b,e,h1⟩
 ·exact h1
 ·cases e
theorem Sp.sl {base:Nat} {w w':World} (h:Sp base w w') {p:Addr} {a:Option Addr} {n c:Nat} (hp:w.cell? p=some (.slice a n c)):w'.cell? p=some (.slice a n c):=by
 rcases h.cell p _ hp with h1|⟨kk,a,b,e,h1⟩
 ·exact h1
 ·cases e
def ClN (ok:Nat->Prop) (w:World) (a:Option Addr) (n:Nat):Prop:=∀ j,j<n->∃ g off x y,a=some ⟨g,off,none⟩/\ok g/\g<w.heap.size/\w.cell? ⟨g,off+j*2,none⟩=some (.int .u32 x)/\w.cell? ⟨g,off+j*2+1,none⟩=some (.int .u32 y)
def KdN (ok:Nat->Prop) (w:World) (P:Value->Prop) (a:Option Addr) (n:Nat):Prop:=∀ j,j<n->∃ g off k m nm ra rl rc ka kl kc sa sl sc,a=some ⟨g,off,none⟩/\ok g/\g<w.heap.size/\P (.agg #[.int .i64 k,.int .i64 m,.string nm,.slice ra rl rc,.slice ka kl kc,.slice sa sl sc]) /\
 w.cell? ⟨g,off+j*6,none⟩=some (.int .i64 k)/\w.cell? ⟨g,off+j*6+1,none⟩=some (.int .i64 m)/\w.cell? ⟨g,off+j*6+2,none⟩=some (.string nm)/\w.cell? ⟨g,off+j*6+3,none⟩=some (.slice ra rl rc)/\w.cell? ⟨g,off+j*6+4,none⟩=some (.slice ka kl kc)/\w.cell? ⟨g,off+j*6+5,none⟩=some (.slice sa sl sc)
def SyN (ok:Nat->Prop) (w:World) (a:Option Addr) (n:Nat):Prop:=∀ j,j<n->∃ g off fa fl fc ka kl kc,a=some ⟨g,off,none⟩/\ok g/\g<w.heap.size/\w.cell? ⟨g,off+j*2,none⟩=some (.slice fa fl fc)/\w.cell? ⟨g,off+j*2+1,none⟩=some (.slice ka kl kc)/\fl<=100000/\kl<=100000/\ClN ok w fa fl/\KdN ok w (fun _=>True) ka kl
def Sh (ok:Nat->Prop) (w:World):Nat->Value->Prop
 | 0,_=>False
 | d+1,v=>∃ k m nm ra rl rc ka kl kc sa sl sc,v=.agg #[.int .i64 k,.int .i64 m,.string nm,.slice ra rl rc,.slice ka kl kc,.slice sa sl sc]/\rl<=100000/\kl<=100000/\sl<=100000/\ClN ok w ra rl/\KdN ok w (Sh ok w d) ka kl/\SyN ok w sa sl
theorem Sh.any {ok:Nat->Prop} {w:World} {d:Nat} {k m k' m':Int} {nm ra rl rc ka kl kc sa sl sc} (h:Sh ok w d (.agg #[.int .i64 k,.int .i64 m,.string nm,.slice ra rl rc,.slice ka kl kc,.slice sa sl sc])):Sh ok w d (.agg #[.int .i64 k',.int .i64 m',.string nm,.slice ra rl rc,.slice ka kl kc,.slice sa sl sc]):=by
 cases d with
 | zero=>exact h
 | succ d =>
  obtain⟨k1,m1,nm1,ra1,rl1,rc1,ka1,kl1,kc1,sa1,sl1,sc1,e,h⟩:=h
  injection e with e
  simp only [Array.mk.injEq,List.cons.injEq,and_true,Value.string.injEq,Value.slice.injEq,Value.int.injEq,true_and] at e
  obtain⟨rfl,rfl,rfl,⟨rfl,rfl,rfl⟩,⟨rfl,rfl,rfl⟩,⟨rfl,rfl,rfl⟩⟩:=e
  exact⟨k',m',_,_,_,_,_,_,_,_,_,_,rfl,h⟩
theorem ClN.sp {base:Nat} {w w':World} {a:Option Addr} {n:Nat} (h:ClN (OkN base w) w a n) (hs:Sp base w w'):ClN (OkN base w') w' a n:=fun j hj=>by
 obtain⟨g,off,x,y,e,hg,hl,c0,c1⟩:=h j hj
 obtain⟨x',d0⟩:=hs.int c0
 obtain⟨y',d1⟩:=hs.int c1
 exact⟨g,off,x',y',e,hg.sp hs,Nat.lt_of_lt_of_le hl hs.size,d0,d1⟩
theorem KdN.sp {base:Nat} {w w':World} {P Q:Value->Prop} {a:Option Addr} {n:Nat} (h:KdN (OkN base w) w P a n) (hs:Sp base w w') (hq:∀ k m k' m' nm ra rl rc ka kl kc sa sl sc,P (.agg #[.int .i64 k,.int .i64 m,.string nm,.slice ra rl rc,.slice ka kl kc,.slice sa sl sc])->Q (.agg #[.int .i64 k',.int .i64 m',.string nm,.slice ra rl rc,.slice ka kl kc,.slice sa sl sc])):KdN (OkN base w') w' Q a n:=fun j hj=>by
 obtain⟨g,off,k,m,nm,ra,rl,rc,ka,kl,kc,sa,sl,sc,e,hg,hl,hp,c0,c1,c2,c3,c4,c5⟩:=h j hj
 obtain⟨k',d0⟩:=hs.int c0
 obtain⟨m',d1⟩:=hs.int c1
 exact⟨g,off,k',m',nm,ra,rl,rc,ka,kl,kc,sa,sl,sc,e,hg.sp hs,Nat.lt_of_lt_of_le hl hs.size,hq _ _ _ _ _ _ _ _ _ _ _ _ _ _ hp,d0,d1,hs.str c2,hs.sl c3,hs.sl c4,hs.sl c5⟩
theorem SyN.sp {base:Nat} {w w':World} {a:Option Addr} {n:Nat} (h:SyN (OkN base w) w a n) (hs:Sp base w w'):SyN (OkN base w') w' a n:=fun j hj=>by
 obtain⟨g,off,fa,fl,fc,ka,kl,kc,e,hg,hl,c0,c1,l1,l2,hc,hk⟩:=h j hj
 exact⟨g,off,fa,fl,fc,ka,kl,kc,e,hg.sp hs,Nat.lt_of_lt_of_le hl hs.size,hs.sl c0,hs.sl c1,l1,l2,hc.sp hs,hk.sp hs (fun _ _ _ _ _ _ _ _ _ _ _ _ _ _ _=>trivial)⟩
theorem Sh.sp {base:Nat} {w w':World} (hs:Sp base w w'):∀ (d:Nat) (v:Value),Sh (OkN base w) w d v->Sh (OkN base w') w' d v
 | 0,_,h=>h
 | d+1,v,h=>by
  obtain⟨k1,m1,nm1,ra1,rl1,rc1,ka1,kl1,kc1,sa1,sl1,sc1,e,l1,l2,l3,h1,h2,h3⟩:=h
  exact⟨k1,m1,nm1,ra1,rl1,rc1,ka1,kl1,kc1,sa1,sl1,sc1,e,l1,l2,l3,h1.sp hs,h2.sp hs (fun _ _ _ _ _ _ _ _ _ _ _ _ _ _ hp=>(Sh.sp hs d _ hp).any),h3.sp hs⟩
theorem ClRow.cln {ok:Nat->Prop} {w:World} {l:List C} {a:Option Addr} {n c:Nat} (h:ClRow ok w l (.slice a n c)):ClN ok w a n:=by
 obtain⟨a',c',e,_,h⟩:=h
 cases e
 intro j hj
 obtain⟨x,hx⟩:=someL hj
 obtain⟨g,off,e,hg,hl,c0,c1⟩:=h j x hx
 exact⟨g,off,_,_,e,hg,hl,c0,c1⟩
end Go.Proofs.YtblbhmnahoiecaaGreat
