/- The chapter's examples, of formulas in the places of dimensions; how great is too great. -/
import Derived.Test.YtblbhmnahoiecaaGreatGG34
import Derived.Test.YtblbhmnahoiecaaGreatGYDmT
import Derived.Test.YtblbhmnahoiecaaGreatGG24
set_option linter.unusedVariables false
set_option linter.unusedSimpArgs false
set_option maxRecDepth 100000
set_option maxHeartbeats 8000000
namespace Go.Proofs.YtblbhmnahoiecaaGreat
open Go.RowKit
def cP (n:Fin 4294967296):C:=(n,0)
def wU:Tm:=.mk 3 0 ⟨#[]⟩ [] [] []
def wA:Tm:=.mk 21 0 ⟨#[]⟩ [cP 1] [] []
def wA2:Tm:=.mk 21 0 ⟨#[]⟩ [cP 2] [] []
def wB:Tm:=.mk 21 0 ⟨#[]⟩ [cP 1,cP 2] [] []
def wH:Tm:=.mk 15 0 ⟨#[]⟩ [] [wU,wU] [([cP 1],[wU])]
def wH2:Tm:=.mk 15 0 ⟨#[]⟩ [] [wU,wU] []
theorem wk_pE:putE 0 [cP 2] wA=0:=by decide +kernel
theorem wk_pT:putT' 0 [cP 2] wA=wA2:=by kernel_rfl
theorem wk_tE:takE 0 [] wB=0:=by decide +kernel
theorem wk_tT:takT 0 [] wB=wA:=by kernel_rfl
theorem wk_u:undA ((0,1):C) wH=(wH2,0):=by kernel_rfl
theorem wk_b1:blk wA≤20000:=by decide +kernel
theorem wk_b2:blk wB≤20000:=by decide +kernel
theorem wk_b3:blk wH≤20000∧capT wH≤40000∧capT wB≤40000:=by decide +kernel
theorem wrow1_in (w:World) (g:Nat) (n:Fin 4294967296) (h:w.heap[g]? = some (.cells #[.int .u32 (n.val:Int),.int .u32 0] 38 (0,0))):ClRow Tt w [cP n] (.slice (some ⟨g,0,none⟩) 1 1):=by
 refine⟨_,_,rfl,Nat.le_refl _,fun j x hx=>?_⟩
 have hj:j=0:=by have:=some_lt hx;simp at this;omega
 subst hj
 simp only [List.getElem?_cons_zero,Option.some.injEq] at hx
 subst hx
 refine⟨g,0,rfl,trivial,(Array.getElem?_eq_some_iff.1 h).1,?_,?_⟩ <;> (unfold World.cell?; simp [h,cP])
theorem wrow2_in (w:World) (g:Nat) (h:w.heap[g]? = some (.cells #[.int .u32 1,.int .u32 0,.int .u32 2,.int .u32 0] 38 (0,0))):ClRow Tt w [cP 1,cP 2] (.slice (some ⟨g,0,none⟩) 2 2):=by
 refine⟨_,_,rfl,Nat.le_refl _,fun j x hx=>?_⟩
 have hj:j=0∨j=1:=by have:=some_lt hx;simp at this;omega
 rcases hj with rfl|rfl
 ·simp only [List.getElem?_cons_zero,Option.some.injEq] at hx
  subst hx
  refine⟨g,0,rfl,trivial,(Array.getElem?_eq_some_iff.1 h).1,?_,?_⟩ <;> (unfold World.cell?; simp [h,cP])
 ·simp only [List.getElem?_cons_succ,List.getElem?_cons_zero,Option.some.injEq] at hx
  subst hx
  refine⟨g,0,rfl,trivial,(Array.getElem?_eq_some_iff.1 h).1,?_,?_⟩ <;> (unfold World.cell?; simp [h,cP])
theorem wU_in (w:World):TmIn Tt w wU (.agg #[.int .i64 3,.int .i64 0,.string ⟨#[]⟩,.slice none 0 0,.slice none 0 0,.slice none 0 0]) :=
 .mk _ _ _ _ _ _ _ _ _ ⟨by decide,by decide⟩ ⟨by decide,by decide⟩ (cl_nil0 w) (kd_nil0 w) (sy_nil0 w)
theorem wLoop_in (w:World) (l:List C) (a:Option Addr) (n c:Nat) (h:ClRow Tt w l (.slice a n c)):TmIn Tt w (.mk 21 0 ⟨#[]⟩ l [] []) (.agg #[.int .i64 21,.int .i64 0,.string ⟨#[]⟩,.slice a n c,.slice none 0 0,.slice none 0 0]) :=
 .mk _ _ _ _ _ _ _ _ _ ⟨by decide,by decide⟩ ⟨by decide,by decide⟩ h (kd_nil0 w) (sy_nil0 w)
theorem wKids1 (w:World) (g:Nat) (h:w.heap[g]? = some (.cells #[.int .i64 3,.int .i64 0,.string ⟨#[]⟩,.slice none 0 0,.slice none 0 0,.slice none 0 0] 26 (0,0))):KdT Tt w (TmIn Tt w) [wU] (.slice (some ⟨g,0,none⟩) 1 1):=by
 refine⟨_,_,rfl,Nat.le_refl _,fun j x hx=>?_⟩
 have hj:j=0:=by have:=some_lt hx;simp at this;omega
 subst hj
 simp only [List.getElem?_cons_zero,Option.some.injEq] at hx
 subst hx
 refine⟨g,0,_,_,_,_,_,_,rfl,trivial,(Array.getElem?_eq_some_iff.1 h).1,wU_in w,?_,?_,?_,?_,?_,?_⟩ <;> (unfold World.cell?; simp [h])
theorem wKids2 (w:World) (g:Nat) (h:w.heap[g]? = some (.cells #[.int .i64 3,.int .i64 0,.string ⟨#[]⟩,.slice none 0 0,.slice none 0 0,.slice none 0 0,.int .i64 3,.int .i64 0,.string ⟨#[]⟩,.slice none 0 0,.slice none 0 0,.slice none 0 0] 26 (0,0))):KdT Tt w (TmIn Tt w) [wU,wU] (.slice (some ⟨g,0,none⟩) 2 2):=by
 refine⟨_,_,rfl,Nat.le_refl _,fun j x hx=>?_⟩
 have hj:j=0∨j=1:=by have:=some_lt hx;simp at this;omega
 rcases hj with rfl|rfl
 ·simp only [List.getElem?_cons_zero,Option.some.injEq] at hx
  subst hx
  refine⟨g,0,_,_,_,_,_,_,rfl,trivial,(Array.getElem?_eq_some_iff.1 h).1,wU_in w,?_,?_,?_,?_,?_,?_⟩ <;> (unfold World.cell?; simp [h])
 ·simp only [List.getElem?_cons_succ,List.getElem?_cons_zero,Option.some.injEq] at hx
  subst hx
  refine⟨g,0,_,_,_,_,_,_,rfl,trivial,(Array.getElem?_eq_some_iff.1 h).1,wU_in w,?_,?_,?_,?_,?_,?_⟩ <;> (unfold World.cell?; simp [h])
theorem wH_in (w:World) (g1 g2 g3 g4:Nat) (h1:w.heap[g1]? = some (.cells #[.int .i64 3,.int .i64 0,.string ⟨#[]⟩,.slice none 0 0,.slice none 0 0,.slice none 0 0,.int .i64 3,.int .i64 0,.string ⟨#[]⟩,.slice none 0 0,.slice none 0 0,.slice none 0 0] 26 (0,0)))
  (h2:w.heap[g2]? = some (.cells #[.int .u32 1,.int .u32 0] 38 (0,0))) (h3:w.heap[g3]? = some (.cells #[.int .i64 3,.int .i64 0,.string ⟨#[]⟩,.slice none 0 0,.slice none 0 0,.slice none 0 0] 26 (0,0)))
  (h4:w.heap[g4]? = some (.cells #[.slice (some ⟨g2,0,none⟩) 1 1,.slice (some ⟨g3,0,none⟩) 1 1] 40 (0,0))) :
  TmIn Tt w wH (.agg #[.int .i64 15,.int .i64 0,.string ⟨#[]⟩,.slice none 0 0,.slice (some ⟨g1,0,none⟩) 2 2,.slice (some ⟨g4,0,none⟩) 1 1]):=by
 refine .mk _ _ _ _ _ _ _ _ _ ⟨by decide,by decide⟩ ⟨by decide,by decide⟩ (cl_nil0 w) (wKids2 w g1 h1) ⟨_,_,rfl,Nat.le_refl _,fun j x hx=>?_⟩
 have hj:j=0:=by have:=some_lt hx;simp at this;omega
 subst hj
 simp only [List.getElem?_cons_zero,Option.some.injEq] at hx
 subst hx
 refine⟨g4,0,_,_,rfl,trivial,(Array.getElem?_eq_some_iff.1 h4).1,wrow1_in w g2 1 h2,wKids1 w g3 h3,?_,?_⟩ <;> (unfold World.cell?; simp [h4])
theorem loop_any (a:Option Addr) (n c:Nat) (w:World):Calls Tryz.prog 36 #[.slice a n c] w fun e w'=>e=.returned (.agg #[.int .i64 21,.int .i64 0,.string ⟨#[]⟩,.slice a n c,.slice none 0 0,.slice none 0 0])∧Below w.heap.size w w':=by
 obtain⟨w1,hw1⟩:∃ W,W=w.alloc (.cells #[.int .i64 21,.int .i64 0,.string ⟨#[]⟩,.slice a n c,.slice none 0 0,.slice none 0 0] 26):=⟨_,rfl⟩
 have b1:Below w.heap.size w w1:=by rw [hw1];exact belowA _ _
 have m1:Six w1 w.heap.size (.int .i64 21) (.int .i64 0) (.string ⟨#[]⟩) (.slice a n c) (.slice none 0 0) (.slice none 0 0):=⟨by rw [hw1];exact heapNew _ _⟩
 obtain⟨h0,h1,h2,h3,h4,h5,_⟩:=m1.cells
 have H1:Hid (_=_):=hw1
 clear hw1 m1
 go_enter Tryz.func36,Tryz.ntmps36
 go_wp2_with fail
 rw [← H1.out]
 exact bodyPost_ret (v:=.agg #[.int .i64 21,.int .i64 0,.string ⟨#[]⟩,.slice a n c,.slice none 0 0,.slice none 0 0]) (by simp only [results,Tryz.results36];simp [go_sem,h0,h1,h2,h3,h4,h5]) rfl ⟨rfl,b1⟩
theorem works13_any (w:World):Calls Tryz.prog 8 #[] w fun e w'=>e=.returned (.bool true)∧Below w.heap.size w w':=by
 obtain⟨w1,hw1⟩:∃ W,W=w.alloc (.cells #[.int .u32 1,.int .u32 0] 38):=⟨_,rfl⟩
 have b1:Below w.heap.size w w1:=by rw [hw1];exact belowA _ _
 have m1:w1.heap[w.heap.size]? = some (.cells #[.int .u32 1,.int .u32 0] 38 (0,0)):=by rw [hw1];exact heapNew _ _
 have c1:=loop_any (some ⟨w.heap.size,0,none⟩) 1 1 w1
 obtain⟨X,hX⟩:∃ X,X=w.heap.size:=⟨_,rfl⟩
 rw [← hX] at c1 m1
 have H1:Hid (_=_):=hw1
 have HX:Hid (X=w.heap.size):=hX
 have B1:Below X w w1:=by rw [hX];exact b1
 rw [← hX]
 clear hw1 hX b1
 go_enter Tryz.func8,Tryz.ntmps8
 go_wp2_with fail
 simp only [← HX.out]
 rw [← H1.out]
 refine c1.mono ?_
 rintro e w2 ⟨rfl,b2⟩
 clear c1 H1
 obtain⟨w3,hw3⟩:∃ W,W=w2.alloc (.cells #[.int .u32 2,.int .u32 0] 38):=⟨_,rfl⟩
 have b3:Below w2.heap.size w2 w3:=by rw [hw3];exact belowA _ _
 have m3:w3.heap[w2.heap.size]? = some (.cells #[.int .u32 2,.int .u32 0] 38 (0,0)):=by rw [hw3];exact heapNew _ _
 have b13:=bchain b2 b3
 have r1:=(wrow1_in w1 X 1 m1).blw b13
 have c3:=dput_any wA _ w3 (wLoop_in w3 [cP 1] _ _ _ r1) wk_b1 0 [cP 2] _ (wrow1_in w3 w2.heap.size 2 m3) (by simp)
 rw [wk_pE,wk_pT] at c3
 have B3:Below X w w3:=B1.trans (b13.mono (by have:=B1.size;have:=HX.out;omega))
 have H3:Hid (_=_):=hw3
 clear hw3 r1 m1 m3
 go_wp2_with fail
 rw [← H3.out]
 refine c3.mono ?_
 rintro e w4 ⟨v4,rfl,hv4,b4⟩
 clear c3 H3
 obtain⟨ra4,rc4,ka4,kc4,sa4,sc4,rfl,ht4⟩:=hv4.form
 obtain⟨w5,hw5⟩:∃ W,W=w4.alloc (.cells #[.int .i64 21,.int .i64 0,.string ⟨#[]⟩,.slice ra4 1 rc4,.slice ka4 0 kc4,.slice sa4 0 sc4] 26):=⟨_,rfl⟩
 obtain⟨A,hA⟩:∃ A,A=w4.heap.size:=⟨_,rfl⟩
 have b5:Below w4.heap.size w4 w5:=by rw [hw5];exact belowA _ _
 have n5:Six w5 A (.int .i64 21) (.int .i64 0) (.string ⟨#[]⟩) (.slice ra4 1 rc4) (.slice ka4 0 kc4) (.slice sa4 0 sc4):=⟨by rw [hw5,hA];exact heapNew _ _⟩
 have b35:=bchain b4 b5
 have B5:Below X w w5:=B3.trans (b35.mono (by have:=B3.size;have:=HX.out;omega))
 have HRa:Hid (ClRow Tt w5 [cP 2] (.slice ra4 1 rc4)):=((ht4.blw b5).row).keep (Nat.le_refl _) (fun _ _=>trivial) (fun _ _ _=>rfl)
 have H5:Hid (_=_):=hw5
 have HA:Hid (A=w4.heap.size):=hA
 clear hw5 hA hv4 ht4 b4 b5 b35
 simp only [wA2,List.length_cons,List.length_nil,Nat.zero_add]
 go_upto_region 2 with fail
 simp only [← HA.out]
 rw [← H5.out]
 clear H5
 obtain⟨w6,hw6⟩:∃ W,W=w5.alloc (.cells #[.int .u32 1,.int .u32 0,.int .u32 2,.int .u32 0] 38):=⟨_,rfl⟩
 obtain⟨Y,hY⟩:∃ Y,Y=w5.heap.size:=⟨_,rfl⟩
 have b6:Below w5.heap.size w5 w6:=by rw [hw6];exact belowA _ _
 have m6:w6.heap[Y]? = some (.cells #[.int .u32 1,.int .u32 0,.int .u32 2,.int .u32 0] 38 (0,0)):=by rw [hw6,hY];exact heapNew _ _
 have c6:=loop_any (some ⟨Y,0,none⟩) 2 2 w6
 have H6:Hid (_=_):=hw6
 have HY:Hid (Y=w5.heap.size):=hY
 clear hw6 hY
 go_wp2_with fail
 simp only [← HY.out]
 rw [← H6.out]
 refine c6.mono ?_
 rintro e w7 ⟨rfl,b7⟩
 clear c6 H6
 have b57:=bchain b6 b7
 have c7:=dtake_any wB _ w7 (wLoop_in w7 [cP 1,cP 2] _ _ _ ((wrow2_in w6 Y m6).blw b7)) wk_b2 0 [] (.slice none 0 0) (cl_nil0 w7) (by simp) (Nat.le_trans (cap_ge _).1 (Nat.le_trans (cap_ans (putOp_len _ _) _) wk_b3.2.2))
 rw [wk_tE,wk_tT] at c7
 go_wp2_with fail
 refine c7.mono ?_
 rintro e w8 ⟨v8,rfl,hv8,b8⟩
 clear c7
 obtain⟨ra8,rc8,ka8,kc8,sa8,sc8,rfl,ht8⟩:=hv8.form
 obtain⟨w9,hw9⟩:∃ W,W=w8.alloc (.cells #[.int .i64 21,.int .i64 0,.string ⟨#[]⟩,.slice ra8 1 rc8,.slice ka8 0 kc8,.slice sa8 0 sc8] 26):=⟨_,rfl⟩
 obtain⟨D,hD⟩:∃ A,A=w8.heap.size:=⟨_,rfl⟩
 have b9:Below w8.heap.size w8 w9:=by rw [hw9];exact belowA _ _
 have n9:Six w9 D (.int .i64 21) (.int .i64 0) (.string ⟨#[]⟩) (.slice ra8 1 rc8) (.slice ka8 0 kc8) (.slice sa8 0 sc8):=⟨by rw [hw9,hD];exact heapNew _ _⟩
 have b59:=bchain (bchain b57 b8) b9
 have HRb:Hid (ClRow Tt w9 [cP 1] (.slice ra8 1 rc8)):=((ht8.blw b9).row).keep (Nat.le_refl _) (fun _ _=>trivial) (fun _ _ _=>rfl)
 have H9:Hid (_=_):=hw9
 have HD:Hid (D=w8.heap.size):=hD
 clear hw9 hD hv8 ht8 b8 b9 b57 b6 b7 m6
 simp only [wA,List.length_cons,List.length_nil,Nat.zero_add]
 go_upto_region 3 with fail
 simp only [← HD.out]
 rw [← H9.out]
 clear H9
 obtain⟨U,hU⟩:∃ U,U=w9.heap.size:=⟨_,rfl⟩
 obtain⟨wu,hwu⟩:∃ W,W=w9.alloc (.cells #[.int .i64 3,.int .i64 0,.string ⟨#[]⟩,.slice none 0 0,.slice none 0 0,.slice none 0 0] 26):=⟨_,rfl⟩
 have bu:Below w9.heap.size w9 wu:=by rw [hwu];exact belowA _ _
 have nu:Six wu U (.int .i64 3) (.int .i64 0) (.string ⟨#[]⟩) (.slice none 0 0) (.slice none 0 0) (.slice none 0 0):=⟨by rw [hwu,hU];exact heapNew _ _⟩
 have Hu:Hid (_=_):=hwu
 have HU:Hid (U=w9.heap.size):=hU
 have su:wu.heap.size=U+1:=by rw [hwu,hU];simp
 clear hwu hU
 go_upto_region 4 with fail
 simp only [← HU.out]
 rw [← Hu.out]
 clear Hu
 obtain⟨wv,hwv⟩:∃ W,W=(((wu.alloc (.cells #[.int .i64 3,.int .i64 0,.string ⟨#[]⟩,.slice none 0 0,.slice none 0 0,.slice none 0 0,.int .i64 3,.int .i64 0,.string ⟨#[]⟩,.slice none 0 0,.slice none 0 0,.slice none 0 0] 26)).alloc (.cells #[.int .u32 1,.int .u32 0] 38)).alloc (.cells #[.int .i64 3,.int .i64 0,.string ⟨#[]⟩,.slice none 0 0,.slice none 0 0,.slice none 0 0] 26)).alloc (.cells #[.slice (some ⟨U+2,0,none⟩) 1 1,.slice (some ⟨U+3,0,none⟩) 1 1] 40):=⟨_,rfl⟩
 have bv:Below wu.heap.size wu wv:=by rw [hwv];exact bchain (bchain (bchain (belowA _ _) (belowA _ _)) (belowA _ _)) (belowA _ _)
 have k1:wv.heap[U+1]? = some (.cells #[.int .i64 3,.int .i64 0,.string ⟨#[]⟩,.slice none 0 0,.slice none 0 0,.slice none 0 0,.int .i64 3,.int .i64 0,.string ⟨#[]⟩,.slice none 0 0,.slice none 0 0,.slice none 0 0] 26 (0,0)):=by
  rw [hwv,← su];exact (Below.heap_alloc _ _ _ (by simp;omega)).trans ((Below.heap_alloc _ _ _ (by simp;omega)).trans ((Below.heap_alloc _ _ _ (by simp)).trans (heapNew wu _)))
 have k2:wv.heap[U+2]? = some (.cells #[.int .u32 1,.int .u32 0] 38 (0,0)):=by
  rw [hwv];refine (Below.heap_alloc _ _ _ (by simp;omega)).trans ((Below.heap_alloc _ _ _ (by simp;omega)).trans ?_)
  have:=heapNew (wu.alloc (.cells #[.int .i64 3,.int .i64 0,.string ⟨#[]⟩,.slice none 0 0,.slice none 0 0,.slice none 0 0,.int .i64 3,.int .i64 0,.string ⟨#[]⟩,.slice none 0 0,.slice none 0 0,.slice none 0 0] 26)) (.cells #[.int .u32 1,.int .u32 0] 38);rwa [World.size_alloc,su] at this
 have k3:wv.heap[U+3]? = some (.cells #[.int .i64 3,.int .i64 0,.string ⟨#[]⟩,.slice none 0 0,.slice none 0 0,.slice none 0 0] 26 (0,0)):=by
  rw [hwv];refine (Below.heap_alloc _ _ _ (by simp;omega)).trans ?_
  have:=heapNew ((wu.alloc (.cells #[.int .i64 3,.int .i64 0,.string ⟨#[]⟩,.slice none 0 0,.slice none 0 0,.slice none 0 0,.int .i64 3,.int .i64 0,.string ⟨#[]⟩,.slice none 0 0,.slice none 0 0,.slice none 0 0] 26)).alloc (.cells #[.int .u32 1,.int .u32 0] 38)) (.cells #[.int .i64 3,.int .i64 0,.string ⟨#[]⟩,.slice none 0 0,.slice none 0 0,.slice none 0 0] 26);rwa [World.size_alloc,World.size_alloc,su] at this
 have k4:wv.heap[U+4]? = some (.cells #[.slice (some ⟨U+2,0,none⟩) 1 1,.slice (some ⟨U+3,0,none⟩) 1 1] 40 (0,0)):=by
  rw [hwv]
  have:=heapNew (((wu.alloc (.cells #[.int .i64 3,.int .i64 0,.string ⟨#[]⟩,.slice none 0 0,.slice none 0 0,.slice none 0 0,.int .i64 3,.int .i64 0,.string ⟨#[]⟩,.slice none 0 0,.slice none 0 0,.slice none 0 0] 26)).alloc (.cells #[.int .u32 1,.int .u32 0] 38)).alloc (.cells #[.int .i64 3,.int .i64 0,.string ⟨#[]⟩,.slice none 0 0,.slice none 0 0,.slice none 0 0] 26)) (.cells #[.slice (some ⟨U+2,0,none⟩) 1 1,.slice (some ⟨U+3,0,none⟩) 1 1] 40);rwa [World.size_alloc,World.size_alloc,World.size_alloc,su] at this
 have cu:=under_any wH _ wv (wH_in wv (U+1) (U+2) (U+3) (U+4) k1 k2 k3 k4) wk_b3.1 wk_b3.2.1 ((0,1):C)
 rw [wk_u] at cu
 dsimp only at cu
 obtain⟨y0,y1,y2,y3,y4,y5,_⟩:=nu.cells
 have nu2:Six ((wu.alloc (.cells #[.int .i64 3,.int .i64 0,.string ⟨#[]⟩,.slice none 0 0,.slice none 0 0,.slice none 0 0,.int .i64 3,.int .i64 0,.string ⟨#[]⟩,.slice none 0 0,.slice none 0 0,.slice none 0 0] 26)).alloc (.cells #[.int .u32 1,.int .u32 0] 38)) U (.int .i64 3) (.int .i64 0) (.string ⟨#[]⟩) (.slice none 0 0) (.slice none 0 0) (.slice none 0 0):=nu.blw (bchain (belowA _ _) (belowA _ _))
 obtain⟨z0,z1,z2,z3,z4,z5,_⟩:=nu2.cells
 have Hv:Hid (_=_):=hwv
 have Hsu:Hid (wu.heap.size=U+1):=su
 clear hwv k1 k2 k3 k4 su
 go_wp2_with fail
 simp only [Hsu.out,Nat.add_assoc,Nat.reduceAdd]
 rw [← Hv.out]
 refine cu.mono ?_
 rintro e wx ⟨vx,rfl,hvx,bx⟩
 clear cu y0 y1 y2 y3 y4 y5 z0 z1 z2 z3 z4 z5 nu2 Hv
 obtain⟨rax,rcx,kax,kcx,sax,scx,rfl,htx⟩:=hvx.form
 obtain⟨wy,hwy⟩:∃ W,W=wx.alloc (.cells #[.int .i64 15,.int .i64 0,.string ⟨#[]⟩,.slice rax 0 rcx,.slice kax 2 kcx,.slice sax 0 scx] 26):=⟨_,rfl⟩
 obtain⟨E,hE⟩:∃ A,A=wx.heap.size:=⟨_,rfl⟩
 have by_:Below wx.heap.size wx wy:=by rw [hwy];exact belowA _ _
 have ny:Six wy E (.int .i64 15) (.int .i64 0) (.string ⟨#[]⟩) (.slice rax 0 rcx) (.slice kax 2 kcx) (.slice sax 0 scx):=⟨by rw [hwy,hE];exact heapNew _ _⟩
 have b9y:=bchain (bchain (bchain bu bv) bx) by_
 have b5y:=bchain b59 b9y
 have By:Below X w wy:=B5.trans (b5y.mono (by have:=B5.size;have:=HX.out;omega))
 have na:=n5.blw b5y
 have nb:=n9.blw b9y
 have ra:=(HRa.out.blw b5y).row
 have rb:=(HRb.out.blw b9y).row
 have Hy:Hid (_=_):=hwy
 have HEe:Hid (E=wx.heap.size):=hE
 clear hwy hE hvx htx bx by_ b9y b5y bu bv b59 n5 n9 B1 B3 B5 nu
 simp only [wH2,List.length_cons,List.length_nil,Nat.zero_add,Nat.reduceAdd]
 go_upto_region 5 with fail
 simp only [← HEe.out]
 rw [← Hy.out]
 clear Hy
 obtain⟨w10,hw10⟩:∃ W,W=wy.alloc (.cells #[.int .u32 2,.int .u32 0] 38):=⟨_,rfl⟩
 have b10:Below wy.heap.size wy w10:=by rw [hw10];exact belowA _ _
 have m10:w10.heap[wy.heap.size]? = some (.cells #[.int .u32 2,.int .u32 0] 38 (0,0)):=by rw [hw10];exact heapNew _ _
 have c10:=same_any [cP 2] [cP 2] _ _ w10 (ra.below b10) (wrow1_in w10 wy.heap.size 2 m10).row (by simp)
 rw [decide_eq_true rfl] at c10
 obtain⟨a0,a1,a2,a3,a4,a5,_⟩:=na.cells
 have H10:Hid (_=_):=hw10
 clear hw10 m10
 go_wp2_with fail
 rw [← H10.out]
 refine c10.mono ?_
 rintro e w11 ⟨rfl,b11⟩
 clear c10 a0 a1 a2 a3 a4 a5 H10
 have by11:=bchain b10 b11
 obtain⟨w12,hw12⟩:∃ W,W=w11.alloc (.cells #[.int .u32 1,.int .u32 0] 38):=⟨_,rfl⟩
 have b12:Below w11.heap.size w11 w12:=by rw [hw12];exact belowA _ _
 have m12:w12.heap[w11.heap.size]? = some (.cells #[.int .u32 1,.int .u32 0] 38 (0,0)):=by rw [hw12];exact heapNew _ _
 have c12:=same_any [cP 1] [cP 1] _ _ w12 ((rb.below by11).below b12) (wrow1_in w12 w11.heap.size 1 m12).row (by simp)
 rw [decide_eq_true rfl] at c12
 obtain⟨a0,a1,a2,a3,a4,a5,_⟩:=(nb.blw by11).cells
 have H12:Hid (_=_):=hw12
 clear hw12 m12
 go_wp2_with fail
 rw [← H12.out]
 refine c12.mono ?_
 rintro e w13 ⟨rfl,b13'⟩
 clear c12 a0 a1 a2 a3 a4 a5 H12
 have by13:=bchain by11 (bchain b12 b13')
 obtain⟨a0,a1,a2,a3,a4,a5,_⟩:=(ny.blw by13).cells
 have Bf:Below X w w13:=By.trans (by13.mono (by have:=By.size;have:=HX.out;omega))
 go_wp2_with fail
 go_ret
 exact⟨rfl,Bf⟩
end Go.Proofs.YtblbhmnahoiecaaGreat
