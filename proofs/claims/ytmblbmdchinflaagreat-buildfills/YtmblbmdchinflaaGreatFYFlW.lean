/- A filler: what Take of it needs; the composition that a law makes of branches. -/
import Derived.Test.YtmblbmdchinflaaGreatFG27
import Derived.Test.YtmblbmdchinflaaGreatFG42
import Derived.Test.YtmblbmdchinflaaGreatFG40
import Derived.Test.YtmblbmdchinflaaGreatEYDmT
import Derived.Test.YtmblbmdchinflaaGreatFG33
set_option linter.unusedVariables false
set_option linter.unusedSimpArgs false
set_option maxRecDepth 100000
set_option maxHeartbeats 8000000
namespace Go.Proofs.YtmblbmdchinflaaGreat
open Go.RowKit
theorem flb_cap:∀ (sys:List (List C × List Tm)),capS (sys.map flB)≤65*blkS sys
 | []=>by simp [capS,blkS]
 | b :: l=>by
  have h1:=flb_cap l
  have h2:=liftFF_len b.1 0 1
  have h3:∀ ks:List Tm,capL (ks.map (lineT [e2 0 1]))≤65*blkL ks:=fun ks=>by
   induction ks with
   | nil=>simp [capL,blkL]
   | cons x ks ih =>
    have:=line_capT (r:=[e2 0 1]) (t:=x)
    unfold capL blkL at ih ⊢
    simp only [List.map_cons,List.sum_cons]
    omega
  have h4:=h3 b.2
  unfold capS blkS at h1 ⊢
  simp only [List.map_cons,List.sum_cons]
  show 1+max (liftFF b.1 0 1).1.length 64+capL (b.2.map (lineT [e2 0 1])) + _≤_
  omega
theorem fl_cap {t a:Tm} {sys:List (List C × List Tm)} (h1:blk t≤150) (h2:blk a≤150) (h3:blk (tS sys)≤150):capT (flT t a sys)≤40000:=by
 have q1:=both_blk (vs:=0) (ds:=1) (t:=t)
 have q2:=both_blk (vs:=0) (ds:=1) (t:=a)
 have q3:=both_blk (vs:=0) (ds:=2) (t:=a)
 have p1:=(cap_ge (bothT 0 1 t)).2
 have p2:=(cap_ge (bothT 0 1 a)).2
 have p3:=(cap_ge (bothT 0 2 a)).2
 have q4:=flb_cap sys
 rw [ts_eq] at h3
 rw [cap_eq]
 unfold flT flS
 have q5:capS (sys.map flB ++ [([negB 0],[bothT 0 2 a])])=capS (sys.map flB) + (65+capT (bothT 0 2 a)):=by
  unfold capS
  rw [List.map_append,List.sum_append]
  simp [capL]
 have q6:capL [bothT 0 1 t,bothT 0 1 a]=capT (bothT 0 1 t) + capT (bothT 0 1 a):=by simp [capL]
 have h6:ByteArray.size ⟨#[]⟩=0:=rfl
 show 1+max ([]:List C).length 64+ByteArray.size ⟨#[]⟩ + capL [bothT 0 1 t,bothT 0 1 a] + capS (sys.map flB ++ [([negB 0],[bothT 0 2 a])])≤40000
 rw [q5,q6,h6]
 simp only [List.length_nil]
 omega
theorem take_al2 {T:Tm} (hb:blk T≤20000) (hc:capT T≤40000) {r:List C} (hr:r=[top0]∨r=[]) (h0:takE 0 r T=0) (V:World) (v vr:Value) (hv:TmIn Tt V T v) (hvr:ClRow Tt V r vr) :
  Calls Tryz.prog 11 #[v,.int .i64 0,vr] V fun e w'=>∃ v',e=.returned (.tuple #[v',.int .i64 0])∧TmIn (fun q=>V.heap.size≤q∧q<w'.heap.size) w' (takT 0 r T) v'∧Below V.heap.size V w':=by
 have h1:=(cap_ge (ansD (putOp 0 (liftFF r 0 1).1) T)).1
 have h2:=cap_ans (putOp_len 0 (liftFF r 0 1).1) T
 have hl:r.length≤40000:=by rcases hr with rfl | rfl <;> simp
 have cc:=dtake_any T v V hv hb 0 r vr hvr hl (by omega)
 rw [h0] at cc
 refine cc.mono ?_
 rintro e w' ⟨v',rfl,ht,hb'⟩
 exact⟨v',rfl,ht.up fun q h=>⟨h.1,by obtain⟨_,cs,ty,h2⟩:=h;exact (Array.getElem?_eq_some_iff.1 h2).1⟩,hb'⟩
theorem whole_any (l:List (List C × List Tm)) (v:Value) (w:World) (hS:SyT Tt w (TmIn Tt w) l v) :
  Calls Tryz.prog 9 #[v] w fun e w'=>∃ v',e=.returned v'∧TmIn Tt w' (hcT l) v'∧Below w.heap.size w w':=by
 obtain⟨sa,sc,rfl,_⟩:=id hS
 obtain⟨LS,hLS⟩:∃ L,L=l.length:=⟨_,rfl⟩
 obtain⟨X,hX⟩:∃ X,X=w.heap.size:=⟨_,rfl⟩
 obtain⟨w1,hw1⟩:∃ W,W=w.alloc (.cells #[.int .i64 0,.int .i64 0,.string ⟨#[]⟩,.slice none 0 0,.slice none 0 0,.slice none 0 0] 26):=⟨_,rfl⟩
 have b1:Below w.heap.size w w1:=by rw [hw1];exact belowA _ _
 have s1:w1.heap.size=X+1:=by rw [hw1,hX];simp
 have x1:Six w1 X (.int .i64 0) (.int .i64 0) (.string ⟨#[]⟩) (.slice none 0 0) (.slice none 0 0) (.slice none 0 0):=⟨by rw [hw1,hX];exact heapNew _ _⟩
 obtain⟨Y,hY⟩:∃ Y,Y=w1.heap.size:=⟨_,rfl⟩
 obtain⟨w2,hw2⟩:∃ W,W=w1.alloc (.cells #[.int .i64 3,.int .i64 0,.string ⟨#[]⟩,.slice none 0 0,.slice none 0 0,.slice none 0 0] 26):=⟨_,rfl⟩
 have b2:Below w1.heap.size w1 w2:=by rw [hw2];exact belowA _ _
 have s2:w2.heap.size=Y+1:=by rw [hw2,hY];simp
 have y1:Six w2 Y (.int .i64 3) (.int .i64 0) (.string ⟨#[]⟩) (.slice none 0 0) (.slice none 0 0) (.slice none 0 0):=⟨by rw [hw2,hY];exact heapNew _ _⟩
 obtain⟨o,ho⟩:∃ o,o=w2.heap.size:=⟨_,rfl⟩
 obtain⟨w4,hw4⟩:∃ W,W=w2.alloc (.cells #[.int .i64 3,.int .i64 0,.string ⟨#[]⟩,.slice none 0 0,.slice none 0 0,.slice none 0 0,.int .i64 3,.int .i64 0,.string ⟨#[]⟩,.slice none 0 0,.slice none 0 0,.slice none 0 0] 26):=⟨_,rfl⟩
 have b4:Below w2.heap.size w2 w4:=by rw [hw4];exact belowA _ _
 have hB4:w4.heap[o]? = some (.cells #[.int .i64 3,.int .i64 0,.string ⟨#[]⟩,.slice none 0 0,.slice none 0 0,.slice none 0 0,.int .i64 3,.int .i64 0,.string ⟨#[]⟩,.slice none 0 0,.slice none 0 0,.slice none 0 0] 26 (0,0)):=by rw [hw4,ho];exact heapNew _ _
 have s4:w4.heap.size=o+1:=by rw [hw4,ho];simp
 have b12:Below w1.heap.size w1 w4:=bchain b2 b4
 have hS4:=(((hS.ltA (ok':=fun q=>q<X) (fun q h hs=>by rw [hX];exact hs)).blw b1).blw b12)
 rw [← hLS] at hS4 ⊢
 have hk4:KdT (fun q=>q=o) w4 (TmIn (fun q=>q=o) w4) [wU,wU] (.slice (some ⟨o,0,none⟩) 2 2):=kd_two hB4 rfl (wU_at _ _) (wU_at _ _)
 have zz:=x1.blw b12
 have hB4':Below X w w4:=by rw [hX];exact bchain b1 b12
 obtain⟨w8,hwz,zz2,kz,o0,o1,o2,o3,o4,o5,f0,f1,f2,f3,f4,f5⟩:=zst zz (.int .i64 15) (.int .i64 0) (.string ⟨#[]⟩) (.slice none 0 0) (.slice (some ⟨o,0,none⟩) 2 2) (.slice sa LS sc)
 have hS8:=hS4.kn kz (fun q h=>by show q≠X;omega)
 have hk8:=hk4.kn kz (fun q h=>by show q≠X;omega)
 have hF:Hid (TmIn Tt w8 (hcT l) (.agg #[.int .i64 15,.int .i64 0,.string ⟨#[]⟩,.slice none 0 0,.slice (some ⟨o,0,none⟩) 2 2,.slice sa LS sc])):=.mk _ _ _ _ _ _ _ _ _ ⟨by decide,by decide⟩ ⟨by decide,by decide⟩ (cl_nil _ _) (hk8.ltA fun q h hs=>trivial) (hS8.ltA fun q h _=>trivial)
 have hBf:Hid (Below X w w8):=hB4'.trans (kz.below (fun q hq=>by show q≠X;omega) (by have:=hB4'.size;omega))
 obtain⟨h0,h1,h2,h3,h4,h5,_⟩:=zz2.cells
 have c4:=y1.blw b4
 obtain⟨y0,y1',y2,y3,y4,y5,_⟩:=y1.cells
 have HW1:Hid (_=_):=hw1
 have HW2:Hid (_=_):=hw2
 have HW4:Hid (_=_):=hw4
 have Hwz:Hid (_=_):=hwz
 have HX:Hid (X=w.heap.size):=hX
 have HY:Hid (Y=w1.heap.size):=hY
 have HO:Hid (o=w2.heap.size):=ho
 rw [← hX]
 clear hw1 hw2 hw4 hwz hX hY ho kz zz zz2 hS4 hk4 hS8 hk8 hB4' hB4 b1 b2 b4 b12 x1 y1 c4 hS hLS s1 s2 s4
 go_enter Tryz.func9,Tryz.ntmps9
 go_upto_region 1 with fail
 rw [← HW1.out]
 simp only [← HX.out]
 go_upto_region 2 with fail
 rw [← HW2.out]
 simp only [← HY.out]
 rw [HW4.out] at o0 o1 o2 o3 o4 o5 f0 f1 f2 f3 f4 f5
 go_wp2_with fail
 rw [← HW4.out]
 simp only [← HO.out]
 rw [← Hwz.out]
 exact bodyPost_ret (v:=.agg #[.int .i64 15,.int .i64 0,.string ⟨#[]⟩,.slice none 0 0,.slice (some ⟨o,0,none⟩) 2 2,.slice sa LS sc]) (by simp only [results,Tryz.results9];simp [go_sem,h0,h1,h2,h3,h4,h5]) rfl ⟨_,rfl,hF.out,hBf.out⟩
end Go.Proofs.YtmblbmdchinflaaGreat
