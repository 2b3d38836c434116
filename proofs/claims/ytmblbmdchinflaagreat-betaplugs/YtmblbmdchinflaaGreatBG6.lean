/- A term of its own memory: the node. -/
import Derived.Test.YtmblbmdchinflaaGreatBG5
import Derived.StillTail
import Derived.StillTactics
import Derived.OrdersIn
import Derived.TacticsIn
import Derived.OwnWalkIn
import Derived.RangeFuncCalls
import Derived.RangeFuncNested
import Derived.RangeFuncBound
import Derived.RangeFuncLeaves
import Derived.RangeFuncFrom
import Derived.RangeFuncBox
import Derived.TacticsInMore
import Derived.LoopNIn
import Derived.LoopIn
import Derived.Test.YtmblbmdchinflaaGreatBG4
import Derived.Great.Walk
import Derived.Deep.WholeRow
import Derived.Deep.Cut
set_option linter.unusedVariables false
set_option linter.unusedSimpArgs false
namespace Go.Proofs.YtmblbmdchinflaaGreat
open Go.RowKit
structure Six (w:World) (s:Nat) (v0 v1 v2 v3 v4 v5:Value):Prop where
 blk:w.heap[s]? = some (.cells #[v0,v1,v2,v3,v4,v5] 26 (0,0))
theorem Six.cells {w:World} {s:Nat} {v0 v1 v2 v3 v4 v5:Value} (h:Six w s v0 v1 v2 v3 v4 v5):w.cell? ⟨s,0,none⟩=some v0∧w.cell? ⟨s,1,none⟩=some v1∧w.cell? ⟨s,2,none⟩=some v2∧w.cell? ⟨s,3,none⟩=some v3∧w.cell? ⟨s,4,none⟩=some v4∧w.cell? ⟨s,5,none⟩=some v5∧∀ i,w.frozen? ⟨s,i,none⟩=false:=by
 have h:=h.blk
 refine⟨?_,?_,?_,?_,?_,?_,fun i=>?_⟩
 all_goals first | (unfold World.cell?; simp [h];done) | (unfold World.frozen?; simp [h])
theorem Six.blw {w w':World} {s:Nat} {v0 v1 v2 v3 v4 v5:Value} (h:Six w s v0 v1 v2 v3 v4 v5) (hb:Below w.heap.size w w'):Six w' s v0 v1 v2 v3 v4 v5:=⟨(hb.block s (Array.getElem?_eq_some_iff.1 h.blk).1).trans h.blk⟩
theorem Six.lt {w:World} {s:Nat} {v0 v1 v2 v3 v4 v5:Value} (h:Six w s v0 v1 v2 v3 v4 v5):s<w.heap.size:=(Array.getElem?_eq_some_iff.1 h.blk).1
theorem set_blk {w:World} {s i:Nat} {cs:Array Value} {ty:TypeId} (h:w.heap[s]? = some (.cells cs ty (0,0))) (u:Value):(w.setCell ⟨s,i,none⟩ u).heap[s]? = some (.cells (cs.setIfInBounds i u) ty (0,0)):=by
 obtain⟨hlt,hk⟩:=Array.getElem?_eq_some_iff.1 h
 show (w.heap.modify s _)[s]? = _
 rw [Array.getElem?_eq_getElem (by rw [Array.size_modify];exact hlt),Array.getElem_modify_self,hk]
 rfl
theorem Six.set3 {w:World} {s:Nat} {v0 v1 v2 v3 v4 v5:Value} (h:Six w s v0 v1 v2 v3 v4 v5) (u:Value):Six (w.setCell ⟨s,3,none⟩ u) s v0 v1 v2 u v4 v5:=⟨set_blk h.blk u⟩
theorem Six.set4 {w:World} {s:Nat} {v0 v1 v2 v3 v4 v5:Value} (h:Six w s v0 v1 v2 v3 v4 v5) (u:Value):Six (w.setCell ⟨s,4,none⟩ u) s v0 v1 v2 v3 u v5:=⟨set_blk h.blk u⟩
theorem Six.set5 {w:World} {s:Nat} {v0 v1 v2 v3 v4 v5:Value} (h:Six w s v0 v1 v2 v3 v4 v5) (u:Value):Six (w.setCell ⟨s,5,none⟩ u) s v0 v1 v2 v3 v4 u:=⟨set_blk h.blk u⟩
theorem Six.set6 {w:World} {s:Nat} {v0 v1 v2 v3 v4 v5:Value} (h:Six w s v0 v1 v2 v3 v4 v5) (u0 u1 u2 u3 u4 u5:Value):Six ((((((w.setCell ⟨s,0,none⟩ u0).setCell ⟨s,1,none⟩ u1).setCell ⟨s,2,none⟩ u2).setCell ⟨s,3,none⟩ u3).setCell ⟨s,4,none⟩ u4).setCell ⟨s,5,none⟩ u5) s u0 u1 u2 u3 u4 u5 :=
 ⟨set_blk (set_blk (set_blk (set_blk (set_blk (set_blk h.blk u0) u1) u2) u3) u4) u5⟩
theorem kn_set (w:World) (s i:Nat) (u:Value):Kn (fun q=>q≠s) w (w.setCell ⟨s,i,none⟩ u):=(Kn.refl _ _).setCell (p:=⟨s,i,none⟩) (.inl fun h=>h rfl) _
theorem Six.kn {w w':World} {s x:Nat} {v0 v1 v2 v3 v4 v5:Value} (h:Six w s v0 v1 v2 v3 v4 v5) (hk:Kn (fun q=>q≠x) w w') (hs:s≠x):Six w' s v0 v1 v2 v3 v4 v5:=⟨(hk.block s hs h.lt).trans h.blk⟩
theorem OkN.kn {base:Nat} {w w':World} {x q:Nat} (h:OkN base w q) (hk:Kn (fun q=>q≠x) w w') (hx:x<base):OkN base w' q:=by
 obtain⟨h1,cs,ty,h2⟩:=h
 exact⟨h1,cs,ty,(hk.block q (by omega) (Array.getElem?_eq_some_iff.1 h2).1).trans h2⟩
set_option maxRecDepth 100000 in
set_option maxHeartbeats 8000000 in
theorem copy_step (N:Nat) (hN:N+1≤100000) (IHk:BcC N) (IHs:BbC N):CpC (N+1):=by
 intro t v w hv hb
 have hbs:=blk_eq t
 obtain⟨ra,rc,ka,kc,sa,sc,rfl,ht⟩:=hv.form
 have ik:=ht.ik
 have inn:=ht.inn
 obtain⟨W,hW⟩:∃ W,W=(w.alloc (.cells #[.int .i64 t.kind,.int .i64 t.n,.string t.name,.slice ra t.r.length rc,.slice ka t.kids.length kc,.slice sa t.sys.length sc] 26)).alloc (.cells #[.int .i64 0,.int .i64 0,.string ⟨#[]⟩,.slice none 0 0,.slice none 0 0,.slice none 0 0] 26):=⟨_,rfl⟩
 have bW:Below w.heap.size w W:=by rw [hW];exact bchain (belowA _ _) (belowA _ _)
 have sW:W.heap.size=w.heap.size+2:=by rw [hW];simp
 have x1:Six W w.heap.size (.int .i64 t.kind) (.int .i64 t.n) (.string t.name) (.slice ra t.r.length rc) (.slice ka t.kids.length kc) (.slice sa t.sys.length sc):=⟨by rw [hW];exact (Below.heap_alloc _ _ _ (by simp)).trans (heapNew w _)⟩
 have x2:Six W (w.heap.size+1) (.int .i64 0) (.int .i64 0) (.string ⟨#[]⟩) (.slice none 0 0) (.slice none 0 0) (.slice none 0 0):=⟨by
  rw [hW];have:=heapNew (w.alloc (.cells #[.int .i64 t.kind,.int .i64 t.n,.string t.name,.slice ra t.r.length rc,.slice ka t.kids.length kc,.slice sa t.sys.length sc] 26)) (.cells #[.int .i64 0,.int .i64 0,.string ⟨#[]⟩,.slice none 0 0,.slice none 0 0,.slice none 0 0] 26);rwa [World.size_alloc] at this⟩
 have c1:=clone_any t.r _ W (ht.row.blw bW) (by omega)
 have H1:Hid (∀ w',Below w.heap.size w w'→Calls Tryz.prog 109 #[.slice ka t.kids.length kc,.func (.func 57) #[] #[]] w' fun e w''=>∃ v',e=.returned v'∧KdT (OkN w'.heap.size w'') w'' (TmIn (OkN w'.heap.size w'') w'') t.kids v'∧Below w'.heap.size w' w''):=fun w' q=>IHk t.kids _ w' (ht.kids.blw q) (by omega)
 have H2:Hid (∀ w',Below w.heap.size w w'→Calls Tryz.prog 110 #[.slice sa t.sys.length sc,.func (.func 111) #[] #[]] w' fun e w''=>∃ v',e=.returned v'∧SyT (OkN w'.heap.size w'') w'' (TmIn (OkN w'.heap.size w'') w'') t.sys v'∧Below w'.heap.size w' w''):=fun w' q=>IHs t.sys _ w' (ht.sys.blw q) (by omega)
 have HW:Hid (_=_):=hW
 obtain⟨z3,hz3⟩:∃ z,z=t.r.length:=⟨_,rfl⟩
 obtain⟨z4,hz4⟩:∃ z,z=t.kids.length:=⟨_,rfl⟩
 obtain⟨z5,hz5⟩:∃ z,z=t.sys.length:=⟨_,rfl⟩
 rw [← hz3] at c1
 rw [← hz4] at H1
 rw [← hz5] at H2
 rw [← hz3,← hz4,← hz5] at HW x1
 have Hz:Hid (z3=t.r.length∧z4=t.kids.length∧z5=t.sys.length):=⟨hz3,hz4,hz5⟩
 simp only [← hz3,← hz4,← hz5]
 clear hW hz3 hz4 hz5 hv ht hbs IHk IHs
 obtain⟨a0,a1,a2,a3,a4,a5,af⟩:=x1.cells
 go_enter Tryz.func57,Tryz.ntmps57
 go_upto_region 1 with fail
 rw [← HW.out]
 clear HW
 go_wp2_with fail
 refine c1.mono ?_
 rintro e w2 ⟨v2,rfl,hO2,hb2⟩
 clear c1 a0 a1 a2 a3 a4 a5 af
 obtain⟨ra2,rc2,rfl⟩:=OwnsC.len hO2
 have hr2:=OwnsC.okn hO2
 have y1:=x1.blw hb2
 have y2:=x2.blw hb2
 obtain⟨w3,hw3⟩:∃ w3,w3=w2.setCell ⟨w.heap.size,3,none⟩ (.slice ra2 t.r.length rc2):=⟨_,rfl⟩
 have k3:Kn (fun q=>q≠w.heap.size) w2 w3:=by rw [hw3];exact kn_set _ _ _ _
 have y13:Six w3 w.heap.size (.int .i64 t.kind) (.int .i64 t.n) (.string t.name) (.slice ra2 t.r.length rc2) (.slice ka z4 kc) (.slice sa z5 sc):=by rw [hw3];exact y1.set3 _
 have y23:=y2.kn k3 (by omega)
 have hr3:ClRow (OkN W.heap.size w3) w3 t.r (.slice ra2 t.r.length rc2):=hr2.keep k3.size (fun q hq=>hq.kn k3 (by omega)) (fun g hg hs=>k3.block g (by have:=hg.1;omega) hs)
 have b3:Below w.heap.size w w3:=(bchain bW hb2).trans (k3.below (fun q hq=>by omega) (by have:=hb2.size;omega))
 have s3:W.heap.size≤w3.heap.size:=Nat.le_trans hb2.size k3.size
 have c2:=H1.out w3 b3
 obtain⟨a0,a1,a2,a3,a4,a5,af⟩:=y1.cells
 have f3:=af 3
 obtain⟨d0,d1,d2,d3,d4,d5,df⟩:=y13.cells
 have H3:Hid (_=_):=hw3
 clear hw3 hO2 hr2 y1 y2 x1 x2 H1 af df k3 hb2
 go_upto_region 2 with fail
 rw [← H3.out]
 clear H3 a0 a1 a2 a3 a4 a5 f3
 go_wp2_with fail
 refine c2.mono ?_
 rintro e w4 ⟨v4,rfl,hK4,hb4⟩
 clear c2 d0 d1 d2 d3 d4 d5
 obtain⟨ka4,kc4,rfl,_⟩:=id hK4
 have y14:=y13.blw hb4
 have y24:=y23.blw hb4
 have hr4:=hr3.okn hb4
 obtain⟨w5,hw5⟩:∃ w5,w5=w4.setCell ⟨w.heap.size,4,none⟩ (.slice ka4 t.kids.length kc4):=⟨_,rfl⟩
 have k5:Kn (fun q=>q≠w.heap.size) w4 w5:=by rw [hw5];exact kn_set _ _ _ _
 have y15:Six w5 w.heap.size (.int .i64 t.kind) (.int .i64 t.n) (.string t.name) (.slice ra2 t.r.length rc2) (.slice ka4 t.kids.length kc4) (.slice sa z5 sc):=by rw [hw5];exact y14.set4 _
 have y25:=y24.kn k5 (by omega)
 have hr5:ClRow (OkN W.heap.size w5) w5 t.r (.slice ra2 t.r.length rc2):=hr4.keep k5.size (fun q hq=>hq.kn k5 (by omega)) (fun g hg hs=>k5.block g (by have:=hg.1;omega) hs)
 have hK5:KdT (OkN W.heap.size w5) w5 (TmIn (OkN W.heap.size w5) w5) t.kids (.slice ka4 t.kids.length kc4):=hK4.all k5.size (fun q hq=>(hq.mono s3).kn k5 (by omega)) (fun g hg hs=>k5.block g (by have:=hg.1;omega) hs)
 have b5:Below w.heap.size w w5:=(bchain b3 hb4).trans (k5.below (fun q hq=>by omega) (by have:=hb4.size;omega))
 have s5:W.heap.size≤w5.heap.size:=Nat.le_trans s3 (Nat.le_trans hb4.size k5.size)
 have c3:=H2.out w5 b5
 obtain⟨a0,a1,a2,a3,a4,a5,af⟩:=y14.cells
 have f4:=af 4
 obtain⟨d0,d1,d2,d3,d4,d5,df⟩:=y15.cells
 have H5:Hid (_=_):=hw5
 clear hw5 hK4 hr4 hr3 y14 y24 y13 y23 H2 af df k5 hb4 b3 s3
 go_upto_region 3 with fail
 rw [← H5.out]
 clear H5 a0 a1 a2 a3 a4 a5 f4
 go_wp2_with fail
 refine c3.mono ?_
 rintro e w6 ⟨v6,rfl,hS6,hb6⟩
 clear c3 d0 d1 d2 d3 d4 d5
 obtain⟨sa6,sc6,rfl,_⟩:=id hS6
 have y16:=y15.blw hb6
 have y26:=y25.blw hb6
 have hr6:=hr5.okn hb6
 have hK6:=hK5.okn hb6
 obtain⟨w7,hw7⟩:∃ w7,w7=w6.setCell ⟨w.heap.size,5,none⟩ (.slice sa6 t.sys.length sc6):=⟨_,rfl⟩
 have k7:Kn (fun q=>q≠w.heap.size) w6 w7:=by rw [hw7];exact kn_set _ _ _ _
 have y17:Six w7 w.heap.size (.int .i64 t.kind) (.int .i64 t.n) (.string t.name) (.slice ra2 t.r.length rc2) (.slice ka4 t.kids.length kc4) (.slice sa6 t.sys.length sc6):=by rw [hw7];exact y16.set5 _
 have y27:=y26.kn k7 (by omega)
 have hr7:ClRow (OkN W.heap.size w7) w7 t.r (.slice ra2 t.r.length rc2):=hr6.keep k7.size (fun q hq=>hq.kn k7 (by omega)) (fun g hg hs=>k7.block g (by have:=hg.1;omega) hs)
 have hK7:KdT (OkN W.heap.size w7) w7 (TmIn (OkN W.heap.size w7) w7) t.kids (.slice ka4 t.kids.length kc4):=hK6.all k7.size (fun q hq=>hq.kn k7 (by omega)) (fun g hg hs=>k7.block g (by have:=hg.1;omega) hs)
 have hS7:SyT (OkN W.heap.size w7) w7 (TmIn (OkN W.heap.size w7) w7) t.sys (.slice sa6 t.sys.length sc6):=hS6.all k7.size (fun q hq=>(hq.mono s5).kn k7 (by omega)) (fun g hg hs=>k7.block g (by have:=hg.1;omega) hs)
 have b7:Below w.heap.size w w7:=(bchain b5 hb6).trans (k7.below (fun q hq=>by omega) (by have:=hb6.size;omega))
 have s7:W.heap.size≤w7.heap.size:=Nat.le_trans s5 (Nat.le_trans hb6.size k7.size)
 obtain⟨w8,hw8⟩:∃ w8,w8=(((((w7.setCell ⟨w.heap.size+1,0,none⟩ (.int .i64 t.kind)).setCell ⟨w.heap.size+1,1,none⟩ (.int .i64 t.n)).setCell ⟨w.heap.size+1,2,none⟩ (.string t.name)).setCell ⟨w.heap.size+1,3,none⟩ (.slice ra2 t.r.length rc2)).setCell ⟨w.heap.size+1,4,none⟩ (.slice ka4 t.kids.length kc4)).setCell ⟨w.heap.size+1,5,none⟩ (.slice sa6 t.sys.length sc6):=⟨_,rfl⟩
 have y28:Six w8 (w.heap.size+1) (.int .i64 t.kind) (.int .i64 t.n) (.string t.name) (.slice ra2 t.r.length rc2) (.slice ka4 t.kids.length kc4) (.slice sa6 t.sys.length sc6):=by rw [hw8];exact y27.set6 _ _ _ _ _ _
 have k8:Kn (fun q=>q≠w.heap.size+1) w7 w8:=by
  rw [hw8]
  exact (((((kn_set _ _ _ _).trans (kn_set _ _ _ _)).trans (kn_set _ _ _ _)).trans (kn_set _ _ _ _)).trans (kn_set _ _ _ _)).trans (kn_set _ _ _ _)
 have b8:Below w.heap.size w w8:=b7.trans (k8.below (fun q hq=>by omega) (by omega))
 have HT:Hid (TmIn (OkN w.heap.size w8) w8 t (.agg #[.int .i64 t.kind,.int .i64 t.n,.string t.name,.slice ra2 t.r.length rc2,.slice ka4 t.kids.length kc4,.slice sa6 t.sys.length sc6])):=by
  have up:∀ q,OkN W.heap.size w7 q→OkN w.heap.size w8 q:=fun q hq=>(hq.kn k8 (by omega)).mono (by omega)
  have ub:∀ g,OkN W.heap.size w7 g→g<w7.heap.size→w8.heap[g]? = w7.heap[g]?:=fun g hg hs=>k8.block g (by have:=hg.1;omega) hs
  exact TmTop.value ⟨ik,inn,hr7.keep k8.size up ub,hK7.all k8.size up ub,hS7.all k8.size up ub⟩
 obtain⟨a0,a1,a2,a3,a4,a5,af⟩:=y16.cells
 have f5:=af 5
 obtain⟨d0,d1,d2,d3,d4,d5,df⟩:=y17.cells
 obtain⟨e0,e1,e2,e3,e4,e5,ef⟩:=y27.cells
 have g0:=ef 0
 have g1:=ef 1
 have g2:=ef 2
 have g3:=ef 3
 have g4:=ef 4
 have g5:=ef 5
 obtain⟨h0,h1,h2,h3,h4,h5,_⟩:=y28.cells
 have H7:Hid (_=_):=hw7
 have H8:Hid (_=_):=hw8
 clear hw7 hw8 af df ef y16 y17 y26 y27 y28 hr6 hr7 hK6 hK7 hS6 hS7 k7 k8 hb6 b7 b5 s5 s7 y15 y25 hr5 hK5
 go_upto_region 4 with fail
 rw [← H7.out]
 clear H7 a0 a1 a2 a3 a4 a5 f5
 go_wp2_with fail
 rw [← H8.out]
 exact bodyPost_ret (v:=.agg #[.int .i64 t.kind,.int .i64 t.n,.string t.name,.slice ra2 t.r.length rc2,.slice ka4 t.kids.length kc4,.slice sa6 t.sys.length sc6]) (by simp only [results,Tryz.results57];simp [go_sem,h0,h1,h2,h3,h4,h5]) rfl ⟨_,rfl,HT.out,b8⟩
end Go.Proofs.YtmblbmdchinflaaGreat
set_option linter.unusedVariables false
set_option linter.unusedSimpArgs false
namespace Go.Proofs.YtmblbmdchinflaaGreat
open Go.RowKit
structure Mk (w:World) (g:Nat) (f:Int):Prop where
 blk:∃ ty,w.heap[g]? = some (.cells #[.int .i64 f] ty (0,0))
theorem Mk.lt {w:World} {g:Nat} {f:Int} (h:Mk w g f):g<w.heap.size:=by obtain⟨ty,h⟩:=h.blk;exact (Array.getElem?_eq_some_iff.1 h).1
theorem Mk.cells {w:World} {g:Nat} {f:Int} (h:Mk w g f):w.cell? ⟨g,0,none⟩=some (.int .i64 f)∧w.frozen? ⟨g,0,none⟩=false:=by
 obtain⟨ty,h⟩:=h.blk
 exact⟨by simp [World.cell?,h],by unfold World.frozen?; simp [h]⟩
theorem Mk.kn {No:Nat→Prop} {w w':World} {g:Nat} {f:Int} (h:Mk w g f) (hk:Kn No w w') (hg:No g):Mk w' g f:=by
 have hl:=h.lt
 obtain⟨ty,h⟩:=h.blk
 exact⟨ty,(hk.block g hg hl).trans h⟩
theorem Mk.blw {w w':World} {g:Nat} {f:Int} (h:Mk w g f) (hb:Below w.heap.size w w'):Mk w' g f:=h.kn (Kn.of_below (No:=fun _=>True) hb) trivial
theorem Mk.set {w:World} {g:Nat} {f:Int} (h:Mk w g f) (e:Int):Mk (w.setCell ⟨g,0,none⟩ (.int .i64 e)) g e:=by
 obtain⟨ty,h⟩:=h.blk
 exact⟨ty,set_blk h _⟩
theorem kn_set66 (w:World) (s:Nat) (u0 u1 u2 u3 u4 u5:Value):Kn (fun q=>q≠s) w ((((((w.setCell ⟨s,0,none⟩ u0).setCell ⟨s,1,none⟩ u1).setCell ⟨s,2,none⟩ u2).setCell ⟨s,3,none⟩ u3).setCell ⟨s,4,none⟩ u4).setCell ⟨s,5,none⟩ u5):=(((((kn_set _ _ _ _).trans (kn_set _ _ _ _)).trans (kn_set _ _ _ _)).trans (kn_set _ _ _ _)).trans (kn_set _ _ _ _)).trans (kn_set _ _ _ _)
theorem Kn.new {No:Nat→Prop} {x:Nat} {w0 w w':World} (h:Kn No w0 w) (hk:Kn (fun q=>q≠x) w w') (hx:w0.heap.size≤x):Kn No w0 w' :=
 ⟨hk.os.trans h.os,hk.tape.trans h.tape,hk.output.trans h.output,Nat.le_trans h.size hk.size,fun i hi hb=>(hk.block i (by omega) (Nat.lt_of_lt_of_le hb h.size)).trans (h.block i hi hb)⟩
theorem Kn.blw {No:Nat→Prop} {w0 w w':World} (h:Kn No w0 w) (hb:Below w.heap.size w w'):Kn No w0 w':=h.trans (Kn.of_below hb)
def Bt (g lo hi:Nat):Nat→Prop:=fun q=>q≠g∧lo≤q∧q<hi
theorem ClRow.lt' {ok ok':Nat→Prop} {w:World} {l:List C} {v:Value} (h:ClRow ok w l v) (hq:∀ q,ok q→q<w.heap.size→ok' q):ClRow ok' w l v:=by
 obtain⟨a,cap,h1,h2,h3⟩:=h
 refine⟨a,cap,h1,h2,fun j x hx=>?_⟩
 obtain⟨g,off,a1,a2,a3,a4⟩:=h3 j x hx
 exact⟨g,off,a1,hq g a2 a3,a3,a4⟩
theorem KdT.lt' {ok ok':Nat→Prop} {w:World} {P:Tm→Value→Prop} {l:List Tm} {v:Value} (h:KdT ok w P l v) (hq:∀ q,ok q→q<w.heap.size→ok' q):KdT ok' w P l v:=by
 obtain⟨a,cap,h1,h2,h3⟩:=h
 refine⟨a,cap,h1,h2,fun j x hx=>?_⟩
 obtain⟨g,off,u0,u1,u2,u3,u4,u5,a1,a2,a3,a4⟩:=h3 j x hx
 exact⟨g,off,u0,u1,u2,u3,u4,u5,a1,hq g a2 a3,a3,a4⟩
theorem SyT.lt' {ok ok':Nat→Prop} {w:World} {P:Tm→Value→Prop} {l:List (List C × List Tm)} {v:Value} (h:SyT ok w P l v) (hq:∀ q,ok q→q<w.heap.size→ok' q):SyT ok' w P l v:=by
 obtain⟨a,cap,h1,h2,h3⟩:=h
 refine⟨a,cap,h1,h2,fun j x hx=>?_⟩
 obtain⟨g,off,vf,vk,a1,a2,a3,a4,a5,a6⟩:=h3 j x hx
 exact⟨g,off,vf,vk,a1,hq g a2 a3,a3,a4.lt' hq,a5.lt' hq,a6⟩
theorem TmIn.lt' {ok ok':Nat→Prop} {w:World} {t:Tm} {v:Value} (h:TmIn ok w t v) (hq:∀ q,ok q→q<w.heap.size→ok' q):TmIn ok' w t v :=
 h (TmIn ok' w) fun k n nm r kids sys vr vk vs hk hn h1 h2 h3=>.mk k n nm r kids sys vr vk vs hk hn (h1.lt' hq) (h2.lt' hq) (h3.lt' hq)
theorem SyT.ltA {ok ok':Nat→Prop} {w:World} {l:List (List C × List Tm)} {v:Value} (h:SyT ok w (TmIn ok w) l v) (hq:∀ q,ok q→q<w.heap.size→ok' q):SyT ok' w (TmIn ok' w) l v:=(h.lt' hq).mono fun _ _ hx=>hx.lt' hq
theorem KdT.ltA {ok ok':Nat→Prop} {w:World} {l:List Tm} {v:Value} (h:KdT ok w (TmIn ok w) l v) (hq:∀ q,ok q→q<w.heap.size→ok' q):KdT ok' w (TmIn ok' w) l v:=(h.lt' hq).mono fun _ _ hx=>hx.lt' hq
theorem TmIn.bt {g lo:Nat} {w:World} {t:Tm} {v:Value} (h:TmIn (OkN lo w) w t v) (hg:g<lo):TmIn (Bt g lo w.heap.size) w t v:=h.lt' fun q hq hs=>⟨by have:=hq.1;omega,hq.1,hs⟩
theorem ClRow.bt {g lo:Nat} {w:World} {l:List C} {v:Value} (h:ClRow (OkN lo w) w l v) (hg:g<lo):ClRow (Bt g lo w.heap.size) w l v:=h.lt' fun q hq hs=>⟨by have:=hq.1;omega,hq.1,hs⟩
theorem TmIn.tt {ok:Nat→Prop} {w:World} {t:Tm} {v:Value} (h:TmIn ok w t v):TmIn Tt w t v:=h.up fun _ _=>trivial
theorem ClRow.kn {ok No:Nat→Prop} {w w':World} {l:List C} {v:Value} (h:ClRow ok w l v) (hk:Kn No w w') (ho:∀ g,ok g→No g):ClRow ok w' l v:=h.keep hk.size (fun _ h=>h) (fun g h1 h2=>hk.block g (ho g h1) h2)
theorem ClRow.tt {ok:Nat→Prop} {w:World} {l:List C} {v:Value} (h:ClRow ok w l v):ClRow Tt w l v:=h.lt' fun _ _ _=>trivial
end Go.Proofs.YtmblbmdchinflaaGreat
set_option linter.unusedVariables false
set_option linter.unusedSimpArgs false
namespace Go.Proofs.YtmblbmdchinflaaGreat
section
variable {F:Fence} {m:Nat} {P:Program} {ops:Array Oper} {md:Region.Mode} {w:World}
def calmB (l:List Oper):Bool:=l.all fun o=>match o.op with | .defer _=>false | _=>true
theorem calm_op {l:List Oper} (h:calmB l=true) {i:Nat} {o:Oper} (hi:l.toArray[i]? = some o):∀ c,o.op≠.defer c:=fun c e=>by
 have h1:=List.all_eq_true.1 h o (List.mem_of_getElem? (by simpa using hi))
 rw [e] at h1;cases h1
theorem inOp_of_stOp (hF:∀ f,F.fn f) (hd:F.depth=none) (hB:∀ {f:FuncId} {args:Array Value} {w:World} {R:Ending→World→Prop},Calls P f args w R→CallsIn F (m - 1) P f args w R) (hc:∀ (i:Nat) (o:Oper),ops[i]? = some o→∀ c,o.op≠Op.defer c) {i:Nat} {a:Act} {K:Act→Prop} {K':Act→World→Prop} {Q:Exit→Act→World→Prop} (h:∀ a,K a→K' a w) (hh:stOp P ops w i K a):wpOpIn F m P ops Q i K' a w:=by
 unfold stOp at hh
 unfold wpOpIn
 split
 ·rename_i ho;simp only [ho] at hh;exact h _ hh
 ·rename_i o ho
  simp only [ho] at hh
  split
  ·rename_i hw
   simp only [hw,if_true] at hh
   refine⟨fun f _=>hF f,?_⟩
   rw [Oper.semAt_plain F _ o (hc i o ho)]
   unfold Oper.still at hh
   generalize (execOp a.eval o).run P w=r at *
   cases r with
   | ok x w' =>
    cases x <;> simp only [Oper.stillUpon] at hh <;> simp only [Oper.uponIn]
    case enter f args =>
     obtain⟨rfl,v,hcall,hn⟩:=hh
     exact⟨fun h=>(by rw [hd] at h;cases h),hB (hcall.mono fun e w'' he=>by obtain⟨rfl,rfl⟩:=he;exact h _ hn)⟩
    all_goals (obtain⟨rfl,h2⟩:=hh;exact h _ h2)
   | halt x w'=>simp only [Oper.stillUpon] at hh
  ·rename_i hw;simp only [hw] at hh;exact⟨fun f _=>hF f,h _ hh⟩
theorem inAny_of_head (hF:∀ f,F.fn f) (hd:F.depth=none) (hB:∀ {f:FuncId} {args:Array Value} {w:World} {R:Ending→World→Prop},Calls P f args w R→CallsIn F (m - 1) P f args w R) (hc:∀ (i:Nat) (o:Oper),ops[i]? = some o→∀ c,o.op≠Op.defer c) {n g:Nat} {L:Array Bool→Act→Prop} {Q:Exit→Act→World→Prop} (hL:∀ listed a,L listed a→wpAnyIn F m P md ops Q g listed a w) :
  ∀ (f:Nat) (listed:Array Bool) (a:Act),wpAnyL P md ops w n L f listed a→wpAnyIn F m P md ops Q (f+g) listed a w
 | 0,listed,a,h=>by rw [Nat.zero_add];exact hL _ _ h
 | f+1,listed,a,h=>by
  rw [show f+1+g=(f+g) + 1 by omega]
  exact⟨fun h0=>absurd h0 h.1,fun i hi=>inOp_of_stOp hF hd hB hc (fun a' h'=>inAny_of_head hF hd hB hc hL f _ a' h') (h.2 i hi).2⟩
theorem inAny_of_seq {Q:Exit→Act→World→Prop}:∀ (l:List Oper) (k:Nat) (listed:Array Bool) (a:Act) (w:World),(∀ j,l[j]? = ops[k+j]?) →
  Region.seqB md ops l.length k listed=true→wpListIn F m P ops Q l a w→wpAnyIn F m P md ops Q l.length listed a w
 | [],_,_,_,_,_,hB,h=>⟨by simpa [Region.seqB] using hB,h⟩
 | o :: l,k,listed,a,w,hl,hB,h=>by
  have h0:ops[k]? = some o:=by simpa using (hl 0).symm
  simp only [List.length_cons,Region.seqB,Bool.and_eq_true,decide_eq_true_eq] at hB
  refine⟨fun h1=>(by rw [hB.1] at h1;cases h1),fun i hi=>?_⟩
  rw [hB.1] at hi
  obtain rfl:i=k:=by simpa using hi
  have hw:wpOpIn F m P ops Q i (wpListIn F m P ops Q l) a w:=by unfold wpOpIn;simp only [h0];exact h
  exact wpOpIn_mono (fun a' w' h'=>inAny_of_seq l (i+1) _ a' w' (fun j=>by have:=hl (j+1);simpa [Nat.add_assoc,Nat.add_comm 1 j] using this) hB.2 h') hw
theorem in_region_tail (hF:∀ f,F.fn f) (hd:F.depth=none) (hB0:∀ {f:FuncId} {args:Array Value} {w:World} {R:Ending→World→Prop},Calls P f args w R→CallsIn F (m - 1) P f args w R) {id:Nat} {Q:Exit→Act→World→Prop} {a:Act} {l:List Oper} (n:Nat) (hm:P.follows .mixedOrders=true) (hB:Region.lexTailB .any l.toArray n=true) (hcalm:calmB l=true)
  (h:wpStill P l.toArray w.drew (fun a'=>wpListIn F m P l.toArray Q (l.drop n) a' w.drew) (l.take n) a):(Code.region id l.toArray true).wpIn F m P Q a w:=by
 simp only [Region.lexTailB,Bool.and_eq_true,decide_eq_true_eq] at hB
 obtain⟨⟨⟨⟨hsel,hn⟩,hs⟩,hc⟩,hlex⟩:=hB
 have hn':n<l.length:=by simpa using hn
 have htl:(l.take n).length=n:=by simp;omega
 have hdl:(l.drop n).length=l.toArray.size - n:=by simp
 have inv0:HeadInv .any l.toArray n (Array.replicate l.toArray.size false) :=
  ⟨by simp,fun j oj _ hl=>(by rw [getD_replicate_false] at hl;cases hl),fun t _ ht=>getD_in (by simpa using ht) (getD_replicate_false _ _)⟩
 have H:=wpAnyL_lex (md:=.any) (g:=l.toArray.size - n) hsel hs hc hn (l.take n) 0 _ a (fun j hj=>by
  have hj':j<n:=by rw [htl] at hj;exact hj
  simp [hj']) (by simpa using htl) inv0 (by rw [htl];exact hlex) h
 refine wpIn_region_any hm ?_
 have:=inAny_of_head (Q:=Q) hF hd hB0 (fun i o hi=>calm_op hcalm hi) (g:=l.toArray.size - n) (fun listed a' hL=>by
  have:=inAny_of_seq (md:=.any) (Q:=Q) (F:=F) (m:=m) (P:=P) (l.drop n) n listed a' w.drew (fun j=>by simp [List.getElem?_drop]) (by rw [hdl];exact hL.1) hL.2
  rwa [hdl] at this) _ _ _ H
 rw [htl,show n+(l.toArray.size - n)=l.toArray.size by omega] at this
 exact this
end
end Go.Proofs.YtmblbmdchinflaaGreat
set_option linter.unusedVariables false
set_option linter.unusedSimpArgs false
namespace Go.Proofs.YtmblbmdchinflaaGreat
open Go.RowKit
def IterC (n:Nat) (P:Program) (gf:Nat) (lb:Array Value) (A:Nat→Array Value→Prop) (m bx ab:Nat) (w:World):Prop :=
 ∀ (l:Nat) (J:Nat→World→Prop) (X:World→Prop) (W:World),Below w.heap.size w W →
  (∀ k W1 W2,J k W1→Kn (fun g=>g≠bx) W1 W2→J k W2) →
  (∀ k args W1,k<m→A k args→J k W1→YieldAt Fence.wide (n - 1) P l args W1 fun e W'=>(e=.returned (.bool true)∧J (k+1) W'∧Kn (fun g=>g≠ab) W1 W')∨(e=.returned (.bool false)∧X W')) →
  J 0 W→CallsIn Fence.wide n P gf (#[.func (.yield l) #[] #[]] ++ lb) W fun e W'=>(∃ v,e=.returned v)∧(J m W'∨X W')
def rndP (I:Nat→World→Prop) (X:World→Prop) (ab k:Nat) (W:World):Exit→Act→World→Prop
 | .normal,_,W'=>Kn (fun g=>g≠ab) W W'∧I (k+1) W'
 | .ret,_,W'=>Kn (fun g=>g≠ab) W W'∧X W'
 | _,_,_=>False
theorem kn_put {W:World} {l:Nat} (o:Obj):Kn (fun g=>g≠l) W (W.putObj l o) :=
 ⟨rfl,rfl,rfl,by simp,fun k hk _=>World.putObj_heap_other hk⟩
theorem range_own {P:Program} {g:Operand} {ps:Array Tmp} {assign body:Code} {Q:Exit→Act→World→Prop} {a:Act} {w:World} {n gf:Nat} {lb:Array Value}
  (h1:1≤n) (hg:a.eval g=.func (.func gf) #[] lb) (eg:∀ args w,(callFunc gf args).run P w=.ok (.enter gf args) w)
  (Ar:Nat→Array Value→Prop) (m bx ab:Nat) (hbx:bx<w.heap.size) (hab:ab<w.heap.size) (hseq:IterC (n - 1) P gf lb Ar m bx ab w) (hps:∀ k args,Ar k args→args.size=ps.size)
  (I:Nat→World→Prop) (X:World→Prop)
  (hI:∀ k W1 W2,I k W1→Kn (fun g=>g<w.heap.size∧g≠bx) W1 W2→I k W2) (hX:∀ W1 W2,X W1→Kn (fun g=>g<w.heap.size∧g≠bx) W1 W2→X W2) (h0:I 0 w)
  (hround:∀ (l k:Nat) (args:Array Value) (W:World),k<m→Ar k args→I k W→w.heap.size≤l→l<W.heap.size →
   assign.wpIn (Fence.wide.inRound l) (n - 1 - 1) P (Exit.then (fun a' W1=>Kn (fun g=>g≠ab) W W1∧∀ W2,Kn (fun g=>g≠l) W1 W2→body.wpIn (Fence.wide.inRound l) (n - 1 - 1) P (rndP I X ab k W2) a' W2) (fun _ _ _=>False))
    { tmps:=(ps.zip args).foldl (fun t (p,v)=>t.setIfInBounds p v) a.tmps,defers:=[] } W)
  (hdone:∀ (D:Nat) (W:World),w.heap.size≤D→I m W→W.heap[D]? = some (.deferred (some []))→Q .normal { a with defers:={ target:=.collected D,args:=#[] } :: a.defers } W)
  (hstop:∀ (D:Nat) (W:World),w.heap.size≤D→X W→W.heap[D]? = some (.deferred (some []))→Code.ret.wpIn Fence.wide n P Q { a with defers:={ target:=.collected D,args:=#[] } :: a.defers } W) :
  (Code.rangeFunc g ps assign body).wpIn Fence.wide n P Q a w:=by
 refine wpIn_rangeFunc fun fn hfn=>?_
 obtain⟨s,hs⟩:∃ s,s=w.heap.size:=⟨_,rfl⟩
 obtain⟨L,hL⟩:∃ L:LoopState→Option Code→Loop,L=fun st pe=>{ state:=st,pending:=pe,fn,tmps:=a.tmps,params:=ps,assign,body,defers:=s }:=⟨_,rfl⟩
 obtain⟨W1,hW1⟩:∃ W1,W1=(w.alloc (.deferred (some []))).alloc (.loop (L .ready none)):=⟨_,rfl⟩
 have b1:Below w.heap.size w W1:=by rw [hW1];exact bchain (belowA w _) (belowA _ _)
 have hd1:W1.heap[s]? = some (.deferred (some [])):=by
  rw [hW1,hs];exact (Below.heap_alloc _ _ _ (by simp)).trans (heapNew w _)
 have hl1:W1.heap[s+1]? = some (.loop (L .ready none)):=by
  rw [hW1,hs];have:=heapNew (w.alloc (.deferred (some []))) (.loop (L .ready none));rwa [World.size_alloc] at this
 have knI:∀ {No:Nat→Prop} {A B:World},Kn No A B→(∀ g,g<w.heap.size→g≠bx→No g)→Kn (fun g=>g<w.heap.size∧g≠bx) A B:=fun h k=>h.sub fun g hg=>k g hg.1 hg.2
 have putI:∀ (k:Nat) (A:World) (o:Obj),I k A→I k (A.putObj (s+1) o):=fun k A o h=>hI k A _ h (knI (kn_put o) fun g h1 _=>by omega)
 have putX:∀ (A:World) (o:Obj),X A→X (A.putObj (s+1) o):=fun A o h=>hX A _ h (knI (kn_put o) fun g h1 _=>by omega)
 refine⟨s+1,[{ target:=.collected s,args:=#[] }],W1,{ target:=.fn (.func gf) lb,args:=#[.func (.yield (s+1)) #[] #[]] },W1,gf,#[.func (.yield (s+1)) #[] #[]] ++ lb,W1,?_,?_,fun _ _=>trivial,?_,fun _=>h1,?_⟩
 ·rw [hW1,hL,hs];exact run_enterLoop_outer _ _ _ _ _
 ·simp only [resolve,hg];simp [go_sem]
 ·simp [invoke,go_sem,eg]
 ·refine (hseq (s+1) (fun k A=>I k A∧A.heap[s+1]? = some (.loop (L .ready none))∧A.heap[s]? = some (.deferred (some [])))
   (fun A=>X A∧A.heap[s+1]? = some (.loop (L .done (some .ret)))∧A.heap[s]? = some (.deferred (some []))) W1 b1 ?_ ?_ ⟨hI 0 w W1 h0 (Kn.of_below b1),hl1,hd1⟩).mono ?_
  ·rintro k A B ⟨a1,a2,a3⟩ hk
   exact⟨hI k A B a1 (knI hk fun g _ h=>h),(hk.block _ (by omega) (Array.getElem?_eq_some_iff.1 a2).1).trans a2,(hk.block _ (by omega) (Array.getElem?_eq_some_iff.1 a3).1).trans a3⟩
  ·rintro k args A hkm hA ⟨a1,a2,a3⟩
   have hy:=run_yield (P:=P) (args:=args) a2 (by rw [hL];exact hps k args hA)
   rw [hL] at hy
   refine⟨fn,_,assign,body,hy,roundIn_of_wpIn hfn (wpIn_mono (hround (s+1) k args A hkm hA a1 (by omega) (Array.getElem?_eq_some_iff.1 a2).1) ?_)⟩
   rintro e a' B hp
   cases e with
   | normal =>
    obtain⟨kB,hbody⟩:=hp
    have l2:=(kB.block (s+1) (by omega) (Array.getElem?_eq_some_iff.1 a2).1).trans a2
    have d2:=(kB.block s (by omega) (Array.getElem?_eq_some_iff.1 a3).1).trans a3
    refine⟨_,run_beginRound l2 (by rw [hL]),?_⟩
    obtain⟨B2,hB2⟩:∃ B2,B2=B.putObj (s+1) (.loop { L .ready none with state:=.busy }):=⟨_,rfl⟩
    rw [← hB2]
    have k2:Kn (fun g=>g≠s+1) B B2:=by rw [hB2];exact kn_put _
    have l3:B2.heap[s+1]? = some (.loop { L .ready none with state:=.busy }):=by rw [hB2];exact World.putObj_heap_same (Array.getElem?_eq_some_iff.1 l2).1
    have d3:=(k2.block s (by omega) (Array.getElem?_eq_some_iff.1 d2).1).trans d2
    refine wpIn_mono (hbody B2 k2) ?_
    have fin:∀ (jump:Option Code) (B3:World),Kn (fun g=>g≠ab) B2 B3→∃ B4,(Instr.endRound (s+1) jump).run P B3=.ok (.bool jump.isNone) B4∧B4=B3.putObj (s+1) (.loop (L (if jump.isNone then .ready else .done) jump))∧B4.heap[s+1]? = some (.loop (L (if jump.isNone then .ready else .done) jump))∧B4.heap[s]? = some (.deferred (some [])):=fun jump B3 k3=>by
     have l4:=(k3.block (s+1) (by omega) (Array.getElem?_eq_some_iff.1 l3).1).trans l3
     have d4:=(k3.block s (by omega) (Array.getElem?_eq_some_iff.1 d3).1).trans d3
     have hr:=run_endRound (P:=P) jump l4
     rw [hL] at hr ⊢
     exact⟨_,hr,rfl,World.putObj_heap_same (Array.getElem?_eq_some_iff.1 l4).1,((kn_put _).block s (by omega) (Array.getElem?_eq_some_iff.1 d4).1).trans d4⟩
    rintro e a3 B3 hp
    cases e with
    | normal =>
     obtain⟨k3,i3⟩:=hp
     obtain⟨B4,hr,e4,l5,d5⟩:=fin none B3 k3
     refine⟨_,B4,hr,.inl ⟨rfl,⟨?_,l5,d5⟩,?_⟩⟩
     ·rw [e4];exact putI _ _ _ i3
     ·-- the loop's own record is ready again, as it was
      have hback:B4.heap[s+1]? = A.heap[s+1]?:=by rw [l5,a2];rfl
      refine⟨?_,?_,?_,?_,fun q hq hqs=>?_⟩
      ·rw [e4];exact (k3.os.trans k2.os).trans kB.os
      ·rw [e4];exact (k3.tape.trans k2.tape).trans kB.tape
      ·rw [e4];exact (k3.output.trans k2.output).trans kB.output
      ·rw [e4];simpa using Nat.le_trans (Nat.le_trans kB.size k2.size) k3.size
      ·by_cases e:q=s+1
       ·rw [e];exact hback
       ·rw [e4]
        have q1:=Nat.lt_of_lt_of_le hqs kB.size
        have q2:=Nat.lt_of_lt_of_le q1 k2.size
        exact (World.putObj_heap_other e).trans ((k3.block q hq q2).trans ((k2.block q e q1).trans (kB.block q hq hqs)))
    | ret =>
     obtain⟨k3,i3⟩:=hp
     obtain⟨B4,hr,e4,l5,d5⟩:=fin (some .ret) B3 k3
     refine⟨_,B4,hr,.inr ⟨rfl,?_,l5,d5⟩⟩
     rw [e4];exact putX _ _ i3
    | exit id=>exact hp.elim
    | goto t=>exact hp.elim
    | panic ch=>exact hp.elim
    | outgrown=>exact hp.elim
   | ret=>exact hp.elim
   | exit id=>exact hp.elim
   | goto t=>exact hp.elim
   | panic ch=>exact hp.elim
   | outgrown=>exact hp.elim
  ·rintro e B ⟨⟨v,rfl⟩,(⟨i2,l2,d2⟩ | ⟨x2,l2,d2⟩)⟩
   ·have hr:=run_endLoop (P:=P) l2 (by rw [hL];simp)
    refine⟨none,B.putObj (s+1) (.loop { L .ready none with state:=.exhausted }),by rw [hL] at hr ⊢; exact hr,?_⟩
    exact hdone s _ (by omega) (putI _ _ _ i2) (((kn_put _).block s (by omega) (Array.getElem?_eq_some_iff.1 d2).1).trans d2)
   ·have hr:=run_endLoop (P:=P) l2 (by rw [hL];simp)
    refine⟨some .ret,B.putObj (s+1) (.loop { L .done (some .ret) with state:=.exhausted }),by rw [hL] at hr ⊢; exact hr,?_⟩
    exact hstop s _ (by omega) (putX _ _ x2) (((kn_put _).block s (by omega) (Array.getElem?_eq_some_iff.1 d2).1).trans d2)
end Go.Proofs.YtmblbmdchinflaaGreat
set_option linter.unusedVariables false
set_option linter.unusedSimpArgs false
namespace Go.Proofs.YtmblbmdchinflaaGreat
open Go.RowKit
theorem retI {k:IntKind} {a b:Int} (h:a=b):Ending.returned (.int k a)=.returned (.int k b):=by rw [h]
theorem retII {k:IntKind} {a b c d:Int} (h:a=b) (h2:c=d):Ending.returned (.tuple #[.int k a,.int k c])=.returned (.tuple #[.int k b,.int k d]):=by rw [h,h2]
set_option maxRecDepth 100000 in
set_option maxHeartbeats 1000000 in
theorem kids_any (k:Int) (w:World):Calls Tryz.prog 146 #[.int .i64 k] w fun e w'=>e=.returned (.int .i64 (kidsK k))∧w'=w:=by
 have h:k=1∨k=2∨k=3∨k=19∨k=20∨k=21∨k=24∨k=25∨k=5∨k=9∨k=10∨k=12∨k=16∨k=17∨k=18∨k=23∨k=26∨k=4∨k=6∨k=7∨k=8∨k=14∨k=15∨k=28∨k=11∨k=13∨k=22∨k=27∨(k<1∨28<k):=by omega
 rcases h with rfl|rfl|rfl|rfl|rfl|rfl|rfl|rfl|rfl|rfl|rfl|rfl|rfl|rfl|rfl|rfl|rfl|rfl|rfl|rfl|rfl|rfl|rfl|rfl|rfl|rfl|rfl|rfl|h
 case inr.inr.inr.inr.inr.inr.inr.inr.inr.inr.inr.inr.inr.inr.inr.inr.inr.inr.inr.inr.inr.inr.inr.inr.inr.inr.inr.inr =>
  have e:Hid (kidsK k = -1):=by show _=_;unfold kidsK;rw [if_neg (by omega),if_neg (by omega),if_neg (by omega),if_neg (by omega),if_neg (by omega),if_neg (by omega)]
  have n1:¬ k=1:=by omega
  have n2:¬ k=2:=by omega
  have n3:¬ k=3:=by omega
  have n4:¬ k=4:=by omega
  have n5:¬ k=5:=by omega
  have n6:¬ k=6:=by omega
  have n7:¬ k=7:=by omega
  have n8:¬ k=8:=by omega
  have n9:¬ k=9:=by omega
  have n10:¬ k=10:=by omega
  have n11:¬ k=11:=by omega
  have n12:¬ k=12:=by omega
  have n13:¬ k=13:=by omega
  have n14:¬ k=14:=by omega
  have n15:¬ k=15:=by omega
  have n16:¬ k=16:=by omega
  have n17:¬ k=17:=by omega
  have n18:¬ k=18:=by omega
  have n19:¬ k=19:=by omega
  have n20:¬ k=20:=by omega
  have n21:¬ k=21:=by omega
  have n22:¬ k=22:=by omega
  have n23:¬ k=23:=by omega
  have n24:¬ k=24:=by omega
  have n25:¬ k=25:=by omega
  have n26:¬ k=26:=by omega
  have n27:¬ k=27:=by omega
  have n28:¬ k=28:=by omega
  clear h
  go_enter Tryz.func146,Tryz.ntmps146
  go_wp2
  go_ret
  exact⟨retI e.out.symm,rfl⟩
 all_goals
  go_enter Tryz.func146,Tryz.ntmps146
  go_wp2
  go_ret
  exact⟨rfl,rfl⟩
set_option maxRecDepth 100000 in
set_option maxHeartbeats 1000000 in
theorem partsC_any (k:Int) (w:World):Calls Tryz.prog 177 #[.int .i64 k] w fun e w'=>e=.returned (.int .i64 (partsK k))∧w'=w:=by
 go_enter Tryz.func177,Tryz.ntmps177
 go_wp2
 all_goals
  go_ret
  exact⟨retI (by unfold partsK;simp_all),rfl⟩
set_option maxRecDepth 100000 in
set_option maxHeartbeats 1000000 in
theorem bindsC_any (k i:Int) (w:World):Calls Tryz.prog 92 #[.int .i64 k,.int .i64 i] w fun e w'=>e=.returned (.tuple #[.int .i64 (bvI k i),.int .i64 (bdI k i)])∧w'=w:=by
 go_enter Tryz.func92,Tryz.ntmps92
 go_wp2
 all_goals
  go_ret2
  exact⟨retII (by unfold bvI;simp_all) (by unfold bdI;simp_all),rfl⟩
def lK:List Int:=[-1,0,0,0,2,1,2,2,2,1,1,3,1,3,2,2,1,1,1,0,0,0,4,1,0,0,1,5,2]
end Go.Proofs.YtmblbmdchinflaaGreat
