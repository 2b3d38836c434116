/- A term of its own memory: the node. -/
import Derived.Test.YtblbhmnahoiecaaGreatGG7
import Derived.Test.YtblbhmnahoiecaaGreatGG6
import Derived.Great.Walk
import Derived.Deep.WholeRow
import Derived.Deep.Cut
import Derived.Deep.QuietTactic
import Derived.BigQuiet
import Derived.WalkSmall
import Derived.Test.YtblbhmnahoiecaaGreatGFB
import Derived.Test.YtblbhmnahoiecaaGreatGG5
set_option linter.unusedVariables false
set_option linter.unusedSimpArgs false
set_option maxRecDepth 100000
set_option maxHeartbeats 8000000
namespace Go.Proofs.YtblbhmnahoiecaaGreat
open Go.RowKit
structure Six (w:World) (s:Nat) (v0 v1 v2 v3 v4 v5:Value):Prop where
 blk:w.heap[s]? = some (.cells #[v0,v1,v2,v3,v4,v5] 26 (0,0))
theorem Six.cells {w:World} {s:Nat} {v0 v1 v2 v3 v4 v5:Value} (h:Six w s v0 v1 v2 v3 v4 v5):w.cell? ⟨s,0,none⟩=some v0∧w.cell? ⟨s,1,none⟩=some v1∧w.cell? ⟨s,2,none⟩=some v2∧w.cell? ⟨s,3,none⟩=some v3∧w.cell? ⟨s,4,none⟩=some v4∧w.cell? ⟨s,5,none⟩=some v5∧∀ i,w.frozen? ⟨s,i,none⟩=false:=by
 have h:=h.blk
 refine⟨?_,?_,?_,?_,?_,?_,fun i=>?_⟩
 all_goals first | (unfold World.cell?; simp [h];done) | (unfold World.frozen?; simp [h])
theorem Six.blw {w w':World} {s:Nat} {v0 v1 v2 v3 v4 v5:Value} (h:Six w s v0 v1 v2 v3 v4 v5) (hb:Below w.heap.size w w'):Six w' s v0 v1 v2 v3 v4 v5:=⟨(hb.block s (Array.getElem?_eq_some_iff.1 h.blk).1).trans h.blk⟩
theorem Six.lt {w:World} {s:Nat} {v0 v1 v2 v3 v4 v5:Value} (h:Six w s v0 v1 v2 v3 v4 v5):s<w.heap.size:=(Array.getElem?_eq_some_iff.1 h.blk).1
theorem set_blk {w:World} {s i:Nat} {cs:Array Value} {ty:TypeId} (h:w.heap[s]? = some (.cells cs ty (0,0))) (u:Value):(w.setCell ⟨s,i,none⟩ u).heap[s]? = some (.cells (cs.setIfInBounds i u) ty (0,0)):=by
 obtain⟨hlt,hk⟩:=Array.getElem?_eq_some_iff.1 h
 show (w.heap.modify s _)[s]? = _
 rw [Array.getElem?_eq_getElem (by rw [Array.size_modify];exact hlt),Array.getElem_modify_self,hk]
 rfl
theorem Six.set3 {w:World} {s:Nat} {v0 v1 v2 v3 v4 v5:Value} (h:Six w s v0 v1 v2 v3 v4 v5) (u:Value):Six (w.setCell ⟨s,3,none⟩ u) s v0 v1 v2 u v4 v5:=⟨set_blk h.blk u⟩
theorem Six.set4 {w:World} {s:Nat} {v0 v1 v2 v3 v4 v5:Value} (h:Six w s v0 v1 v2 v3 v4 v5) (u:Value):Six (w.setCell ⟨s,4,none⟩ u) s v0 v1 v2 v3 u v5:=⟨set_blk h.blk u⟩
theorem Six.set5 {w:World} {s:Nat} {v0 v1 v2 v3 v4 v5:Value} (h:Six w s v0 v1 v2 v3 v4 v5) (u:Value):Six (w.setCell ⟨s,5,none⟩ u) s v0 v1 v2 v3 v4 u:=⟨set_blk h.blk u⟩
theorem Six.set6 {w:World} {s:Nat} {v0 v1 v2 v3 v4 v5:Value} (h:Six w s v0 v1 v2 v3 v4 v5) (u0 u1 u2 u3 u4 u5:Value):Six ((((((w.setCell ⟨s,0,none⟩ u0).setCell ⟨s,1,none⟩ u1).setCell ⟨s,2,none⟩ u2).setCell ⟨s,3,none⟩ u3).setCell ⟨s,4,none⟩ u4).setCell ⟨s,5,none⟩ u5) s u0 u1 u2 u3 u4 u5 :=
 ⟨set_blk (set_blk (set_blk (set_blk (set_blk (set_blk h.blk u0) u1) u2) u3) u4) u5⟩
theorem kn_set (w:World) (s i:Nat) (u:Value):Kn (fun q=>q≠s) w (w.setCell ⟨s,i,none⟩ u):=(Kn.refl _ _).setCell (p:=⟨s,i,none⟩) (.inl fun h=>h rfl) _
theorem Six.kn {w w':World} {s x:Nat} {v0 v1 v2 v3 v4 v5:Value} (h:Six w s v0 v1 v2 v3 v4 v5) (hk:Kn (fun q=>q≠x) w w') (hs:s≠x):Six w' s v0 v1 v2 v3 v4 v5:=⟨(hk.block s hs h.lt).trans h.blk⟩
theorem OkN.kn {base:Nat} {w w':World} {x q:Nat} (h:OkN base w q) (hk:Kn (fun q=>q≠x) w w') (hx:x<base):OkN base w' q:=by
 obtain⟨h1,cs,ty,h2⟩:=h
 exact⟨h1,cs,ty,(hk.block q (by omega) (Array.getElem?_eq_some_iff.1 h2).1).trans h2⟩
theorem copy_step (N:Nat) (hN:N+1≤100000) (IHk:BcC N) (IHs:BbC N):CpC (N+1):=by
 intro t v w hv hb
 have hbs:=blk_eq t
 obtain⟨ra,rc,ka,kc,sa,sc,rfl,ht⟩:=hv.form
 have ik:=ht.ik
 have inn:=ht.inn
 obtain⟨W,hW⟩:∃ W,W=(w.alloc (.cells #[.int .i64 t.kind,.int .i64 t.n,.string t.name,.slice ra t.r.length rc,.slice ka t.kids.length kc,.slice sa t.sys.length sc] 26)).alloc (.cells #[.int .i64 0,.int .i64 0,.string ⟨#[]⟩,.slice none 0 0,.slice none 0 0,.slice none 0 0] 26):=⟨_,rfl⟩
 have bW:Below w.heap.size w W:=by rw [hW];exact bchain (belowA _ _) (belowA _ _)
 have sW:W.heap.size=w.heap.size+2:=by rw [hW];simp
 have x1:Six W w.heap.size (.int .i64 t.kind) (.int .i64 t.n) (.string t.name) (.slice ra t.r.length rc) (.slice ka t.kids.length kc) (.slice sa t.sys.length sc):=⟨by rw [hW];exact (Below.heap_alloc _ _ _ (by simp)).trans (heapNew w _)⟩
 have x2:Six W (w.heap.size+1) (.int .i64 0) (.int .i64 0) (.string ⟨#[]⟩) (.slice none 0 0) (.slice none 0 0) (.slice none 0 0):=⟨by
  rw [hW];have:=heapNew (w.alloc (.cells #[.int .i64 t.kind,.int .i64 t.n,.string t.name,.slice ra t.r.length rc,.slice ka t.kids.length kc,.slice sa t.sys.length sc] 26)) (.cells #[.int .i64 0,.int .i64 0,.string ⟨#[]⟩,.slice none 0 0,.slice none 0 0,.slice none 0 0] 26);rwa [World.size_alloc] at this⟩
 have c1:=clone_any t.r _ W (ht.row.blw bW) (by omega)
 have H1:Hid (∀ w',Below w.heap.size w w'→Calls Tryz.prog 146 #[.slice ka t.kids.length kc,.func (.func 98) #[] #[]] w' fun e w''=>∃ v',e=.returned v'∧KdT (OkN w'.heap.size w'') w'' (TmIn (OkN w'.heap.size w'') w'') t.kids v'∧Below w'.heap.size w' w''):=fun w' q=>IHk t.kids _ w' (ht.kids.blw q) (by omega)
 have H2:Hid (∀ w',Below w.heap.size w w'→Calls Tryz.prog 147 #[.slice sa t.sys.length sc,.func (.func 148) #[] #[]] w' fun e w''=>∃ v',e=.returned v'∧SyT (OkN w'.heap.size w'') w'' (TmIn (OkN w'.heap.size w'') w'') t.sys v'∧Below w'.heap.size w' w''):=fun w' q=>IHs t.sys _ w' (ht.sys.blw q) (by omega)
 have HW:Hid (_=_):=hW
 obtain⟨z3,hz3⟩:∃ z,z=t.r.length:=⟨_,rfl⟩
 obtain⟨z4,hz4⟩:∃ z,z=t.kids.length:=⟨_,rfl⟩
 obtain⟨z5,hz5⟩:∃ z,z=t.sys.length:=⟨_,rfl⟩
 rw [← hz3] at c1
 rw [← hz4] at H1
 rw [← hz5] at H2
 rw [← hz3,← hz4,← hz5] at HW x1
 have Hz:Hid (z3=t.r.length∧z4=t.kids.length∧z5=t.sys.length):=⟨hz3,hz4,hz5⟩
 simp only [← hz3,← hz4,← hz5]
 clear hW hz3 hz4 hz5 hv ht hbs IHk IHs
 obtain⟨a0,a1,a2,a3,a4,a5,af⟩:=x1.cells
 go_enter Tryz.func98,Tryz.ntmps98
 go_upto_region 1 with fail
 rw [← HW.out]
 clear HW
 go_wp2_with fail
 refine c1.mono ?_
 rintro e w2 ⟨v2,rfl,hO2,hb2⟩
 clear c1 a0 a1 a2 a3 a4 a5 af
 obtain⟨ra2,rc2,rfl⟩:=OwnsC.len hO2
 have hr2:=OwnsC.okn hO2
 have y1:=x1.blw hb2
 have y2:=x2.blw hb2
 obtain⟨w3,hw3⟩:∃ w3,w3=w2.setCell ⟨w.heap.size,3,none⟩ (.slice ra2 t.r.length rc2):=⟨_,rfl⟩
 have k3:Kn (fun q=>q≠w.heap.size) w2 w3:=by rw [hw3];exact kn_set _ _ _ _
 have y13:Six w3 w.heap.size (.int .i64 t.kind) (.int .i64 t.n) (.string t.name) (.slice ra2 t.r.length rc2) (.slice ka z4 kc) (.slice sa z5 sc):=by rw [hw3];exact y1.set3 _
 have y23:=y2.kn k3 (by omega)
 have hr3:ClRow (OkN W.heap.size w3) w3 t.r (.slice ra2 t.r.length rc2):=hr2.keep k3.size (fun q hq=>hq.kn k3 (by omega)) (fun g hg hs=>k3.block g (by have:=hg.1;omega) hs)
 have b3:Below w.heap.size w w3:=(bchain bW hb2).trans (k3.below (fun q hq=>by omega) (by have:=hb2.size;omega))
 have s3:W.heap.size≤w3.heap.size:=Nat.le_trans hb2.size k3.size
 have c2:=H1.out w3 b3
 obtain⟨a0,a1,a2,a3,a4,a5,af⟩:=y1.cells
 have f3:=af 3
 obtain⟨d0,d1,d2,d3,d4,d5,df⟩:=y13.cells
 have H3:Hid (_=_):=hw3
 clear hw3 hO2 hr2 y1 y2 x1 x2 H1 af df k3 hb2
 go_upto_region 2 with fail
 rw [← H3.out]
 clear H3 a0 a1 a2 a3 a4 a5 f3
 go_wp2_with fail
 refine c2.mono ?_
 rintro e w4 ⟨v4,rfl,hK4,hb4⟩
 clear c2 d0 d1 d2 d3 d4 d5
 obtain⟨ka4,kc4,rfl,_⟩:=id hK4
 have y14:=y13.blw hb4
 have y24:=y23.blw hb4
 have hr4:=hr3.okn hb4
 obtain⟨w5,hw5⟩:∃ w5,w5=w4.setCell ⟨w.heap.size,4,none⟩ (.slice ka4 t.kids.length kc4):=⟨_,rfl⟩
 have k5:Kn (fun q=>q≠w.heap.size) w4 w5:=by rw [hw5];exact kn_set _ _ _ _
 have y15:Six w5 w.heap.size (.int .i64 t.kind) (.int .i64 t.n) (.string t.name) (.slice ra2 t.r.length rc2) (.slice ka4 t.kids.length kc4) (.slice sa z5 sc):=by rw [hw5];exact y14.set4 _
 have y25:=y24.kn k5 (by omega)
 have hr5:ClRow (OkN W.heap.size w5) w5 t.r (.slice ra2 t.r.length rc2):=hr4.keep k5.size (fun q hq=>hq.kn k5 (by omega)) (fun g hg hs=>k5.block g (by have:=hg.1;omega) hs)
 have hK5:KdT (OkN W.heap.size w5) w5 (TmIn (OkN W.heap.size w5) w5) t.kids (.slice ka4 t.kids.length kc4):=hK4.all k5.size (fun q hq=>(hq.mono s3).kn k5 (by omega)) (fun g hg hs=>k5.block g (by have:=hg.1;omega) hs)
 have b5:Below w.heap.size w w5:=(bchain b3 hb4).trans (k5.below (fun q hq=>by omega) (by have:=hb4.size;omega))
 have s5:W.heap.size≤w5.heap.size:=Nat.le_trans s3 (Nat.le_trans hb4.size k5.size)
 have c3:=H2.out w5 b5
 obtain⟨a0,a1,a2,a3,a4,a5,af⟩:=y14.cells
 have f4:=af 4
 obtain⟨d0,d1,d2,d3,d4,d5,df⟩:=y15.cells
 have H5:Hid (_=_):=hw5
 clear hw5 hK4 hr4 hr3 y14 y24 y13 y23 H2 af df k5 hb4 b3 s3
 go_upto_region 3 with fail
 rw [← H5.out]
 clear H5 a0 a1 a2 a3 a4 a5 f4
 go_wp2_with fail
 refine c3.mono ?_
 rintro e w6 ⟨v6,rfl,hS6,hb6⟩
 clear c3 d0 d1 d2 d3 d4 d5
 obtain⟨sa6,sc6,rfl,_⟩:=id hS6
 have y16:=y15.blw hb6
 have y26:=y25.blw hb6
 have hr6:=hr5.okn hb6
 have hK6:=hK5.okn hb6
 obtain⟨w7,hw7⟩:∃ w7,w7=w6.setCell ⟨w.heap.size,5,none⟩ (.slice sa6 t.sys.length sc6):=⟨_,rfl⟩
 have k7:Kn (fun q=>q≠w.heap.size) w6 w7:=by rw [hw7];exact kn_set _ _ _ _
 have y17:Six w7 w.heap.size (.int .i64 t.kind) (.int .i64 t.n) (.string t.name) (.slice ra2 t.r.length rc2) (.slice ka4 t.kids.length kc4) (.slice sa6 t.sys.length sc6):=by rw [hw7];exact y16.set5 _
 have y27:=y26.kn k7 (by omega)
 have hr7:ClRow (OkN W.heap.size w7) w7 t.r (.slice ra2 t.r.length rc2):=hr6.keep k7.size (fun q hq=>hq.kn k7 (by omega)) (fun g hg hs=>k7.block g (by have:=hg.1;omega) hs)
 have hK7:KdT (OkN W.heap.size w7) w7 (TmIn (OkN W.heap.size w7) w7) t.kids (.slice ka4 t.kids.length kc4):=hK6.all k7.size (fun q hq=>hq.kn k7 (by omega)) (fun g hg hs=>k7.block g (by have:=hg.1;omega) hs)
 have hS7:SyT (OkN W.heap.size w7) w7 (TmIn (OkN W.heap.size w7) w7) t.sys (.slice sa6 t.sys.length sc6):=hS6.all k7.size (fun q hq=>(hq.mono s5).kn k7 (by omega)) (fun g hg hs=>k7.block g (by have:=hg.1;omega) hs)
 have b7:Below w.heap.size w w7:=(bchain b5 hb6).trans (k7.below (fun q hq=>by omega) (by have:=hb6.size;omega))
 have s7:W.heap.size≤w7.heap.size:=Nat.le_trans s5 (Nat.le_trans hb6.size k7.size)
 obtain⟨w8,hw8⟩:∃ w8,w8=(((((w7.setCell ⟨w.heap.size+1,0,none⟩ (.int .i64 t.kind)).setCell ⟨w.heap.size+1,1,none⟩ (.int .i64 t.n)).setCell ⟨w.heap.size+1,2,none⟩ (.string t.name)).setCell ⟨w.heap.size+1,3,none⟩ (.slice ra2 t.r.length rc2)).setCell ⟨w.heap.size+1,4,none⟩ (.slice ka4 t.kids.length kc4)).setCell ⟨w.heap.size+1,5,none⟩ (.slice sa6 t.sys.length sc6):=⟨_,rfl⟩
 have y28:Six w8 (w.heap.size+1) (.int .i64 t.kind) (.int .i64 t.n) (.string t.name) (.slice ra2 t.r.length rc2) (.slice ka4 t.kids.length kc4) (.slice sa6 t.sys.length sc6):=by rw [hw8];exact y27.set6 _ _ _ _ _ _
 have k8:Kn (fun q=>q≠w.heap.size+1) w7 w8:=by
  rw [hw8]
  exact (((((kn_set _ _ _ _).trans (kn_set _ _ _ _)).trans (kn_set _ _ _ _)).trans (kn_set _ _ _ _)).trans (kn_set _ _ _ _)).trans (kn_set _ _ _ _)
 have b8:Below w.heap.size w w8:=b7.trans (k8.below (fun q hq=>by omega) (by omega))
 have HT:Hid (TmIn (OkN w.heap.size w8) w8 t (.agg #[.int .i64 t.kind,.int .i64 t.n,.string t.name,.slice ra2 t.r.length rc2,.slice ka4 t.kids.length kc4,.slice sa6 t.sys.length sc6])):=by
  have up:∀ q,OkN W.heap.size w7 q→OkN w.heap.size w8 q:=fun q hq=>(hq.kn k8 (by omega)).mono (by omega)
  have ub:∀ g,OkN W.heap.size w7 g→g<w7.heap.size→w8.heap[g]? = w7.heap[g]?:=fun g hg hs=>k8.block g (by have:=hg.1;omega) hs
  exact TmTop.value ⟨ik,inn,hr7.keep k8.size up ub,hK7.all k8.size up ub,hS7.all k8.size up ub⟩
 obtain⟨a0,a1,a2,a3,a4,a5,af⟩:=y16.cells
 have f5:=af 5
 obtain⟨d0,d1,d2,d3,d4,d5,df⟩:=y17.cells
 obtain⟨e0,e1,e2,e3,e4,e5,ef⟩:=y27.cells
 have g0:=ef 0
 have g1:=ef 1
 have g2:=ef 2
 have g3:=ef 3
 have g4:=ef 4
 have g5:=ef 5
 obtain⟨h0,h1,h2,h3,h4,h5,_⟩:=y28.cells
 have H7:Hid (_=_):=hw7
 have H8:Hid (_=_):=hw8
 clear hw7 hw8 af df ef y16 y17 y26 y27 y28 hr6 hr7 hK6 hK7 hS6 hS7 k7 k8 hb6 b7 b5 s5 s7 y15 y25 hr5 hK5
 go_upto_region 4 with fail
 rw [← H7.out]
 clear H7 a0 a1 a2 a3 a4 a5 f5
 go_wp2_with fail
 rw [← H8.out]
 exact bodyPost_ret (v:=.agg #[.int .i64 t.kind,.int .i64 t.n,.string t.name,.slice ra2 t.r.length rc2,.slice ka4 t.kids.length kc4,.slice sa6 t.sys.length sc6]) (by simp only [results,Tryz.results98];simp [go_sem,h0,h1,h2,h3,h4,h5]) rfl ⟨_,rfl,HT.out,b8⟩
theorem retI {k:IntKind} {a b:Int} (h:a=b):Ending.returned (.int k a)=.returned (.int k b):=by rw [h]
theorem retII {k:IntKind} {a b c d:Int} (h:a=b) (h2:c=d):Ending.returned (.tuple #[.int k a,.int k c])=.returned (.tuple #[.int k b,.int k d]):=by rw [h,h2]
theorem kids_any (k:Int) (w:World):Calls Tryz.prog 178 #[.int .i64 k] w fun e w'=>e=.returned (.int .i64 (kidsK k))∧w'=w:=by
 have h:k=1∨k=2∨k=3∨k=19∨k=20∨k=21∨k=24∨k=25∨k=5∨k=9∨k=10∨k=12∨k=16∨k=17∨k=18∨k=23∨k=26∨k=4∨k=6∨k=7∨k=8∨k=14∨k=15∨k=28∨k=11∨k=13∨k=22∨k=27∨(k<1∨28<k):=by omega
 rcases h with rfl|rfl|rfl|rfl|rfl|rfl|rfl|rfl|rfl|rfl|rfl|rfl|rfl|rfl|rfl|rfl|rfl|rfl|rfl|rfl|rfl|rfl|rfl|rfl|rfl|rfl|rfl|rfl|h
 case inr.inr.inr.inr.inr.inr.inr.inr.inr.inr.inr.inr.inr.inr.inr.inr.inr.inr.inr.inr.inr.inr.inr.inr.inr.inr.inr.inr =>
  have e:Hid (kidsK k = -1):=by show _=_;unfold kidsK;rw [if_neg (by omega),if_neg (by omega),if_neg (by omega),if_neg (by omega),if_neg (by omega),if_neg (by omega)]
  have n1:¬ k=1:=by omega
  have n2:¬ k=2:=by omega
  have n3:¬ k=3:=by omega
  have n4:¬ k=4:=by omega
  have n5:¬ k=5:=by omega
  have n6:¬ k=6:=by omega
  have n7:¬ k=7:=by omega
  have n8:¬ k=8:=by omega
  have n9:¬ k=9:=by omega
  have n10:¬ k=10:=by omega
  have n11:¬ k=11:=by omega
  have n12:¬ k=12:=by omega
  have n13:¬ k=13:=by omega
  have n14:¬ k=14:=by omega
  have n15:¬ k=15:=by omega
  have n16:¬ k=16:=by omega
  have n17:¬ k=17:=by omega
  have n18:¬ k=18:=by omega
  have n19:¬ k=19:=by omega
  have n20:¬ k=20:=by omega
  have n21:¬ k=21:=by omega
  have n22:¬ k=22:=by omega
  have n23:¬ k=23:=by omega
  have n24:¬ k=24:=by omega
  have n25:¬ k=25:=by omega
  have n26:¬ k=26:=by omega
  have n27:¬ k=27:=by omega
  have n28:¬ k=28:=by omega
  clear h
  go_enter Tryz.func178,Tryz.ntmps178
  go_wp2
  go_ret
  exact⟨retI e.out.symm,rfl⟩
 all_goals
  go_enter Tryz.func178,Tryz.ntmps178
  go_wp2
  go_ret
  exact⟨rfl,rfl⟩
theorem partsC_any (k:Int) (w:World):Calls Tryz.prog 227 #[.int .i64 k] w fun e w'=>e=.returned (.int .i64 (partsK k))∧w'=w:=by
 go_enter Tryz.func227,Tryz.ntmps227
 go_wp2
 all_goals
  go_ret
  exact⟨retI (by unfold partsK;simp_all),rfl⟩
theorem bindsC_any (k i:Int) (w:World):Calls Tryz.prog 112 #[.int .i64 k,.int .i64 i] w fun e w'=>e=.returned (.tuple #[.int .i64 (bvI k i),.int .i64 (bdI k i)])∧w'=w:=by
 go_enter Tryz.func112,Tryz.ntmps112
 go_wp2
 all_goals
  go_ret2
  exact⟨retII (by unfold bvI;simp_all) (by unfold bdI;simp_all),rfl⟩
def lK:List Int:=[-1,0,0,0,2,1,2,2,2,1,1,3,1,3,2,2,1,1,1,0,0,0,4,1,0,0,1,5,2]
theorem letter_any (c:UInt8) (w:World):Calls Tryz.prog 248 #[.int .u8 (c.toNat:Int)] w fun e w'=>e=.returned (.bool (letterU c))∧w'=w:=by
 have hc:c.toNat<256:=c.toNat_lt
 have HL:Hid (letterU c=((97≤c.toNat && c.toNat≤122) || (65≤c.toNat && c.toNat≤90) || c.toNat == 95)):=rfl
 generalize c.toNat=n at *
 go_enter Tryz.func248,Tryz.ntmps248
 go_wp2
 all_goals
  go_ret
  refine⟨ret_bool ?_,rfl⟩
  rw [HL.out,Bool.eq_iff_iff]
  simp
  omega
theorem bdrewN {n:Nat} {w w':World} (h:Below n w w') (k:Nat):Below n w (w'.drewN k):=⟨h.os,h.tape,h.output,h.size,h.block⟩
theorem number_any (V:Int) (D:Nat) (o:Bool) (bv bd g off:Nat) (t:Tm) (w:World) (hl:g<w.heap.size) (h0:w.cell? ⟨g,off,none⟩=some (.int .i64 t.kind)) (h1:w.cell? ⟨g,off+1,none⟩=some (.int .i64 t.n)) (hn:I64 t.n) (hb:bv≤1000000) :
  Calls Tryz.prog 224 #[.agg #[.int .i64 V,.int .i64 (D:Int),.bool o],.pointer (some ⟨g,off,none⟩),.agg #[.int .i64 (bv:Int),.int .i64 (bd:Int)]] w fun e w'=>e=.returned (.bool (numB o V bv t.kind t.n))∧Below w.heap.size w w':=by
 obtain⟨k,hk⟩:∃ k,k=t.kind:=⟨_,rfl⟩
 obtain⟨n,hnn⟩:∃ n,n=t.n:=⟨_,rfl⟩
 rw [← hk] at h0
 rw [← hnn] at h1 hn
 have HR:Hid (numB o V bv t.kind t.n=if k=1 then decide (0≤n) && (o || decide (n - bv<V)) else decide (n=0)):=by show _=_;rw [hk,hnn];rfl
 clear hk hnn
 obtain⟨w2,hw2⟩:∃ w2,w2=(w.alloc (.cells #[.int .i64 V,.int .i64 (D:Int),.bool o] 101)).alloc (.cells #[.int .i64 (bv:Int),.int .i64 (bd:Int)] 144):=⟨_,rfl⟩
 have hb2:Below w.heap.size w w2:=by rw [hw2];exact bchain (belowA _ _) (belowA _ _)
 have m1:w2.heap[w.heap.size]? = some (.cells #[.int .i64 V,.int .i64 (D:Int),.bool o] 101 (0,0)):=by
  rw [hw2];exact (Below.heap_alloc _ _ _ (by simp)).trans (heapNew w _)
 have m2:w2.heap[w.heap.size+1]? = some (.cells #[.int .i64 (bv:Int),.int .i64 (bd:Int)] 144 (0,0)):=by
  rw [hw2];have:=heapNew (w.alloc (.cells #[.int .i64 V,.int .i64 (D:Int),.bool o] 101)) (.cells #[.int .i64 (bv:Int),.int .i64 (bd:Int)] 144);rwa [World.size_alloc] at this
 have x0:w2.cell? ⟨w.heap.size,0,none⟩=some (.int .i64 V):=by unfold World.cell?; simp [m1]
 have x2:w2.cell? ⟨w.heap.size,2,none⟩=some (.bool o):=by unfold World.cell?; simp [m1]
 have y0:w2.cell? ⟨w.heap.size+1,0,none⟩=some (.int .i64 (bv:Int)):=by unfold World.cell?; simp [m2]
 have d0:=(hb2.cell (p:=⟨g,off,none⟩) hl).trans h0
 have d1:=(hb2.cell (p:=⟨g,off+1,none⟩) hl).trans h1
 have H2:Hid (_=_):=hw2
 clear hw2 m1 m2
 unfold I64 at hn
 go_enter Tryz.func224,Tryz.ntmps224
 go_upto_region 1 with fail
 rw [← H2.out]
 by_cases hk:k=1
 ·subst hk
  by_cases hn0:0≤n
  ·cases o with
   | true =>
    go_wp2
    go_quiet (fail)
    go_wp2
    go_ret
    exact⟨ret_bool (by rw [HR.out];simp [hn0]),bdrewN hb2 _⟩
   | false =>
    have wr1:IntKind.i64.wrap (n - (bv:Int))=n - (bv:Int):=by simp [IntKind.wrap,IntKind.bits,IntKind.signed];omega
    go_wp2
    go_quiet (fail)
    go_wp2
    go_ret
    exact⟨ret_bool (by rw [HR.out];simp [hn0]),bdrewN hb2 _⟩
  ·have hnf:decide (0≤n)=false:=by simpa using hn0
   go_wp2
   go_quiet (fail)
   go_wp2
   go_ret
   exact⟨ret_bool (by rw [HR.out];simp [hnf]),bdrewN hb2 _⟩
 ·go_wp2
  all_goals
   go_ret
   exact⟨ret_bool (by rw [HR.out,if_neg hk];rw [Bool.eq_iff_iff];simp),hb2⟩
def pe (er:Int):PanicEntry:={ v:=.iface 30 (.int .i64 er),recovered:=false }
def LOut (er:Int) (R:Value→Prop) (e:Ending):Prop:=(er=0∧∃ v,e=.returned v∧R v)∨(er≠0∧e=.panicked [pe er])
theorem LOut.ok {er:Int} {R:Value→Prop} {v:Value} (h:er=0) (hR:R v):LOut er R (.returned v):=.inl ⟨h,v,rfl,hR⟩
theorem lnum_any (s:Sf) (hs:s.ok) (bv bd g off:Nat) (t:Tm) (w:World) (hl:g<w.heap.size) (h0:w.cell? ⟨g,off,none⟩=some (.int .i64 t.kind)) (h1:w.cell? ⟨g,off+1,none⟩=some (.int .i64 t.n)) (hn:0≤t.n∧t.n≤9223372036854775807) (hb:bv≤1000000) :
  Calls Tryz.prog 216 #[.agg #[.int .i64 s.vf,.int .i64 s.vb,.int .i64 s.df,.int .i64 s.db],.pointer (some ⟨g,off,none⟩),.agg #[.int .i64 (bv:Int),.int .i64 (bd:Int)]] w fun e w'=>LOut (numE s bv t.kind t.n) (fun v=>v=.int .i64 (numV s bv t.kind t.n)) e∧Below w.heap.size w w':=by
 obtain⟨k,hk⟩:∃ k,k=t.kind:=⟨_,rfl⟩
 obtain⟨n,hnn⟩:∃ n,n=t.n:=⟨_,rfl⟩
 rw [← hk] at h0 ⊢
 rw [← hnn] at h1 hn ⊢
 obtain⟨vf,vb,df,db⟩:=s
 obtain⟨s1,s2,s3,s4,s5,s6,s7,s8⟩:=hs
 dsimp only at s1 s2 s3 s4 s5 s6 s7 s8 ⊢
 have HE:Hid (numE ⟨vf,vb,df,db⟩ bv k n=if (k=1∧vf≤n - bv)∧1000000000 - vb<n then 100 else 0):=(by unfold numE farB;rfl:_=_)
 have HV:Hid (numV ⟨vf,vb,df,db⟩ bv k n=if k=1∧vf≤n - bv then n+vb else n):=(by unfold numV farB;rfl:_=_)
 clear hk hnn
 obtain⟨w2,hw2⟩:∃ w2,w2=(w.alloc (.cells #[.int .i64 vf,.int .i64 vb,.int .i64 df,.int .i64 db] 166)).alloc (.cells #[.int .i64 (bv:Int),.int .i64 (bd:Int)] 194):=⟨_,rfl⟩
 have hb2:Below w.heap.size w w2:=by rw [hw2];exact bchain (belowA _ _) (belowA _ _)
 have m1:w2.heap[w.heap.size]? = some (.cells #[.int .i64 vf,.int .i64 vb,.int .i64 df,.int .i64 db] 166 (0,0)):=by
  rw [hw2];exact (Below.heap_alloc _ _ _ (by simp)).trans (heapNew w _)
 have m2:w2.heap[w.heap.size+1]? = some (.cells #[.int .i64 (bv:Int),.int .i64 (bd:Int)] 194 (0,0)):=by
  rw [hw2];have:=heapNew (w.alloc (.cells #[.int .i64 vf,.int .i64 vb,.int .i64 df,.int .i64 db] 166)) (.cells #[.int .i64 (bv:Int),.int .i64 (bd:Int)] 194);rwa [World.size_alloc] at this
 have e0:w2.cell? ⟨w.heap.size,0,none⟩=some (.int .i64 vf):=by simp [World.cell?,m1]
 have e1:w2.cell? ⟨w.heap.size,1,none⟩=some (.int .i64 vb):=by simp [World.cell?,m1]
 have e2:w2.cell? ⟨w.heap.size+1,0,none⟩=some (.int .i64 (bv:Int)):=by simp [World.cell?,m2]
 have g0:=(hb2.cell (p:=⟨g,off,none⟩) hl).trans h0
 have g1:=(hb2.cell (p:=⟨g,off+1,none⟩) hl).trans h1
 have H2:Hid (_=_):=hw2
 clear hw2 m1 m2 h0 h1
 go_enter Tryz.func216,Tryz.ntmps216
 go_upto_region 1 with fail
 rw [← H2.out]
 by_cases hk:k=1
 ·subst hk
  have wr1:IntKind.i64.wrap (n - (bv:Int))=n - (bv:Int):=by simp [IntKind.wrap,IntKind.bits,IntKind.signed];omega
  by_cases hf:vf≤n - bv
  ·have hf2:¬ n - (bv:Int) < vf:=by omega
   have hf3:decide (n - (bv:Int) < vf)=false:=by simpa using hf
   have wr2:IntKind.i64.wrap (1000000000 - vb)=1000000000 - vb:=by simp [IntKind.wrap,IntKind.bits,IntKind.signed];omega
   by_cases hg:1000000000 - vb<n
   ·have Hr:Hid (numE ⟨vf,vb,df,db⟩ bv 1 n=100∧numV ⟨vf,vb,df,db⟩ bv 1 n=n+vb):=⟨by rw [HE.out];exact if_pos ⟨⟨rfl,hf⟩,hg⟩,by rw [HV.out];exact if_pos ⟨rfl,hf⟩⟩
    have hg3:decide (1000000000 - vb<n)=true:=by simpa using hg
    clear HE HV
    go_wp2
    go_quiet (fail)
    go_wp2
    go_quiet (fail)
    go_wp2
    exact⟨rfl,.inr ⟨by rw [Hr.out.1];decide,by rw [Hr.out.1];rfl⟩,bdrewN hb2 _⟩
   ·have Hr:Hid (numE ⟨vf,vb,df,db⟩ bv 1 n=0∧numV ⟨vf,vb,df,db⟩ bv 1 n=n+vb):=⟨by rw [HE.out];exact if_neg (fun h=>hg h.2),by rw [HV.out];exact if_pos ⟨rfl,hf⟩⟩
    have hg3:decide (1000000000 - vb<n)=false:=by simpa using hg
    clear HE HV
    have wr3:IntKind.i64.wrap (n+vb)=n+vb:=by simp [IntKind.wrap,IntKind.bits,IntKind.signed];omega
    go_wp2
    go_quiet (fail)
    go_wp2
    go_quiet (fail)
    go_wp2
    go_quiet (fail)
    go_wp2
    go_ret
    exact⟨.ok Hr.out.1 (by rw [Hr.out.2];rfl),⟨hb2.os,hb2.tape,hb2.output,hb2.size,hb2.block⟩⟩
  ·have Hr:Hid (numE ⟨vf,vb,df,db⟩ bv 1 n=0∧numV ⟨vf,vb,df,db⟩ bv 1 n=n):=⟨by rw [HE.out];exact if_neg (fun h=>hf h.1.2),by rw [HV.out];exact if_neg (fun h=>hf h.2)⟩
   clear HE HV
   have hf2:n - (bv:Int) < vf:=by omega
   have hf3:decide (n - (bv:Int) < vf)=true:=by simpa using hf2
   go_wp2
   go_quiet (fail)
   go_wp2
   go_ret
   exact⟨.ok Hr.out.1 (by rw [Hr.out.2];rfl),⟨hb2.os,hb2.tape,hb2.output,hb2.size,hb2.block⟩⟩
 ·have Hr:Hid (numE ⟨vf,vb,df,db⟩ bv k n=0∧numV ⟨vf,vb,df,db⟩ bv k n=n):=⟨by rw [HE.out];exact if_neg (fun h=>hk h.1.1),by rw [HV.out];exact if_neg (fun h=>hk h.1)⟩
  clear HE HV
  have k1:(k == 1)=false:=by simpa using hk
  go_wp2
  go_quiet (fail)
  go_wp2
  go_ret
  exact⟨.ok Hr.out.1 (by rw [Hr.out.2];rfl),⟨hb2.os,hb2.tape,hb2.output,hb2.size,hb2.block⟩⟩
theorem lrow_any (s:Sf) (hs:s.ok) (bv bd:Nat) (l:List C) (v:Value) (w:World) (hv:ClRow Tt w l v) (hl:l.length≤40000) (hbd:bd≤1000000) :
  Calls Tryz.prog 217 #[.agg #[.int .i64 s.vf,.int .i64 s.vb,.int .i64 s.df,.int .i64 s.db],v,.agg #[.int .i64 (bv:Int),.int .i64 (bd:Int)]] w fun e w'=>LOut (rowP s bd l).2 (fun v'=>OwnsC w' w.heap.size v' (rowP s bd l).1) e∧Below w.heap.size w w':=by
 obtain⟨vf,vb,df,db⟩:=s
 obtain⟨s1,s2,s3,s4,s5,s6,s7,s8⟩:=hs
 dsimp only at s1 s2 s3 s4 s5 s6 s7 s8 ⊢
 have HR:Hid (rowP ⟨vf,vb,df,db⟩ bd l=if db=0 then (l,0) else liftFF l (min df 24+bd) db):=(rfl:_=_)
 obtain⟨w2,hw2⟩:∃ w2,w2=(w.alloc (.cells #[.int .i64 vf,.int .i64 vb,.int .i64 df,.int .i64 db] 166)).alloc (.cells #[.int .i64 (bv:Int),.int .i64 (bd:Int)] 194):=⟨_,rfl⟩
 have hb2:Below w.heap.size w w2:=by rw [hw2];exact bchain (belowA _ _) (belowA _ _)
 have m1:w2.heap[w.heap.size]? = some (.cells #[.int .i64 vf,.int .i64 vb,.int .i64 df,.int .i64 db] 166 (0,0)):=by
  rw [hw2];exact (Below.heap_alloc _ _ _ (by simp)).trans (heapNew w _)
 have m2:w2.heap[w.heap.size+1]? = some (.cells #[.int .i64 (bv:Int),.int .i64 (bd:Int)] 194 (0,0)):=by
  rw [hw2];have:=heapNew (w.alloc (.cells #[.int .i64 vf,.int .i64 vb,.int .i64 df,.int .i64 db] 166)) (.cells #[.int .i64 (bv:Int),.int .i64 (bd:Int)] 194);rwa [World.size_alloc] at this
 have e2:w2.cell? ⟨w.heap.size,2,none⟩=some (.int .i64 df):=by simp [World.cell?,m1]
 have e3:w2.cell? ⟨w.heap.size,3,none⟩=some (.int .i64 db):=by simp [World.cell?,m1]
 have e4:w2.cell? ⟨w.heap.size+1,1,none⟩=some (.int .i64 (bd:Int)):=by simp [World.cell?,m2]
 have hv2:=hv.blw hb2
 have H2:Hid (_=_):=hw2
 have c1:=clone_any l v w2 hv2 (by omega)
 obtain⟨P,hP⟩:∃ P,P=liftFF l (min df 24+bd) db:=⟨_,rfl⟩
 have c2:=Lift_any l (min df 24+bd) db v w2 hv2.frow hl
 rw [← hP] at c2 HR
 obtain⟨M,er⟩:=P
 dsimp only at c2
 obtain⟨a,cap,rfl,_⟩:=id hv
 clear hw2 m1 m2 hv hv2 hP
 by_cases hd:db=0
 ·subst hd
  rw [if_pos rfl] at HR
  clear c2
  go_enter Tryz.func217,Tryz.ntmps217
  go_upto_region 1 with fail
  rw [← H2.out]
  clear H2
  go_wp2_with fail
  refine c1.mono ?_
  rintro e w3 ⟨v3,rfl,hO,hb3⟩
  clear c1
  have hO':=OwnsC.mono hO hb2.size
  have hb':=bchain hb2 hb3
  go_wp2_with fail
  go_ret
  exact⟨.ok (by rw [HR.out]) (by rw [HR.out];exact hO'),hb'⟩
 ·rw [if_neg hd] at HR
  clear c1
  have d1:(db == 0)=false:=by simpa using hd
  have wr:wrap64 (min df 24+(bd:Int))=min df 24+(bd:Int):=by simp [wrap64];omega
  go_enter Tryz.func217,Tryz.ntmps217
  go_upto_region 1 with fail
  rw [← H2.out]
  clear H2
  go_wp2_with fail
  refine c2.mono ?_
  rintro e w3 ⟨v3,rfl,hO,hb3⟩
  clear c2
  have hO':=OwnsC.mono hO hb2.size
  have hb':=bchain hb2 hb3
  by_cases h0:er=0
  ·subst h0
   go_wp2_with fail
   go_ret
   exact⟨.ok (by rw [HR.out]) (by rw [HR.out];exact hO'),hb'⟩
  ·have h1:(er == 0)=false:=by simpa using h0
   go_wp2_with fail
   exact⟨rfl,.inr ⟨by rw [HR.out];exact h0,by rw [HR.out];rfl⟩,hb'⟩
end Go.Proofs.YtblbhmnahoiecaaGreat
