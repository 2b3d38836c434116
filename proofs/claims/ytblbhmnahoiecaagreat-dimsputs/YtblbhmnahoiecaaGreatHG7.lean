/- A part of the proof. -/
import Derived.Test.YtblbhmnahoiecaaGreatHG6
set_option linter.unusedVariables false
set_option linter.unusedSimpArgs false
set_option maxRecDepth 100000
set_option maxHeartbeats 8000000
namespace Go.Proofs.YtblbhmnahoiecaaGreat
open Go.RowKit
def PutB (w:World) (G:Nat) (l:List (List C × List Tm)) (k:Nat):Prop:=∀ (j:Nat) (b:List C × List Tm),j<k->l[j]? = some b->∃ vf vk,ClRow (OkN (G+1) w) w b.1 vf/\KdT (OkN (G+1) w) w (TmIn (OkN (G+1) w) w) b.2 vk/\w.cell? ⟨G,j*2,none⟩=some vf/\w.cell? ⟨G,j*2+1,none⟩=some vk
theorem PutB.row {w:World} {G:Nat} {l:List (List C × List Tm)} (h:PutB w G l l.length) (hb:BlkC w G 40 (l.length*2)) (base:Nat) (hG:base<=G):SyT (OkN base w) w (TmIn (OkN base w) w) l (.slice (some ⟨G,0,none⟩) l.length l.length):=by
 refine⟨_,_,rfl,Nat.le_refl _,fun j x hx=>?_⟩
 obtain⟨vf,vk,h1,h2,c⟩:=h j x (some_lt hx) hx
 exact⟨G,0,vf,vk,rfl,hb.okn hG,hb.lt,h1.keep (Nat.le_refl _) (fun q hq=>hq.mono (by omega)) (fun _ _ _=>rfl),h2.all (Nat.le_refl _) (fun q hq=>hq.mono (by omega)) (fun _ _ _=>rfl),by simpa using c⟩
theorem PutB.kn {w w':World} {G:Nat} {l:List (List C × List Tm)} {k:Nat} (h:PutB w G l k) (hb:Below w.heap.size w w') (hG:G<w.heap.size):PutB w' G l k:=fun j x hj hx=>by
 obtain⟨vf,vk,h1,h2,c0,c1⟩:=h j x hj hx
 have c:=fun i=>hb.cell (p:=⟨G,i,none⟩) hG
 exact⟨vf,vk,h1.okn hb,h2.okn hb,(c _).trans c0,(c _).trans c1⟩
def set2 (w:World) (G k:Nat) (u0 u1:Value):World:=(w.setCell ⟨G,k*2,none⟩ u0).setCell ⟨G,k*2+1,none⟩ u1
theorem PutB.put {w:World} {G k m:Nat} {l:List (List C × List Tm)} {x:List C × List Tm} (hP:PutB w G l k) (hB:BlkC w G 40 m) (hx:l[k]? = some x) (hk:k*2+1<m) (u0 u1:Value) (hv:ClRow (OkN (G+1) w) w x.1 u0) (hv':KdT (OkN (G+1) w) w (TmIn (OkN (G+1) w) w) x.2 u1) :
  PutB (set2 w G k u0 u1) G l (k+1)/\BlkC (set2 w G k u0 u1) G 40 m/\Kn (fun q=>q≠G) w (set2 w G k u0 u1):=by
 have h0:=hB.set (k*2) u0
 have b1:BlkC (set2 w G k u0 u1) G 40 m:=h0.set (k*2+1) u1
 have b2:Kn (fun q=>q≠G) w (set2 w G k u0 u1):=((Kn.refl _ w).setCell (p:=⟨G,k*2,none⟩) (.inl fun h=>h rfl) _).setCell (p:=⟨G,k*2+1,none⟩) (.inl fun h=>h rfl) _
 have b3:∀ j,(set2 w G k u0 u1).cell? ⟨G,j,none⟩=if j=k*2+1 then some u1 else if j=k*2 then some u0 else w.cell? ⟨G,j,none⟩:=fun j=>by
  unfold set2;rw [h0.get (by omega),hB.get (by omega)]
 have up:∀ q,OkN (G+1) w q->OkN (G+1) (set2 w G k u0 u1) q:=fun q hq=>by
  obtain⟨h1,cs,ty,h2⟩:=hq
  exact⟨h1,cs,ty,(b2.block q (by omega) (Array.getElem?_eq_some_iff.1 h2).1).trans h2⟩
 have ub:∀ g,OkN (G+1) w g->g<w.heap.size->(set2 w G k u0 u1).heap[g]? = w.heap[g]?:=fun g hg hs=>b2.block g (by have:=hg.1;omega) hs
 refine⟨fun j y hj hy=>?_,b1,b2⟩
 rcases Nat.lt_or_ge j k with hjk|hjk
 ·obtain⟨a0,a1,h1,h2,c0,c1⟩:=hP j y hjk hy
  refine⟨a0,a1,h1.keep b2.size up ub,h2.all b2.size up ub,?_,?_⟩
  all_goals
   rw [b3,if_neg (by omega),if_neg (by omega)]
   assumption
 ·obtain rfl:j=k:=by omega
  rw [hx] at hy
  cases hy
  refine⟨u0,u1,hv.keep b2.size up ub,hv'.all b2.size up ub,?_,?_⟩
  ·rw [b3,if_neg (by omega),if_pos rfl]
  ·rw [b3,if_pos rfl]
def BbC (N:Nat):Prop:=∀ (l:List (List C × List Tm)) (v:Value) (w:World),SyT Tt w (TmIn Tt w) l v->blkS l<=N->Calls Tryz.prog 147 #[v,.func (.func 148) #[] #[]] w fun e w'=>∃ v',e=.returned v'/\SyT (OkN w.heap.size w') w' (TmIn (OkN w.heap.size w') w') l v'/\Below w.heap.size w w'
theorem copyB_eg:∀ args w,(callFunc 148 args).run Tryz.prog w=.ok (.enter 148 args) w:=enters_of Tryz.func148 (by kernel_rfl) rfl
theorem becomeB_step (N:Nat) (hN:N<=100000) (IH:CbC N):BbC N:=by
 intro l v w hl hb
 obtain⟨a,cap,rfl,_⟩:=id hl
 have eg:=copyB_eg
 have hll:=blkS_len l
 by_cases hz:l=[]
 ·subst hz
  go_enter Tryz.func147,Tryz.ntmps147
  go_wp2
  go_ret
  exact⟨_,rfl,sy_nil _ _ _,Below.refl _ _⟩
 ·have hpos:0<l.length:=List.length_pos_iff.2 hz
  obtain⟨L,hL⟩:∃ L,L=l.length:=⟨_,rfl⟩
  have HL:Hid (L=l.length):=hL
  have Hl:Hid (SyT Tt w (TmIn Tt w) l (.slice a L cap)):=by rw [hL];exact hl
  rw [<- hL] at hpos hll ⊢
  have q0:((L:Int) == 0)=false:=by simp;omega
  obtain⟨W,hmk,hBlk,hbW,sW⟩:=makeB L w (by omega)
  have hLm:L<=100000:=by omega
  clear hL hl hz hll
  go_enter Tryz.func147,Tryz.ntmps147
  go_wp2
  go_loopw [16] (fun i wr=>∃ k:Nat,k<=L/\i=.int .i64 k/\PutB wr w.heap.size l k/\BlkC wr w.heap.size 40 (L*2)/\Below w.heap.size w wr) (fun i _=>L - (intOf i).toNat)
  case atStart=>exact⟨0,Nat.zero_le _,rfl,fun j x hj=>by omega,hBlk,hbW⟩
  case round =>
   obtain⟨k,hk,rfl,hP,hBk,hB⟩:=hrel
   by_cases hlt:k<L
   ·obtain⟨x,hx⟩:=someL (l:=l) (k:=k) (by rw [<- HL.out];exact hlt)
    obtain⟨g1,o1,fa,fc,ka,kc,rfl,_,h2,hcl,hkd⟩:=(Hl.out.blw hB).at hx
    obtain⟨_,y0,y1⟩:=h2
    have hbx:1+x.1.length+blkL x.2<=N:=Nat.le_trans (sumN_mem (List.mem_map_of_mem (f:=fun b:List C × List Tm=>1+b.1.length+blkL b.2) (List.mem_of_getElem? hx))) hb
    obtain⟨w1,hw1⟩:∃ w1,w1=wr.alloc (.cells #[.slice fa x.1.length fc,.slice ka x.2.length kc] 40):=⟨_,rfl⟩
    have b1:Below wr.heap.size wr w1:=by rw [hw1];exact belowA _ _
    have cc:=IH x fa x.1.length fc ka x.2.length kc w1 (hcl.blw b1) (hkd.blw b1) (by omega) (by omega)
    obtain⟨_,z0,z1⟩:Cs2 w1 wr.heap.size 0 x fa fc ka kc:=by rw [hw1];exact cs2_new wr x fa fc ka kc
    simp only [Nat.zero_add] at z1
    have H1:Hid (_=_):=hw1
    have hBk1:=hBk.kn (No:=fun _=>True) (Kn.of_below b1) trivial
    have hP1:=hP.kn b1 hBk.lt
    have hGlt:=hBk.lt
    have s1:wr.heap.size<w1.heap.size:=by rw [hw1];simp
    have hB1:=bchain hB b1
    clear hw1 hP hBk hcl hkd b1 hbx
    go_upto_region 7 with fail
    rw [<- H1.out]
    clear H1
    go_wp2_with fail
    refine cc.mono ?_
    rintro e w2 ⟨fa2,fc2,ka2,kc2,rfl,hc2,hk2,hb2⟩
    clear cc y0 y1 z0 z1
    have hBk2:=hBk1.kn (No:=fun _=>True) (Kn.of_below hb2) trivial
    have hP2:=hP1.kn hb2 hBk1.lt
    have hB2:=bchain hB1 hb2
    obtain⟨o0,e0⟩:=hBk2.cell (k*2) (by omega)
    obtain⟨o1,e1⟩:=hBk2.cell (k*2+1) (by omega)
    have f0:=hBk2.soft (k*2)
    have f1:=hBk2.soft (k*2+1)
    have hfin:=hP2.put hBk2 hx (by omega) _ _ (hc2.keep (Nat.le_refl _) (fun q hq=>hq.mono (by omega)) (fun _ _ _=>rfl)) (hk2.all (Nat.le_refl _) (fun q hq=>hq.mono (by omega)) (fun _ _ _=>rfl))
    unfold set2 at hfin
    have HF:Hid (_/\_/\_):=hfin
    clear hfin
    go_wp2_with fail
    obtain⟨q1,q2,q3⟩:=HF.out
    refine⟨⟨k+1,by omega,by go_num,q1,q2,?_⟩,by simp [intOf];omega⟩
    exact hB2.trans (q3.below (fun q hq=>by omega) hB2.size)
   ·obtain rfl:k=L:=by omega
    have hr:=PutB.row (base:=w.heap.size) (l:=l) (G:=w.heap.size) (by rw [<- HL.out];exact hP) (by rw [<- HL.out];exact hBk) (Nat.le_refl _)
    rw [<- HL.out] at hr
    clear hP hBk
    go_wp2
    go_ret
    exact⟨_,rfl,hr,hB⟩
structure Six (w:World) (s:Nat) (v0 v1 v2 v3 v4 v5:Value):Prop where
 blk:w.heap[s]? = some (.cells #[v0,v1,v2,v3,v4,v5] 26 (0,0))
theorem Six.cells {w:World} {s:Nat} {v0 v1 v2 v3 v4 v5:Value} (h:Six w s v0 v1 v2 v3 v4 v5):w.cell? ⟨s,0,none⟩=some v0/\w.cell? ⟨s,1,none⟩=some v1/\w.cell? ⟨s,2,none⟩=some v2/\w.cell? ⟨s,3,none⟩=some v3/\w.cell? ⟨s,4,none⟩=some v4/\w.cell? ⟨s,5,none⟩=some v5/\∀ i,w.frozen? ⟨s,i,none⟩=false:=by
 have h:=h.blk
 refine⟨?_,?_,?_,?_,?_,?_,fun i=>?_⟩
 all_goals first | (unfold World.cell?; simp [h];done) | (unfold World.frozen?; simp [h])
theorem Six.blw {w w':World} {s:Nat} {v0 v1 v2 v3 v4 v5:Value} (h:Six w s v0 v1 v2 v3 v4 v5) (hb:Below w.heap.size w w'):Six w' s v0 v1 v2 v3 v4 v5:=⟨(hb.block s (Array.getElem?_eq_some_iff.1 h.blk).1).trans h.blk⟩
theorem Six.lt {w:World} {s:Nat} {v0 v1 v2 v3 v4 v5:Value} (h:Six w s v0 v1 v2 v3 v4 v5):s<w.heap.size:=(Array.getElem?_eq_some_iff.1 h.blk).1
theorem set_blk {w:World} {s i:Nat} {cs:Array Value} {ty:TypeId} (h:w.heap[s]? = some (.cells cs ty (0,0))) (u:Value):(w.setCell ⟨s,i,none⟩ u).heap[s]? = some (.cells (cs.setIfInBounds i u) ty (0,0)):=by
 obtain⟨hlt,hk⟩:=Array.getElem?_eq_some_iff.1 h
 show (w.heap.modify s _)[s]? = _
 rw [Array.getElem?_eq_getElem (by rw [Array.size_modify];exact hlt),Array.getElem_modify_self,hk]
 rfl
theorem Six.set3 {w:World} {s:Nat} {v0 v1 v2 v3 v4 v5:Value} (h:Six w s v0 v1 v2 v3 v4 v5) (u:Value):Six (w.setCell ⟨s,3,none⟩ u) s v0 v1 v2 u v4 v5:=⟨set_blk h.blk u⟩
theorem Six.set4 {w:World} {s:Nat} {v0 v1 v2 v3 v4 v5:Value} (h:Six w s v0 v1 v2 v3 v4 v5) (u:Value):Six (w.setCell ⟨s,4,none⟩ u) s v0 v1 v2 v3 u v5:=⟨set_blk h.blk u⟩
theorem Six.set5 {w:World} {s:Nat} {v0 v1 v2 v3 v4 v5:Value} (h:Six w s v0 v1 v2 v3 v4 v5) (u:Value):Six (w.setCell ⟨s,5,none⟩ u) s v0 v1 v2 v3 v4 u:=⟨set_blk h.blk u⟩
theorem Six.set6 {w:World} {s:Nat} {v0 v1 v2 v3 v4 v5:Value} (h:Six w s v0 v1 v2 v3 v4 v5) (u0 u1 u2 u3 u4 u5:Value):Six ((((((w.setCell ⟨s,0,none⟩ u0).setCell ⟨s,1,none⟩ u1).setCell ⟨s,2,none⟩ u2).setCell ⟨s,3,none⟩ u3).setCell ⟨s,4,none⟩ u4).setCell ⟨s,5,none⟩ u5) s u0 u1 u2 u3 u4 u5 :=
 ⟨set_blk (set_blk (set_blk (set_blk (set_blk (set_blk h.blk u0) u1) u2) u3) u4) u5⟩
theorem kn_set (w:World) (s i:Nat) (u:Value):Kn (fun q=>q≠s) w (w.setCell ⟨s,i,none⟩ u):=(Kn.refl _ _).setCell (p:=⟨s,i,none⟩) (.inl fun h=>h rfl) _
theorem Six.kn {w w':World} {s x:Nat} {v0 v1 v2 v3 v4 v5:Value} (h:Six w s v0 v1 v2 v3 v4 v5) (hk:Kn (fun q=>q≠x) w w') (hs:s≠x):Six w' s v0 v1 v2 v3 v4 v5:=⟨(hk.block s hs h.lt).trans h.blk⟩
theorem OkN.kn {base:Nat} {w w':World} {x q:Nat} (h:OkN base w q) (hk:Kn (fun q=>q≠x) w w') (hx:x<base):OkN base w' q:=by
 obtain⟨h1,cs,ty,h2⟩:=h
 exact⟨h1,cs,ty,(hk.block q (by omega) (Array.getElem?_eq_some_iff.1 h2).1).trans h2⟩
theorem copy_step (N:Nat) (hN:N+1<=100000) (IHk:BcC N) (IHs:BbC N):CpC (N+1):=by
 intro t v w hv hb
 have hbs:=blk_eq t
 obtain⟨ra,rc,ka,kc,sa,sc,rfl,ht⟩:=hv.form
 have ik:=ht.ik
 have inn:=ht.inn
 obtain⟨W,hW⟩:∃ W,W=(w.alloc (.cells #[.int .i64 t.kind,.int .i64 t.n,.string t.name,.slice ra t.r.length rc,.slice ka t.kids.length kc,.slice sa t.sys.length sc] 26)).alloc (.cells #[.int .i64 0,.int .i64 0,.string ⟨#[]⟩,.slice none 0 0,.slice none 0 0,.slice none 0 0] 26):=⟨_,rfl⟩
 have bW:Below w.heap.size w W:=by rw [hW];exact bchain (belowA _ _) (belowA _ _)
 have sW:W.heap.size=w.heap.size+2:=by rw [hW];simp
 have x1:Six W w.heap.size (.int .i64 t.kind) (.int .i64 t.n) (.string t.name) (.slice ra t.r.length rc) (.slice ka t.kids.length kc) (.slice sa t.sys.length sc):=⟨by rw [hW];exact (Below.heap_alloc _ _ _ (by simp)).trans (heapNew w _)⟩
 have x2:Six W (w.heap.size+1) (.int .i64 0) (.int .i64 0) (.string ⟨#[]⟩) (.slice none 0 0) (.slice none 0 0) (.slice none 0 0):=⟨by
  rw [hW];have:=heapNew (w.alloc (.cells #[.int .i64 t.kind,.int .i64 t.n,.string t.name,.slice ra t.r.length rc,.slice ka t.kids.length kc,.slice sa t.sys.length sc] 26)) (.cells #[.int .i64 0,.int .i64 0,.string ⟨#[]⟩,.slice none 0 0,.slice none 0 0,.slice none 0 0] 26);rwa [World.size_alloc] at this⟩
 have c1:=clone_any t.r _ W (ht.row.blw bW) (by omega)
 have H1:Hid (∀ w',Below w.heap.size w w'->Calls Tryz.prog 146 #[.slice ka t.kids.length kc,.func (.func 98) #[] #[]] w' fun e w''=>∃ v',e=.returned v'/\KdT (OkN w'.heap.size w'') w'' (TmIn (OkN w'.heap.size w'') w'') t.kids v'/\Below w'.heap.size w' w''):=fun w' q=>IHk t.kids _ w' (ht.kids.blw q) (by omega)
 have H2:Hid (∀ w',Below w.heap.size w w'->Calls Tryz.prog 147 #[.slice sa t.sys.length sc,.func (.func 148) #[] #[]] w' fun e w''=>∃ v',e=.returned v'/\SyT (OkN w'.heap.size w'') w'' (TmIn (OkN w'.heap.size w'') w'') t.sys v'/\Below w'.heap.size w' w''):=fun w' q=>IHs t.sys _ w' (ht.sys.blw q) (by omega)
 have HW:Hid (_=_):=hW
 obtain⟨z3,hz3⟩:∃ z,z=t.r.length:=⟨_,rfl⟩
 obtain⟨z4,hz4⟩:∃ z,z=t.kids.length:=⟨_,rfl⟩
 obtain⟨z5,hz5⟩:∃ z,z=t.sys.length:=⟨_,rfl⟩
 rw [<- hz3] at c1
 rw [<- hz4] at H1
 rw [<- hz5] at H2
 rw [<- hz3,<- hz4,<- hz5] at HW x1
 have Hz:Hid (z3=t.r.length/\z4=t.kids.length/\z5=t.sys.length):=⟨hz3,hz4,hz5⟩
 simp only [<- hz3,<- hz4,<- hz5]
 clear hW hz3 hz4 hz5 hv ht hbs IHk IHs
 obtain⟨a0,a1,a2,a3,a4,a5,af⟩:=x1.cells
 go_enter Tryz.func98,Tryz.ntmps98
 go_upto_region 1 with fail
 rw [<- HW.out]
 clear HW
 go_wp2_with fail
 refine c1.mono ?_
 rintro e w2 ⟨v2,rfl,hO2,hb2⟩
 clear c1 a0 a1 a2 a3 a4 a5 af
 obtain⟨ra2,rc2,rfl⟩:=OwnsC.len hO2
 have hr2:=OwnsC.okn hO2
 have y1:=x1.blw hb2
 have y2:=x2.blw hb2
 obtain⟨w3,hw3⟩:∃ w3,w3=w2.setCell ⟨w.heap.size,3,none⟩ (.slice ra2 t.r.length rc2):=⟨_,rfl⟩
 have k3:Kn (fun q=>q≠w.heap.size) w2 w3:=by rw [hw3];exact kn_set _ _ _ _
 have y13:Six w3 w.heap.size (.int .i64 t.kind) (.int .i64 t.n) (.string t.name) (.slice ra2 t.r.length rc2) (.slice ka z4 kc) (.slice sa z5 sc):=by rw [hw3];exact y1.set3 _
 have y23:=y2.kn k3 (by omega)
 have hr3:ClRow (OkN W.heap.size w3) w3 t.r (.slice ra2 t.r.length rc2):=hr2.keep k3.size (fun q hq=>hq.kn k3 (by omega)) (fun g hg hs=>k3.block g (by have:=hg.1;omega) hs)
 have b3:Below w.heap.size w w3:=(bchain bW hb2).trans (k3.below (fun q hq=>by omega) (by have:=hb2.size;omega))
 have s3:W.heap.size<=w3.heap.size:=Nat.le_trans hb2.size k3.size
 have c2:=H1.out w3 b3
 obtain⟨a0,a1,a2,a3,a4,a5,af⟩:=y1.cells
 have f3:=af 3
 obtain⟨d0,d1,d2,d3,d4,d5,df⟩:=y13.cells
 have H3:Hid (_=_):=hw3
 clear hw3 hO2 hr2 y1 y2 x1 x2 H1 af df k3 hb2
 go_upto_region 2 with fail
 rw [<- H3.out]
 clear H3 a0 a1 a2 a3 a4 a5 f3
 go_wp2_with fail
 refine c2.mono ?_
 rintro e w4 ⟨v4,rfl,hK4,hb4⟩
 clear c2 d0 d1 d2 d3 d4 d5
 obtain⟨ka4,kc4,rfl,_⟩:=id hK4
 have y14:=y13.blw hb4
 have y24:=y23.blw hb4
 have hr4:=hr3.okn hb4
 obtain⟨w5,hw5⟩:∃ w5,w5=w4.setCell ⟨w.heap.size,4,none⟩ (.slice ka4 t.kids.length kc4):=⟨_,rfl⟩
 have k5:Kn (fun q=>q≠w.heap.size) w4 w5:=by rw [hw5];exact kn_set _ _ _ _
 have y15:Six w5 w.heap.size (.int .i64 t.kind) (.int .i64 t.n) (.string t.name) (.slice ra2 t.r.length rc2) (.slice ka4 t.kids.length kc4) (.slice sa z5 sc):=by rw [hw5];exact y14.set4 _
 have y25:=y24.kn k5 (by omega)
 have hr5:ClRow (OkN W.heap.size w5) w5 t.r (.slice ra2 t.r.length rc2):=hr4.keep k5.size (fun q hq=>hq.kn k5 (by omega)) (fun g hg hs=>k5.block g (by have:=hg.1;omega) hs)
 have hK5:KdT (OkN W.heap.size w5) w5 (TmIn (OkN W.heap.size w5) w5) t.kids (.slice ka4 t.kids.length kc4):=hK4.all k5.size (fun q hq=>(hq.mono s3).kn k5 (by omega)) (fun g hg hs=>k5.block g (by have:=hg.1;omega) hs)
 have b5:Below w.heap.size w w5:=(bchain b3 hb4).trans (k5.below (fun q hq=>by omega) (by have:=hb4.size;omega))
 have s5:W.heap.size<=w5.heap.size:=Nat.le_trans s3 (Nat.le_trans hb4.size k5.size)
 have c3:=H2.out w5 b5
 obtain⟨a0,a1,a2,a3,a4,a5,af⟩:=y14.cells
 have f4:=af 4
 obtain⟨d0,d1,d2,d3,d4,d5,df⟩:=y15.cells
 have H5:Hid (_=_):=hw5
 clear hw5 hK4 hr4 hr3 y14 y24 y13 y23 H2 af df k5 hb4 b3 s3
 go_upto_region 3 with fail
 rw [<- H5.out]
 clear H5 a0 a1 a2 a3 a4 a5 f4
 go_wp2_with fail
 refine c3.mono ?_
 rintro e w6 ⟨v6,rfl,hS6,hb6⟩
 clear c3 d0 d1 d2 d3 d4 d5
 obtain⟨sa6,sc6,rfl,_⟩:=id hS6
 have y16:=y15.blw hb6
 have y26:=y25.blw hb6
 have hr6:=hr5.okn hb6
 have hK6:=hK5.okn hb6
 obtain⟨w7,hw7⟩:∃ w7,w7=w6.setCell ⟨w.heap.size,5,none⟩ (.slice sa6 t.sys.length sc6):=⟨_,rfl⟩
 have k7:Kn (fun q=>q≠w.heap.size) w6 w7:=by rw [hw7];exact kn_set _ _ _ _
 have y17:Six w7 w.heap.size (.int .i64 t.kind) (.int .i64 t.n) (.string t.name) (.slice ra2 t.r.length rc2) (.slice ka4 t.kids.length kc4) (.slice sa6 t.sys.length sc6):=by rw [hw7];exact y16.set5 _
 have y27:=y26.kn k7 (by omega)
 have hr7:ClRow (OkN W.heap.size w7) w7 t.r (.slice ra2 t.r.length rc2):=hr6.keep k7.size (fun q hq=>hq.kn k7 (by omega)) (fun g hg hs=>k7.block g (by have:=hg.1;omega) hs)
 have hK7:KdT (OkN W.heap.size w7) w7 (TmIn (OkN W.heap.size w7) w7) t.kids (.slice ka4 t.kids.length kc4):=hK6.all k7.size (fun q hq=>hq.kn k7 (by omega)) (fun g hg hs=>k7.block g (by have:=hg.1;omega) hs)
 have hS7:SyT (OkN W.heap.size w7) w7 (TmIn (OkN W.heap.size w7) w7) t.sys (.slice sa6 t.sys.length sc6):=hS6.all k7.size (fun q hq=>(hq.mono s5).kn k7 (by omega)) (fun g hg hs=>k7.block g (by have:=hg.1;omega) hs)
 have b7:Below w.heap.size w w7:=(bchain b5 hb6).trans (k7.below (fun q hq=>by omega) (by have:=hb6.size;omega))
 have s7:W.heap.size<=w7.heap.size:=Nat.le_trans s5 (Nat.le_trans hb6.size k7.size)
 obtain⟨w8,hw8⟩:∃ w8,w8=(((((w7.setCell ⟨w.heap.size+1,0,none⟩ (.int .i64 t.kind)).setCell ⟨w.heap.size+1,1,none⟩ (.int .i64 t.n)).setCell ⟨w.heap.size+1,2,none⟩ (.string t.name)).setCell ⟨w.heap.size+1,3,none⟩ (.slice ra2 t.r.length rc2)).setCell ⟨w.heap.size+1,4,none⟩ (.slice ka4 t.kids.length kc4)).setCell ⟨w.heap.size+1,5,none⟩ (.slice sa6 t.sys.length sc6):=⟨_,rfl⟩
 have y28:Six w8 (w.heap.size+1) (.int .i64 t.kind) (.int .i64 t.n) (.string t.name) (.slice ra2 t.r.length rc2) (.slice ka4 t.kids.length kc4) (.slice sa6 t.sys.length sc6):=by rw [hw8];exact y27.set6 _ _ _ _ _ _
 have k8:Kn (fun q=>q≠w.heap.size+1) w7 w8:=by
  rw [hw8]
  exact (((((kn_set _ _ _ _).trans (kn_set _ _ _ _)).trans (kn_set _ _ _ _)).trans (kn_set _ _ _ _)).trans (kn_set _ _ _ _)).trans (kn_set _ _ _ _)
 have b8:Below w.heap.size w w8:=b7.trans (k8.below (fun q hq=>by omega) (by omega))
 have HT:Hid (TmIn (OkN w.heap.size w8) w8 t (.agg #[.int .i64 t.kind,.int .i64 t.n,.string t.name,.slice ra2 t.r.length rc2,.slice ka4 t.kids.length kc4,.slice sa6 t.sys.length sc6])):=by
  have up:∀ q,OkN W.heap.size w7 q->OkN w.heap.size w8 q:=fun q hq=>(hq.kn k8 (by omega)).mono (by omega)
  have ub:∀ g,OkN W.heap.size w7 g->g<w7.heap.size->w8.heap[g]? = w7.heap[g]?:=fun g hg hs=>k8.block g (by have:=hg.1;omega) hs
  exact TmTop.value ⟨ik,inn,hr7.keep k8.size up ub,hK7.all k8.size up ub,hS7.all k8.size up ub⟩
 obtain⟨a0,a1,a2,a3,a4,a5,af⟩:=y16.cells
 have f5:=af 5
 obtain⟨d0,d1,d2,d3,d4,d5,df⟩:=y17.cells
 obtain⟨e0,e1,e2,e3,e4,e5,ef⟩:=y27.cells
 have g0:=ef 0
 have g1:=ef 1
 have g2:=ef 2
 have g3:=ef 3
 have g4:=ef 4
 have g5:=ef 5
 obtain⟨h0,h1,h2,h3,h4,h5,_⟩:=y28.cells
 have H7:Hid (_=_):=hw7
 have H8:Hid (_=_):=hw8
 clear hw7 hw8 af df ef y16 y17 y26 y27 y28 hr6 hr7 hK6 hK7 hS6 hS7 k7 k8 hb6 b7 b5 s5 s7 y15 y25 hr5 hK5
 go_upto_region 4 with fail
 rw [<- H7.out]
 clear H7 a0 a1 a2 a3 a4 a5 f5
 go_wp2_with fail
 rw [<- H8.out]
 exact bodyPost_ret (v:=.agg #[.int .i64 t.kind,.int .i64 t.n,.string t.name,.slice ra2 t.r.length rc2,.slice ka4 t.kids.length kc4,.slice sa6 t.sys.length sc6]) (by simp only [results,Tryz.results98];simp [go_sem,h0,h1,h2,h3,h4,h5]) rfl ⟨_,rfl,HT.out,b8⟩
theorem step_append {ops:Array Oper} {o:Oper} {a:Act} {w:World} {K:Act->World->Prop} {Q:Exit->Act->World->Prop} {E:Prop} (hgd:o.guard=none) (s x:Operand) (ty:TypeId)
  (ho:o.op=.call { callee:=.builtin .append,args:=#[s,x],argTypes:=#[ty,ty] }) (v sv v':Value) (w':World) (hs:a.eval s=v) (hx:a.eval x=sv) (hrun:(Builtin.append_ #[ty,ty] o.type #[v,sv]).run Tryz.prog w=.ok v' w') (h:K (a.put o.dst v') w') :
  if Region.wanted o (yielded ops a.tmps)=true then Oper.wp Tryz.prog o a w K Q else E:=by
 have hw:Region.wanted o (yielded ops a.tmps)=true:=by simp [Region.wanted,hgd]
 rw [if_pos hw]
 unfold Oper.wp
 simp [execOp,ho,resolve,invoke,builtin,hs,hx,hrun,Result.andThen]
 exact h
theorem wpList_append_run {w:World} {ops:Array Oper} {rest:List Oper} {o:Oper} {a:Act} {Q:Exit->Act->World->Prop} (hgd:o.guard=none) (s x:Operand) (ty:TypeId)
  (ho:o.op=.call { callee:=.builtin .append,args:=#[s,x],argTypes:=#[ty,ty] }) (v sv v':Value) (w':World) (hs:a.eval s=v) (hx:a.eval x=sv) (hrun:(Builtin.append_ #[ty,ty] o.type #[v,sv]).run Tryz.prog w=.ok v' w') (h:wpList Tryz.prog ops Q rest (a.put o.dst v') w'):wpList Tryz.prog ops Q (o :: rest) a w:=by
 refine wpList_plain hgd fun K hK'=>?_
 unfold Oper.wp
 simp [execOp,ho,resolve,invoke,builtin,hs,hx,hrun,Result.andThen]
 exact hK' _ _ h
structure Two (w:World) (s:Nat) (v0 v1:Value):Prop where
 blk:w.heap[s]? = some (.cells #[v0,v1] 40 (0,0))
theorem Two.lt {w:World} {s:Nat} {v0 v1:Value} (h:Two w s v0 v1):s<w.heap.size:=(Array.getElem?_eq_some_iff.1 h.blk).1
theorem Two.cells {w:World} {s:Nat} {v0 v1:Value} (h:Two w s v0 v1):w.cell? ⟨s,0,none⟩=some v0/\w.cell? ⟨s,1,none⟩=some v1/\∀ i,w.frozen? ⟨s,i,none⟩=false:=by
 have h:=h.blk
 refine⟨?_,?_,fun i=>?_⟩ <;> simp [World.cell?,World.frozen?,h]
theorem Two.set1 {w:World} {s:Nat} {v0 v1:Value} (h:Two w s v0 v1) (u:Value):Two (w.setCell ⟨s,1,none⟩ u) s v0 u:=⟨set_blk h.blk u⟩
theorem Two.set2 {w:World} {s:Nat} {v0 v1:Value} (h:Two w s v0 v1) (u0 u1:Value):Two ((w.setCell ⟨s,0,none⟩ u0).setCell ⟨s,1,none⟩ u1) s u0 u1:=⟨set_blk (set_blk h.blk u0) u1⟩
theorem Two.blw {w w':World} {s:Nat} {v0 v1:Value} (h:Two w s v0 v1) (hb:Below w.heap.size w w'):Two w' s v0 v1:=⟨(hb.block s h.lt).trans h.blk⟩
theorem Six.grown {w w':World} {s:Nat} {v0 v1 v2 v3 v4 v5:Value} {r:Option Nat} (h:Six w s v0 v1 v2 v3 v4 v5) (hg:w.grownBy w' r) (hr:r≠some s):Six w' s v0 v1 v2 v3 v4 v5:=⟨(hg.block s h.lt (fun e=>hr e.symm)).trans h.blk⟩
theorem Two.grown {w w':World} {s:Nat} {v0 v1:Value} {r:Option Nat} (h:Two w s v0 v1) (hg:w.grownBy w' r) (hr:r≠some s):Two w' s v0 v1:=⟨(hg.block s h.lt (fun e=>hr e.symm)).trans h.blk⟩
theorem OwnsC.but {w:World} {base:Nat} {v:Value} {l:List C} {o:Nat} (h:OwnsC w base v l) (ho:v.ownBlock≠some o):ClRow (fun q=>OkN base w q/\q≠o) w l v:=by
 rcases h.2 with ⟨rfl,hz⟩|⟨g,cap,cur,rfl,hb,hh,hn,_⟩
 ·obtain rfl:l=[]:=List.length_eq_zero_iff.1 hz
  exact cl_nil _ _
 ·rcases h.form with ⟨e,_⟩|⟨g',cap',e,_,hg,hc⟩
  ·cases e
  ·cases e
   exact⟨_,_,rfl,hn,fun j c hj=>⟨g,0,rfl,⟨⟨hb,cur,_,hh⟩,fun e=>ho (by rw [<- e];rfl)⟩,hg,hc j c hj⟩⟩
structure Half (n o:Nat) (r:List C) (l:List Tm) (W:World) (va vk:Value):Prop where
 row:ClRow (OkR n (fun q=>q≠o) W vk) W r va
 kids:KOwn n (fun q=>q≠o) W vk l
 ge:n<=o
theorem Half.keep {n o:Nat} {r:List C} {l:List Tm} {W W':World} {va vk:Value} (h:Half n o r l W va vk) (hk:Kn (fun q=>n<=q->q≠o->q<W.heap.size) W W'):Half n o r l W' va vk:=by
 refine⟨h.row.keep hk.size (fun q hq=>⟨hq.1.same (hk.block q (fun _ _=>hq.1.lt) hq.1.lt),hq.2⟩) (fun q hq hs=>hk.block q (fun _ _=>hs) hs),?_,h.ge⟩
 obtain⟨us,h1,h2,h3,h4⟩:=h.kids
 refine⟨us,h1,owns_keep h2 (fun k hk'=>hk.block k (fun _ _=>(World.ownsRow.lt h2 k hk').2) (World.ownsRow.lt h2 k hk').2),h3,fun j x u hx hu=>(h4 j x u hx hu).keep hk.size (fun q hq=>⟨hq.1.same (hk.block q (fun _ _=>hq.1.lt) hq.1.lt),hq.2⟩) (fun q hq hs=>hk.block q (fun _ _=>hs) hs)⟩
theorem Half.blw {n o:Nat} {r:List C} {l:List Tm} {W W':World} {va vk:Value} (h:Half n o r l W va vk) (hb:Below W.heap.size W W'):Half n o r l W' va vk:=h.keep (Kn.of_below hb)
theorem Half.set {n o:Nat} {r:List C} {l:List Tm} {W W':World} {va vk:Value} (h:Half n o r l W va vk) (hk:Kn (fun q=>q≠o) W W'):Half n o r l W' va vk:=by
 refine⟨h.row.keep hk.size (fun q hq=>⟨hq.1.same (hk.block q hq.2.2 hq.1.lt),hq.2⟩) (fun q hq hs=>hk.block q hq.2.2 hs),h.kids.keep hk (fun q _ h=>h),h.ge⟩
theorem Half.next {n o:Nat} {r:List C} {l:List Tm} {W W2:World} {va vk:Value} {x:Tm} {u:V6} (ty:TypeId) (h:Half n o r l W va vk) (hnW:n<=W.heap.size) (ho:o<W.heap.size) (hb:Below W.heap.size W W2) (hx:TmIn (OkN W.heap.size W2) W2 x (agg6 u)) (hl:l.length+1<=200000) :
  ∃ vk' W4,(Builtin.append_ #[23,23] ty #[vk,.slice (some ⟨W2.heap.size,0,none⟩) 1 1]).run Tryz.prog (W2.alloc (.cells #[u.1,u.2.1,u.2.2.1,u.2.2.2.1,u.2.2.2.2.1,u.2.2.2.2.2] 26))=.ok vk' W4/\Half n o r (l ++ [x]) W4 va vk'/\Below n W W4/\W4.heap[o]? = W.heap[o]?:=by
 obtain⟨W3,hW3⟩:∃ W3,W3=W2.alloc (.cells #[u.1,u.2.1,u.2.2.1,u.2.2.2.1,u.2.2.2.2.1,u.2.2.2.2.2] 26):=⟨_,rfl⟩
 have b3:Below W2.heap.size W2 W3:=by rw [hW3];exact belowA _ _
 have hn:=heapNew W2 (.cells #[u.1,u.2.1,u.2.2.1,u.2.2.2.1,u.2.2.2.2.1,u.2.2.2.2.2] 26)
 rw [<- hW3] at hn ⊢
 have bb:=bchain hb b3
 have h3:=h.blw bb
 have hs3:W3.heap.size=W2.heap.size+1:=by rw [hW3];simp
 have hlt:∀ k,vk.ownBlock=some k->n<=k/\k<W.heap.size/\k≠o:=fun k hk=>by
  obtain⟨us,h1,h2,h4,_⟩:=h.kids
  exact⟨(World.ownsRow.lt h2 k hk).1,(World.ownsRow.lt h2 k hk).2,h4 k hk⟩
 have hs2:=hb.size
 have hx3:TmIn (OkR n (fun q=>q≠o) W3 vk) W3 x (agg6 u):=hx.keep b3.size (fun q hq=>⟨(hq.mono hnW).blw b3,fun e=>by have:=(hlt q e.symm).2.1;have:=hq.1;omega,by have:=hq.1;omega⟩) (fun q _ hs=>b3.block q hs)
 obtain⟨vk',W4,hrun,hO,hg,hv⟩:=append_T ty h3.kids ⟨W2.heap.size,0,none⟩ 1 (fun j y hy=>by
  rw [Addr.add_lit]
  match j with
  | 0=>simp [flat6] at hy;subst hy;simp [World.cell?,hn]
  | 1=>simp [flat6] at hy;subst hy;simp [World.cell?,hn]
  | 2=>simp [flat6] at hy;subst hy;simp [World.cell?,hn]
  | 3=>simp [flat6] at hy;subst hy;simp [World.cell?,hn]
  | 4=>simp [flat6] at hy;subst hy;simp [World.cell?,hn]
  | 5=>simp [flat6] at hy;subst hy;simp [World.cell?,hn]
  | j+6=>simp [flat6] at hy) hx3 hl (by omega) (by omega)
 refine⟨vk',W4,hrun,⟨h3.row.keep hg.size (okr_grown hg hv) (fun q hq hs=>hg.block q hs hq.2.1),hO,h.ge⟩,?_,?_⟩
 ·exact (bb.mono hnW).trans ((Below.refl n W3).grown hg (by omega) (fun k hk=>(hlt k hk).1))
 ·have ho3:W3.heap[o]? = W.heap[o]?:=bb.block o ho
  rw [<- ho3]
  exact hg.block o (by omega) (fun e=>(hlt o e.symm).2.2 rfl)
structure Whole (n o:Nat) (t:Tm) (k:Nat) (W:World) (va vk vs:Value):Prop where
 row:ClRow (OkR n (fun q=>q≠o) W vs) W t.r va
 kids:KdT (OkR n (fun q=>q≠o) W vs) W (TmIn (OkR n (fun q=>q≠o) W vs) W) t.kids vk
 sys:BOwn n (fun q=>q≠o) W vs (t.sys.take k)
 ge:n<=o
theorem Half.all {n o:Nat} {t:Tm} {W:World} {va vk:Value} (h:Half n o t.r t.kids W va vk):Whole n o t 0 W va vk (.slice none 0 0):=by
 refine⟨h.row.keep (Nat.le_refl _) (fun q hq=>⟨hq.1,(fun e=>by cases e),hq.2.2⟩) (fun _ _ _=>rfl),h.kids.row.all (Nat.le_refl _) (fun q hq=>⟨hq.1,(fun e=>by cases e),hq.2⟩) (fun _ _ _=>rfl),BOwn.nil _ _ _,h.ge⟩
theorem Whole.blw {n o:Nat} {t:Tm} {k:Nat} {W W':World} {va vk vs:Value} (h:Whole n o t k W va vk vs) (hb:Below W.heap.size W W'):Whole n o t k W' va vk vs:=by
 have ho:∀ q,OkR n (fun q=>q≠o) W vs q->OkR n (fun q=>q≠o) W' vs q:=fun q hq=>⟨hq.1.blw hb,hq.2⟩
 exact⟨h.row.keep hb.size ho (fun q _ hs=>hb.block q hs),h.kids.all hb.size ho (fun q _ hs=>hb.block q hs),h.sys.keep (Kn.of_below (No:=fun _=>True) hb) (fun _ _ _=>trivial),h.ge⟩
theorem Whole.set {n o:Nat} {t:Tm} {k:Nat} {W W':World} {va vk vs:Value} (h:Whole n o t k W va vk vs) (hk:Kn (fun q=>q≠o) W W'):Whole n o t k W' va vk vs:=by
 have ho:∀ q,OkR n (fun q=>q≠o) W vs q->OkR n (fun q=>q≠o) W' vs q:=fun q hq=>⟨hq.1.same (hk.block q hq.2.2 hq.1.lt),hq.2⟩
 have hb:∀ q,OkR n (fun q=>q≠o) W vs q->q<W.heap.size->W'.heap[q]? = W.heap[q]?:=fun q hq hs=>hk.block q hq.2.2 hs
 exact⟨h.row.keep hk.size ho hb,h.kids.all hk.size ho hb,h.sys.keep hk (fun _ _ h=>h),h.ge⟩
theorem Whole.next {n o p:Nat} {t:Tm} {k:Nat} {W W2:World} {va vk vs vf vl:Value} {b:List C × List Tm} (ty:TypeId) (h:Whole n o t k W va vk vs) (hx:t.sys[k]? = some b) (hnW:n<=W.heap.size) (ho:o<W.heap.size) (hb:Below W.heap.size W W2) (hh:Half W.heap.size p b.1 b.2 W2 vf vl) (hl:k+1<=200000) :
  ∃ vs' W4,(Builtin.append_ #[24,24] ty #[vs,.slice (some ⟨W2.heap.size,0,none⟩) 1 1]).run Tryz.prog (W2.alloc (.cells #[vf,vl] 40))=.ok vs' W4/\Whole n o t (k+1) W4 va vk vs'/\Below n W W4/\W4.heap[o]? = W.heap[o]?:=by
 obtain⟨W3,hW3⟩:∃ W3,W3=W2.alloc (.cells #[vf,vl] 40):=⟨_,rfl⟩
 have b3:Below W2.heap.size W2 W3:=by rw [hW3];exact belowA _ _
 have hn:=heapNew W2 (.cells #[vf,vl] 40)
 rw [<- hW3] at hn ⊢
 have bb:=bchain hb b3
 have h3:=h.blw bb
 have hs3:W3.heap.size=W2.heap.size+1:=by rw [hW3];simp
 have hlt:∀ k,vs.ownBlock=some k->n<=k/\k<W.heap.size/\k≠o:=fun k hk=>by
  obtain⟨us,h1,h2,h4,_⟩:=h.sys
  exact⟨(World.ownsRow.lt h2 k hk).1,(World.ownsRow.lt h2 k hk).2,h4 k hk⟩
 have hs2:=hb.size
 have up:∀ q,OkN W.heap.size W2 q->OkR n (fun q=>q≠o) W3 vs q:=fun q hq=>⟨(hq.mono hnW).blw b3,fun e=>by have:=(hlt q e.symm).2.1;have:=hq.1;omega,by have:=hq.1;omega⟩
 have hx3:ClRow (OkR n (fun q=>q≠o) W3 vs) W3 b.1 vf/\KdT (OkR n (fun q=>q≠o) W3 vs) W3 (TmIn (OkR n (fun q=>q≠o) W3 vs) W3) b.2 vl :=
  ⟨hh.row.keep b3.size (fun q hq=>up q hq.1) (fun q _ hs=>b3.block q hs),hh.kids.row.all b3.size (fun q hq=>up q hq.1) (fun q _ hs=>b3.block q hs)⟩
 have hkl:(t.sys.take k).length=k:=by rw [List.length_take];have:=some_lt hx;omega
 obtain⟨vs',W4,hrun,hO,hg,hv⟩:=append_B (x:=b) (u:=(vf,vl)) ty h3.sys ⟨W2.heap.size,0,none⟩ 1 (fun j y hy=>by
  rw [Addr.add_lit]
  match j with
  | 0=>simp [flat2] at hy;subst hy;simp [World.cell?,hn]
  | 1=>simp [flat2] at hy;subst hy;simp [World.cell?,hn]
  | j+2=>simp [flat2] at hy) hx3 (by rw [hkl];exact hl) (by omega) (by omega)
 rw [show t.sys.take k ++ [b]=t.sys.take (k+1) by rw [List.take_add_one,hx];rfl] at hO
 refine⟨vs',W4,hrun,⟨h3.row.keep hg.size (okr_grown hg hv) (fun q hq hs=>hg.block q hs hq.2.1),h3.kids.all hg.size (okr_grown hg hv) (fun q hq hs=>hg.block q hs hq.2.1),hO,h.ge⟩,?_,?_⟩
 ·exact (bb.mono hnW).trans ((Below.refl n W3).grown hg (by omega) (fun k hk=>(hlt k hk).1))
 ·have ho3:W3.heap[o]? = W.heap[o]?:=bb.block o ho
  rw [<- ho3]
  exact hg.block o (by omega) (fun e=>(hlt o e.symm).2.2 rfl)
theorem Whole.term {n o:Nat} {t:Tm} {W:World} {va vk vs:Value} (h:Whole n o t t.sys.length W va vk vs) (hk:I64 t.kind) (hn:I64 t.n):TmIn (OkN n W) W t (.agg #[.int .i64 t.kind,.int .i64 t.n,.string t.name,va,vk,vs]):=by
 have h3:=h.sys
 rw [List.take_of_length_le (Nat.le_refl _)] at h3
 obtain⟨k0,n0,s0,r0,l0,y0⟩:=t
 exact TmIn.mk k0 n0 s0 r0 l0 y0 va vk vs hk hn (h.row.keep (Nat.le_refl _) (fun q hq=>hq.1) (fun _ _ _=>rfl)) (h.kids.all (Nat.le_refl _) (fun q hq=>hq.1) (fun _ _ _=>rfl)) (h3.row.all (Nat.le_refl _) (fun q hq=>hq.1) (fun _ _ _=>rfl))
end Go.Proofs.YtblbhmnahoiecaaGreat
