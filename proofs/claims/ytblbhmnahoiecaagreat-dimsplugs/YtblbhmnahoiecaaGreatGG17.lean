/- A system whose parts lie apart. -/
import Derived.Test.YtblbhmnahoiecaaGreatGG16
import Derived.Deep.QuietTactic
import Derived.BigQuiet
import Derived.WalkSmall
import Derived.Test.YtblbhmnahoiecaaGreatGG15
import Derived.Test.YtblbhmnahoiecaaGreatGG8
set_option linter.unusedVariables false
set_option linter.unusedSimpArgs false
set_option maxRecDepth 100000
set_option maxHeartbeats 8000000
namespace Go.Proofs.YtblbhmnahoiecaaGreat
open Go.RowKit
def PutD (w:World) (G:Nat) (l:List (List C × List Tm)) (k:Nat) (cb:Nat→Nat):Prop:=∀ (j:Nat) (b:List C × List Tm),j<k→l[j]? = some b→∃ m vf vk,cb j≤m∧m≤cb (j+1)∧ClRow (Iv (cb j) m) w b.1 vf∧KdS w (TmS w) m (cb (j+1)) b.2 vk∧w.cell? ⟨G,j*2,none⟩=some vf∧w.cell? ⟨G,j*2+1,none⟩=some vk
theorem PutD.row {w:World} {G top:Nat} {l:List (List C × List Tm)} {cb:Nat→Nat} (h:PutD w G l l.length cb) (hm:Mo G l.length top cb) (hb:BlkC w G 40 (l.length*2)) (base:Nat) (hG:base≤G):SyS w (TmS w) base top l (.slice (some ⟨G,0,none⟩) l.length l.length) :=
 ⟨_,_,rfl,Nat.le_refl _,.inr ⟨G,cb,rfl,hG,hm.lo,hm.top,hb,hm.up,fun j x hx=>h j x (some_lt hx) hx⟩⟩
theorem PutD.kn {w w':World} {G:Nat} {l:List (List C × List Tm)} {k:Nat} {cb:Nat→Nat} (h:PutD w G l k cb) (hb:Below w.heap.size w w') (hG:G<w.heap.size):PutD w' G l k cb:=fun j x hj hx=>by
 obtain⟨m,vf,vk,p1,p2,h1,h2,c0,c1⟩:=h j x hj hx
 have c:=fun i=>hb.cell (p:=⟨G,i,none⟩) hG
 exact⟨m,vf,vk,p1,p2,h1.blw hb,h2.keep hb.size (fun g _ _ hg=>hb.block g hg),(c _).trans c0,(c _).trans c1⟩
theorem PutD.put {w:World} {G k m top:Nat} {l:List (List C × List Tm)} {x:List C × List Tm} {cb:Nat→Nat} (hP:PutD w G l k cb) (hm:Mo G k top cb) (hB:BlkC w G 40 m) (hx:l[k]? = some x) (hk:k*2+1<m) (u0 u1:Value) (c d:Nat) (htd:top≤d) (hdc:d≤c) (hv:ClRow (Iv top d) w x.1 u0) (hv':KdS w (TmS w) d c x.2 u1) :
  PutD (set2 w G k u0 u1) G l (k+1) (nextB k cb c)∧Mo G (k+1) c (nextB k cb c)∧BlkC (set2 w G k u0 u1) G 40 m∧Kn (fun q=>q≠G) w (set2 w G k u0 u1):=by
 have h0:=hB.set (k*2) u0
 have b1:BlkC (set2 w G k u0 u1) G 40 m:=h0.set (k*2+1) u1
 have b2:Kn (fun q=>q≠G) w (set2 w G k u0 u1):=((Kn.refl _ w).setCell (p:=⟨G,k*2,none⟩) (.inl fun h=>h rfl) _).setCell (p:=⟨G,k*2+1,none⟩) (.inl fun h=>h rfl) _
 have b3:∀ j,(set2 w G k u0 u1).cell? ⟨G,j,none⟩=if j=k*2+1 then some u1 else if j=k*2 then some u0 else w.cell? ⟨G,j,none⟩:=fun j=>by
  unfold set2;rw [h0.get (by omega),hB.get (by omega)]
 have hlo:=hm.lo
 have htp:=hm.top
 refine⟨fun j y hj hy=>?_,hm.next (by omega),b1,b2⟩
 have g00:=hm.up 0 k (Nat.zero_le _) (Nat.le_refl _)
 rcases Nat.lt_or_ge j k with hjk|hjk
 ·obtain⟨m',a0,a1,p1,p2,h1,h2,c0,c1⟩:=hP j y hjk hy
  have e1:nextB k cb c j=cb j:=by unfold nextB;rw [if_pos (by omega)]
  have e2:nextB k cb c (j+1)=cb (j+1):=by unfold nextB;rw [if_pos (by omega)]
  have g0:=hm.up 0 j (Nat.zero_le _) (by omega)
  rw [e1,e2]
  refine⟨m',a0,a1,p1,p2,h1.keep b2.size (fun _ q=>q) (fun g hg hs=>b2.block g (by have:=hg.1;omega) hs),h2.keep b2.size (fun g q1 q2 q3=>b2.block g (by omega) q3),?_,?_⟩
  all_goals
   rw [b3,if_neg (by omega),if_neg (by omega)]
   assumption
 ·obtain rfl:j=k:=by omega
  rw [hx] at hy
  cases hy
  have e1:nextB j cb c j=cb j:=by unfold nextB;rw [if_pos (Nat.le_refl _)]
  have e2:nextB j cb c (j+1)=c:=by unfold nextB;rw [if_neg (by omega)]
  rw [e1,e2]
  refine⟨d,u0,u1,by omega,by omega,cl_wide (hv.keep b2.size (fun _ q=>q) (fun g hg hs=>b2.block g (by have:=hg.1;omega) hs)) htp (Nat.le_refl _),hv'.keep b2.size (fun g q1 q2 q3=>b2.block g (by omega) q3),?_,?_⟩
  ·rw [b3,if_neg (by omega),if_pos rfl]
  ·rw [b3,if_pos rfl]
def BbS (N:Nat):Prop:=∀ (l:List (List C × List Tm)) (v:Value) (w:World),SyT Tt w (TmIn Tt w) l v→blkS l≤N→Calls Tryz.prog 147 #[v,.func (.func 148) #[] #[]] w fun e w'=>∃ v',e=.returned v'∧SyS w' (TmS w') w.heap.size w'.heap.size l v'∧Below w.heap.size w w'
theorem becomeBS_step (N:Nat) (hN:N≤100000) (IH:CbS N):BbS N:=by
 intro l v w hl hb
 obtain⟨a,cap,rfl,_⟩:=id hl
 have eg:=copyB_eg
 have hll:=blkS_len l
 by_cases hz:l=[]
 ·subst hz
  go_enter Tryz.func147,Tryz.ntmps147
  go_wp2
  go_ret
  exact⟨_,rfl,ss_nil _ _ _ _,Below.refl _ _⟩
 ·have hpos:0<l.length:=List.length_pos_iff.2 hz
  obtain⟨L,hL⟩:∃ L,L=l.length:=⟨_,rfl⟩
  have HL:Hid (L=l.length):=hL
  have Hl:Hid (SyT Tt w (TmIn Tt w) l (.slice a L cap)):=by rw [hL];exact hl
  rw [← hL] at hpos hll ⊢
  have q0:((L:Int) == 0)=false:=by simp;omega
  obtain⟨W,hmk,hBlk,hbW,sW⟩:=makeB L w (by omega)
  have hLm:L≤100000:=by omega
  clear hL hl hz hll
  go_enter Tryz.func147,Tryz.ntmps147
  go_wp2
  go_loopw [16] (fun i wr=>∃ (k:Nat) (cb:Nat→Nat),k≤L∧i=.int .i64 k∧PutD wr w.heap.size l k cb∧Mo w.heap.size k wr.heap.size cb∧BlkC wr w.heap.size 40 (L*2)∧Below w.heap.size w wr) (fun i _=>L - (intOf i).toNat)
  case atStart=>exact⟨0,fun _=>w.heap.size+1,Nat.zero_le _,rfl,fun j x hj=>by omega,⟨by omega,fun _ _ _ _=>Nat.le_refl _,by rw [sW];exact Nat.le_refl _⟩,hBlk,hbW⟩
  case round =>
   obtain⟨k,cb,hk,rfl,hP,hMo,hBk,hB⟩:=hrel
   by_cases hlt:k<L
   ·obtain⟨x,hx⟩:=someL (l:=l) (k:=k) (by rw [← HL.out];exact hlt)
    obtain⟨g1,o1,fa,fc,ka,kc,rfl,_,h2,hcl,hkd⟩:=(Hl.out.blw hB).at hx
    obtain⟨_,y0,y1⟩:=h2
    have hbx:1+x.1.length+blkL x.2≤N:=Nat.le_trans (sumN_mem (List.mem_map_of_mem (f:=fun b:List C × List Tm=>1+b.1.length+blkL b.2) (List.mem_of_getElem? hx))) hb
    obtain⟨w1,hw1⟩:∃ w1,w1=wr.alloc (.cells #[.slice fa x.1.length fc,.slice ka x.2.length kc] 40):=⟨_,rfl⟩
    have b1:Below wr.heap.size wr w1:=by rw [hw1];exact belowA _ _
    have cc:=IH x fa x.1.length fc ka x.2.length kc w1 (hcl.blw b1) (hkd.blw b1) (by omega) (by omega)
    obtain⟨_,z0,z1⟩:Cs2 w1 wr.heap.size 0 x fa fc ka kc:=by rw [hw1];exact cs2_new wr x fa fc ka kc
    simp only [Nat.zero_add] at z1
    have H1:Hid (_=_):=hw1
    have hBk1:=hBk.kn (No:=fun _=>True) (Kn.of_below b1) trivial
    have hP1:=hP.kn b1 hBk.lt
    have hGlt:=hBk.lt
    have s1:wr.heap.size<w1.heap.size:=by rw [hw1];simp
    have hB1:=bchain hB b1
    clear hw1 hP hBk hcl hkd b1 hbx
    go_upto_region 7 with fail
    rw [← H1.out]
    clear H1
    go_wp2_with fail
    refine cc.mono ?_
    rintro e w2 ⟨fa2,fc2,ka2,kc2,rfl,mm,p1,p2,hc2,hk2,hb2⟩
    have hMo:=hMo.more (Nat.le_of_lt s1)
    clear cc y0 y1 z0 z1
    have hBk2:=hBk1.kn (No:=fun _=>True) (Kn.of_below hb2) trivial
    have hP2:=hP1.kn hb2 hBk1.lt
    have hB2:=bchain hB1 hb2
    obtain⟨o0,e0⟩:=hBk2.cell (k*2) (by omega)
    obtain⟨o1,e1⟩:=hBk2.cell (k*2+1) (by omega)
    have f0:=hBk2.soft (k*2)
    have f1:=hBk2.soft (k*2+1)
    have hfin:=hP2.put hMo hBk2 hx (by omega) _ _ _ _ p1 p2 hc2 hk2
    unfold set2 at hfin
    have HF:Hid (_∧_∧_∧_):=hfin
    clear hfin
    go_wp2_with fail
    obtain⟨q1,qm,q2,q3⟩:=HF.out
    refine⟨⟨k+1,_,by omega,by go_num,q1,qm.more q3.size,q2,?_⟩,by simp [intOf];omega⟩
    exact hB2.trans (q3.below (fun q hq=>by omega) hB2.size)
   ·obtain rfl:k=L:=by omega
    have hr:=PutD.row (base:=w.heap.size) (l:=l) (G:=w.heap.size) (cb:=cb) (top:=wr.heap.size) (by rw [← HL.out];exact hP) (by rw [← HL.out];exact hMo) (by rw [← HL.out];exact hBk) (Nat.le_refl _)
    rw [← HL.out] at hr
    clear hP hBk
    go_wp2
    go_ret
    exact⟨_,rfl,hr,hB⟩
theorem copyS_step (N:Nat) (hN:N+1≤100000) (IHk:BcS N) (IHs:BbS N):CpS (N+1):=by
 intro t v w hv hb
 have hbs:=blk_eq t
 obtain⟨ra,rc,ka,kc,sa,sc,rfl,ht⟩:=hv.form
 have ik:=ht.ik
 have inn:=ht.inn
 obtain⟨W,hW⟩:∃ W,W=(w.alloc (.cells #[.int .i64 t.kind,.int .i64 t.n,.string t.name,.slice ra t.r.length rc,.slice ka t.kids.length kc,.slice sa t.sys.length sc] 26)).alloc (.cells #[.int .i64 0,.int .i64 0,.string ⟨#[]⟩,.slice none 0 0,.slice none 0 0,.slice none 0 0] 26):=⟨_,rfl⟩
 have bW:Below w.heap.size w W:=by rw [hW];exact bchain (belowA _ _) (belowA _ _)
 have sW:W.heap.size=w.heap.size+2:=by rw [hW];simp
 have x1:Six W w.heap.size (.int .i64 t.kind) (.int .i64 t.n) (.string t.name) (.slice ra t.r.length rc) (.slice ka t.kids.length kc) (.slice sa t.sys.length sc):=⟨by rw [hW];exact (Below.heap_alloc _ _ _ (by simp)).trans (heapNew w _)⟩
 have x2:Six W (w.heap.size+1) (.int .i64 0) (.int .i64 0) (.string ⟨#[]⟩) (.slice none 0 0) (.slice none 0 0) (.slice none 0 0):=⟨by
  rw [hW];have:=heapNew (w.alloc (.cells #[.int .i64 t.kind,.int .i64 t.n,.string t.name,.slice ra t.r.length rc,.slice ka t.kids.length kc,.slice sa t.sys.length sc] 26)) (.cells #[.int .i64 0,.int .i64 0,.string ⟨#[]⟩,.slice none 0 0,.slice none 0 0,.slice none 0 0] 26);rwa [World.size_alloc] at this⟩
 have c1:=clone_any t.r _ W (ht.row.blw bW) (by omega)
 have H1:Hid (∀ w',Below w.heap.size w w'→Calls Tryz.prog 146 #[.slice ka t.kids.length kc,.func (.func 98) #[] #[]] w' fun e w''=>∃ v',e=.returned v'∧KdS w'' (TmS w'') w'.heap.size w''.heap.size t.kids v'∧Below w'.heap.size w' w''):=fun w' q=>IHk t.kids _ w' (ht.kids.blw q) (by omega)
 have H2:Hid (∀ w',Below w.heap.size w w'→Calls Tryz.prog 147 #[.slice sa t.sys.length sc,.func (.func 148) #[] #[]] w' fun e w''=>∃ v',e=.returned v'∧SyS w'' (TmS w'') w'.heap.size w''.heap.size t.sys v'∧Below w'.heap.size w' w''):=fun w' q=>IHs t.sys _ w' (ht.sys.blw q) (by omega)
 have HW:Hid (_=_):=hW
 obtain⟨z3,hz3⟩:∃ z,z=t.r.length:=⟨_,rfl⟩
 obtain⟨z4,hz4⟩:∃ z,z=t.kids.length:=⟨_,rfl⟩
 obtain⟨z5,hz5⟩:∃ z,z=t.sys.length:=⟨_,rfl⟩
 rw [← hz3] at c1
 rw [← hz4] at H1
 rw [← hz5] at H2
 rw [← hz3,← hz4,← hz5] at HW x1
 have Hz:Hid (z3=t.r.length∧z4=t.kids.length∧z5=t.sys.length):=⟨hz3,hz4,hz5⟩
 simp only [← hz3,← hz4,← hz5]
 clear hW hz3 hz4 hz5 hv ht hbs IHk IHs
 obtain⟨a0,a1,a2,a3,a4,a5,af⟩:=x1.cells
 go_enter Tryz.func98,Tryz.ntmps98
 go_upto_region 1 with fail
 rw [← HW.out]
 clear HW
 go_wp2_with fail
 refine c1.mono ?_
 rintro e w2 ⟨v2,rfl,hO2,hb2⟩
 clear c1 a0 a1 a2 a3 a4 a5 af
 obtain⟨ra2,rc2,rfl⟩:=OwnsC.len hO2
 have hr2:ClRow (Iv W.heap.size w2.heap.size) w2 t.r (.slice ra2 t.r.length rc2):=OwnsC.iv (w':=w2) hO2
 have y1:=x1.blw hb2
 have y2:=x2.blw hb2
 obtain⟨w3,hw3⟩:∃ w3,w3=w2.setCell ⟨w.heap.size,3,none⟩ (.slice ra2 t.r.length rc2):=⟨_,rfl⟩
 have k3:Kn (fun q=>q≠w.heap.size) w2 w3:=by rw [hw3];exact kn_set _ _ _ _
 have y13:Six w3 w.heap.size (.int .i64 t.kind) (.int .i64 t.n) (.string t.name) (.slice ra2 t.r.length rc2) (.slice ka z4 kc) (.slice sa z5 sc):=by rw [hw3];exact y1.set3 _
 have y23:=y2.kn k3 (by omega)
 have s23:=k3.size
 have sq2:W.heap.size≤w2.heap.size:=hb2.size
 have hr3:ClRow (Iv W.heap.size w3.heap.size) w3 t.r (.slice ra2 t.r.length rc2):=cl_wide (hr2.keep k3.size (fun _ q=>q) (fun g hg hs=>k3.block g (by have:=hg.1;omega) hs)) (Nat.le_refl _) s23
 have b3:Below w.heap.size w w3:=(bchain bW hb2).trans (k3.below (fun q hq=>by omega) (by have:=hb2.size;omega))
 have s3:W.heap.size≤w3.heap.size:=Nat.le_trans hb2.size k3.size
 have c2:=H1.out w3 b3
 obtain⟨a0,a1,a2,a3,a4,a5,af⟩:=y1.cells
 have f3:=af 3
 obtain⟨d0,d1,d2,d3,d4,d5,df⟩:=y13.cells
 have H3:Hid (_=_):=hw3
 clear hw3 hO2 hr2 y1 y2 x1 x2 H1 af df k3 hb2
 go_upto_region 2 with fail
 rw [← H3.out]
 clear H3 a0 a1 a2 a3 a4 a5 f3
 go_wp2_with fail
 refine c2.mono ?_
 rintro e w4 ⟨v4,rfl,hK4,hb4⟩
 clear c2 d0 d1 d2 d3 d4 d5
 obtain⟨ka4,kc4,rfl,_⟩:=id hK4
 have y14:=y13.blw hb4
 have y24:=y23.blw hb4
 have hr4:=hr3.blw hb4
 have s34:=hb4.size
 obtain⟨w5,hw5⟩:∃ w5,w5=w4.setCell ⟨w.heap.size,4,none⟩ (.slice ka4 t.kids.length kc4):=⟨_,rfl⟩
 have k5:Kn (fun q=>q≠w.heap.size) w4 w5:=by rw [hw5];exact kn_set _ _ _ _
 have y15:Six w5 w.heap.size (.int .i64 t.kind) (.int .i64 t.n) (.string t.name) (.slice ra2 t.r.length rc2) (.slice ka4 t.kids.length kc4) (.slice sa z5 sc):=by rw [hw5];exact y14.set4 _
 have y25:=y24.kn k5 (by omega)
 have s45:=k5.size
 have hr5:ClRow (Iv W.heap.size w3.heap.size) w5 t.r (.slice ra2 t.r.length rc2):=hr4.keep k5.size (fun _ q=>q) (fun g hg hs=>k5.block g (by have:=hg.1;omega) hs)
 have hK5:KdS w5 (TmS w5) w3.heap.size w5.heap.size t.kids (.slice ka4 t.kids.length kc4):=(hK4.keep k5.size (fun g q1 q2 q3=>k5.block g (by omega) q3)).wide (Nat.le_refl _) s45
 have b5:Below w.heap.size w w5:=(bchain b3 hb4).trans (k5.below (fun q hq=>by omega) (by have:=hb4.size;omega))
 have s5:W.heap.size≤w5.heap.size:=Nat.le_trans s3 (Nat.le_trans hb4.size k5.size)
 have c3:=H2.out w5 b5
 obtain⟨a0,a1,a2,a3,a4,a5,af⟩:=y14.cells
 have f4:=af 4
 obtain⟨d0,d1,d2,d3,d4,d5,df⟩:=y15.cells
 have H5:Hid (_=_):=hw5
 clear hw5 hK4 hr4 hr3 y14 y24 y13 y23 H2 af df k5 hb4 b3 s3
 go_upto_region 3 with fail
 rw [← H5.out]
 clear H5 a0 a1 a2 a3 a4 a5 f4
 go_wp2_with fail
 refine c3.mono ?_
 rintro e w6 ⟨v6,rfl,hS6,hb6⟩
 clear c3 d0 d1 d2 d3 d4 d5
 obtain⟨sa6,sc6,rfl,_⟩:=id hS6
 have y16:=y15.blw hb6
 have y26:=y25.blw hb6
 have hr6:=hr5.blw hb6
 have s56:=hb6.size
 have hK6:=hK5.keep hb6.size (fun g _ _ hg=>hb6.block g hg)
 obtain⟨w7,hw7⟩:∃ w7,w7=w6.setCell ⟨w.heap.size,5,none⟩ (.slice sa6 t.sys.length sc6):=⟨_,rfl⟩
 have k7:Kn (fun q=>q≠w.heap.size) w6 w7:=by rw [hw7];exact kn_set _ _ _ _
 have y17:Six w7 w.heap.size (.int .i64 t.kind) (.int .i64 t.n) (.string t.name) (.slice ra2 t.r.length rc2) (.slice ka4 t.kids.length kc4) (.slice sa6 t.sys.length sc6):=by rw [hw7];exact y16.set5 _
 have y27:=y26.kn k7 (by omega)
 have s67:=k7.size
 have hr7:ClRow (Iv W.heap.size w3.heap.size) w7 t.r (.slice ra2 t.r.length rc2):=hr6.keep k7.size (fun _ q=>q) (fun g hg hs=>k7.block g (by have:=hg.1;omega) hs)
 have hK7:KdS w7 (TmS w7) w3.heap.size w5.heap.size t.kids (.slice ka4 t.kids.length kc4):=hK6.keep k7.size (fun g q1 q2 q3=>k7.block g (by omega) q3)
 have hS7:SyS w7 (TmS w7) w5.heap.size w7.heap.size t.sys (.slice sa6 t.sys.length sc6):=(hS6.keep k7.size (fun g q1 q2 q3=>k7.block g (by omega) q3)).wide (Nat.le_refl _) s67
 have b7:Below w.heap.size w w7:=(bchain b5 hb6).trans (k7.below (fun q hq=>by omega) (by have:=hb6.size;omega))
 have s7:W.heap.size≤w7.heap.size:=Nat.le_trans s5 (Nat.le_trans hb6.size k7.size)
 obtain⟨w8,hw8⟩:∃ w8,w8=(((((w7.setCell ⟨w.heap.size+1,0,none⟩ (.int .i64 t.kind)).setCell ⟨w.heap.size+1,1,none⟩ (.int .i64 t.n)).setCell ⟨w.heap.size+1,2,none⟩ (.string t.name)).setCell ⟨w.heap.size+1,3,none⟩ (.slice ra2 t.r.length rc2)).setCell ⟨w.heap.size+1,4,none⟩ (.slice ka4 t.kids.length kc4)).setCell ⟨w.heap.size+1,5,none⟩ (.slice sa6 t.sys.length sc6):=⟨_,rfl⟩
 have y28:Six w8 (w.heap.size+1) (.int .i64 t.kind) (.int .i64 t.n) (.string t.name) (.slice ra2 t.r.length rc2) (.slice ka4 t.kids.length kc4) (.slice sa6 t.sys.length sc6):=by rw [hw8];exact y27.set6 _ _ _ _ _ _
 have k8:Kn (fun q=>q≠w.heap.size+1) w7 w8:=by
  rw [hw8]
  exact (((((kn_set _ _ _ _).trans (kn_set _ _ _ _)).trans (kn_set _ _ _ _)).trans (kn_set _ _ _ _)).trans (kn_set _ _ _ _)).trans (kn_set _ _ _ _)
 have b8:Below w.heap.size w w8:=b7.trans (k8.below (fun q hq=>by omega) (by omega))
 have HT:Hid (TmS w8 w.heap.size w8.heap.size t (.agg #[.int .i64 t.kind,.int .i64 t.n,.string t.name,.slice ra2 t.r.length rc2,.slice ka4 t.kids.length kc4,.slice sa6 t.sys.length sc6])):=by
  have s78:=k8.size
  exact TsTop.value (m1:=w3.heap.size) (m2:=w5.heap.size) ⟨by omega,by omega,by omega,Nat.le_refl _,ik,inn,cl_wide (hr7.keep k8.size (fun _ q=>q) (fun g hg hs=>k8.block g (by have:=hg.1;omega) hs)) (by omega) (Nat.le_refl _),hK7.keep k8.size (fun g q1 q2 q3=>k8.block g (by omega) q3),(hS7.keep k8.size (fun g q1 q2 q3=>k8.block g (by omega) q3)).wide (Nat.le_refl _) s78⟩
 obtain⟨a0,a1,a2,a3,a4,a5,af⟩:=y16.cells
 have f5:=af 5
 obtain⟨d0,d1,d2,d3,d4,d5,df⟩:=y17.cells
 obtain⟨e0,e1,e2,e3,e4,e5,ef⟩:=y27.cells
 have g0:=ef 0
 have g1:=ef 1
 have g2:=ef 2
 have g3:=ef 3
 have g4:=ef 4
 have g5:=ef 5
 obtain⟨h0,h1,h2,h3,h4,h5,_⟩:=y28.cells
 have H7:Hid (_=_):=hw7
 have H8:Hid (_=_):=hw8
 clear hw7 hw8 af df ef y16 y17 y26 y27 y28 hr6 hr7 hK6 hK7 hS6 hS7 k7 k8 hb6 b7 b5 s5 s7 y15 y25 hr5 hK5
 go_upto_region 4 with fail
 rw [← H7.out]
 clear H7 a0 a1 a2 a3 a4 a5 f5
 go_wp2_with fail
 rw [← H8.out]
 exact bodyPost_ret (v:=.agg #[.int .i64 t.kind,.int .i64 t.n,.string t.name,.slice ra2 t.r.length rc2,.slice ka4 t.kids.length kc4,.slice sa6 t.sys.length sc6]) (by simp only [results,Tryz.results98];simp [go_sem,h0,h1,h2,h3,h4,h5]) rfl ⟨_,rfl,HT.out,b8⟩
theorem copyS_N (N:Nat) (hN:N≤100000):CpS N:=by
 induction N with
 | zero=>intro t v w _ h;have:=blk_pos t;omega
 | succ N ih=>exact copyS_step N hN (becomeS_step N (by omega) (ih (by omega))) (becomeBS_step N (by omega) (copyBranchS_step N (by omega) (becomeS_step N (by omega) (ih (by omega)))))
theorem copyS_any (t:Tm) (v:Value) (w:World) (hv:TmIn Tt w t v) (hb:blk t≤100000) :
  Calls Tryz.prog 98 #[v] w fun e w'=>∃ v',e=.returned v'∧TmS w' w.heap.size w'.heap.size t v'∧Below w.heap.size w w':=copyS_N 100000 (Nat.le_refl _) t v w hv hb
theorem poutside_any (bv bd g off:Nat) (m:Int) (w:World) (hl:g<w.heap.size) (h1:w.cell? ⟨g,off+1,none⟩=some (.int .i64 m)) (hn:0≤m∧m≤9223372036854775807) (hb:bv≤1000000) :
  Calls Tryz.prog 128 #[.agg #[.int .i64 (bv:Int),.int .i64 (bd:Int)],.pointer (some ⟨g,off,none⟩)] w fun e w'=>e=.returned (.int .i64 (m - bv))∧Below w.heap.size w w':=by
 obtain⟨w2,hw2⟩:∃ w2,w2=w.alloc (.cells #[.int .i64 (bv:Int),.int .i64 (bd:Int)] 134):=⟨_,rfl⟩
 have hb2:Below w.heap.size w w2:=by rw [hw2];exact belowA _ _
 have m1:w2.heap[w.heap.size]? = some (.cells #[.int .i64 (bv:Int),.int .i64 (bd:Int)] 134 (0,0)):=by rw [hw2];exact heapNew w _
 have e0:w2.cell? ⟨w.heap.size,0,none⟩=some (.int .i64 (bv:Int)):=by simp [World.cell?,m1]
 have g1:=(hb2.cell (p:=⟨g,off+1,none⟩) hl).trans h1
 have wr1:IntKind.i64.wrap (m - (bv:Int))=m - (bv:Int):=by simp [IntKind.wrap,IntKind.bits,IntKind.signed];omega
 have H2:Hid (_=_):=hw2
 clear hw2 m1 h1
 go_enter Tryz.func128,Tryz.ntmps128
 go_upto_region 1 with fail
 rw [← H2.out]
 clear H2
 go_quiet (fail)
 go_wp2
 go_ret
 exact⟨rfl,hb2.os,hb2.tape,hb2.output,hb2.size,hb2.block⟩
structure CEnv (w:World) (nb tb:Nat) (n c:Int):Prop where
 ne:nb≠tb
 i64:I64 n
 cn:w.cell? ⟨nb,0,none⟩=some (.int .i64 n)
 nlt:nb<w.heap.size
 bt:w.heap[tb]? = some (.cells #[.int .i64 c] 3 (0,0))
theorem CEnv.lt {w:World} {nb tb:Nat} {n c:Int} (h:CEnv w nb tb n c):tb<w.heap.size:=(Array.getElem?_eq_some_iff.1 h.bt).1
theorem CEnv.blw {w w':World} {nb tb:Nat} {n c:Int} (h:CEnv w nb tb n c) (hb:Below w.heap.size w w'):CEnv w' nb tb n c :=
 ⟨h.ne,h.i64,(hb.cell (p:=⟨nb,0,none⟩) h.nlt).trans h.cn,Nat.lt_of_lt_of_le h.nlt hb.size,(hb.block tb h.lt).trans h.bt⟩
theorem ccl_any (n c m:Int) (bv bd g off nb tb:Nat) (w:World) (hE:CEnv w nb tb n c) (hl:g<w.heap.size) (h1:w.cell? ⟨g,off+1,none⟩=some (.int .i64 m)) (hn:0≤m∧m≤9223372036854775807) (hb:bv≤1000000) (hc:0≤c∧c≤1000000000) :
  Calls Tryz.prog 127 #[.pointer (some ⟨g,off,none⟩),.agg #[.int .i64 (bv:Int),.int .i64 (bd:Int)],.pointer (some ⟨nb,0,none⟩),.pointer (some ⟨tb,0,none⟩)] w fun e w'=>e=.returned (.tuple #[])∧CEnv w' nb tb n (c+if m - bv=n then 1 else 0)∧Kn (fun q=>q≠tb) w w':=by
 obtain⟨cz,hcz⟩:∃ z,z=c+(if m - (bv:Int)=n then 1 else 0):=⟨_,rfl⟩
 have Hcz:Hid (_=_):=hcz
 rw [← hcz]
 clear hcz
 obtain⟨w2,hw2⟩:∃ w2,w2=w.alloc (.cells #[.int .i64 (bv:Int),.int .i64 (bd:Int)] 134):=⟨_,rfl⟩
 have hb2:Below w.heap.size w w2:=by rw [hw2];exact belowA _ _
 have m1:w2.heap[w.heap.size]? = some (.cells #[.int .i64 (bv:Int),.int .i64 (bd:Int)] 134 (0,0)):=by rw [hw2];exact heapNew w _
 have e0:w2.cell? ⟨w.heap.size,0,none⟩=some (.int .i64 (bv:Int)):=by simp [World.cell?,m1]
 have e1:w2.cell? ⟨w.heap.size,1,none⟩=some (.int .i64 (bd:Int)):=by simp [World.cell?,m1]
 have g1:=(hb2.cell (p:=⟨g,off+1,none⟩) hl).trans h1
 have hE2:=hE.blw hb2
 have cn:=hE2.cn
 have hl2:g<w2.heap.size:=Nat.lt_of_lt_of_le hl hb2.size
 have H2:Hid (_=_):=hw2
 have HO:Hid (∀ V,Below w2.heap.size w2 V→Calls Tryz.prog 128 #[.agg #[.int .i64 (bv:Int),.int .i64 (bd:Int)],.pointer (some ⟨g,off,none⟩)] V fun e w'=>e=.returned (.int .i64 (m - bv))∧Below V.heap.size V w'):=fun V q=>poutside_any bv bd g off m V (Nat.lt_of_lt_of_le hl2 q.size) ((q.cell (p:=⟨g,off+1,none⟩) hl2).trans g1) hn hb
 have cc:=HO.out w2 (Below.refl _ _)
 have bt:=hE2.bt
 have c0:w2.cell? ⟨tb,0,none⟩=some (.int .i64 c):=by simp [World.cell?,bt]
 have wr:wrap64 (c+1)=c+1:=by simp [wrap64];omega
 have sX:w.heap.size<w2.heap.size:=by rw [hw2];simp
 clear hw2 m1 h1
 go_enter Tryz.func127,Tryz.ntmps127
 go_upto_region 1 with fail
 rw [← H2.out]
 clear H2
 have HX:Hid (∀ V,Below w2.heap.size w2 V→V.cell? ⟨w.heap.size,0,none⟩=some (.int .i64 (bv:Int))∧V.cell? ⟨w.heap.size,1,none⟩=some (.int .i64 (bd:Int))∧V.cell? ⟨nb,0,none⟩=some (.int .i64 n)):=fun V q=>⟨(q.cell (p:=⟨w.heap.size,0,none⟩) sX).trans e0,(q.cell (p:=⟨w.heap.size,1,none⟩) sX).trans e1,(q.cell (p:=⟨nb,0,none⟩) hE2.nlt).trans cn⟩
 have HE2:Hid (CEnv w2 nb tb n c):=hE2
 have HK2:Hid (Kn (fun q=>q≠tb) w w2):=Kn.of_below hb2
 obtain⟨b,hb⟩:=bool_of (m - (bv:Int)=n)
 have HBb:Hid (b=true↔m - (bv:Int)=n):=hb
 have beq:(m - (bv:Int) == n)=b:=by rw [Bool.eq_iff_iff,hb];simp
 clear e0 e1 cn c0 bt hE2 hb2 g1 cc hb hE
 refine wp_region_held_drew (S:=fun V=>Below w2.heap.size w2 V) (by kernel_rfl) ((Below.refl _ _).drew) (fun hS=>?_)
 refine wpAnyH_take (i:=0) (v:=.agg #[.int .i64 (bv:Int),.int .i64 (bd:Int)]) rfl (by kernel_rfl) (by kernel_rfl) (by kernel_rfl) (fun _ _ _ h=>h) (Or.inl ⟨by rfl,fun w hS=>by obtain⟨y0,y1,_⟩:=HX.out w hS;go_simp⟩) hS ?_
 try simp only [Act.put,List.getElem_toArray,List.getElem_cons_zero,List.getElem_cons_succ,List.setIfInBounds_toArray,List.set_cons_zero,List.set_cons_succ]
 refine wpAnyH_take (i:=1) (v:=.pointer (some ⟨g,off,none⟩)) rfl (by kernel_rfl) (by kernel_rfl) (by kernel_rfl) (fun _ _ _ h=>h) (Or.inl ⟨by rfl,fun w hS=>by go_simp⟩) hS ?_
 try simp only [Act.put,List.getElem_toArray,List.getElem_cons_zero,List.getElem_cons_succ,List.setIfInBounds_toArray,List.set_cons_zero,List.set_cons_succ]
 refine wpAnyH_take (i:=3) (v:=.int .i64 n) rfl (by kernel_rfl) (by kernel_rfl) (by kernel_rfl) (fun _ _ _ h=>h) (Or.inl ⟨by rfl,fun w hS=>by obtain⟨_,_,y2⟩:=HX.out w hS;go_simp⟩) hS ?_
 try simp only [Act.put,List.getElem_toArray,List.getElem_cons_zero,List.getElem_cons_succ,List.setIfInBounds_toArray,List.set_cons_zero,List.set_cons_succ]
 refine wpAnyH_ready (rs:=[2]) (by kernel_rfl) (by simp) ?_
 refine ready_cons rfl (fun KK hKK=>?_) AllReadyH.nil
 refine⟨?_⟩
 have cc:=HO.out _ hS
 go_simp
 refine cc.mono ?_
 rintro e w3 ⟨rfl,hb3⟩
 have q3:Below w2.heap.size w2 w3:=hS.trans (hb3.mono hS.size)
 refine hKK.out _ _ q3 (fun hS3=>?_)
 clear hKK KK cc
 try simp only [Act.put,List.getElem_toArray,List.getElem_cons_zero,List.getElem_cons_succ,List.setIfInBounds_toArray,List.set_cons_zero,List.set_cons_succ]
 refine wpAnyH_take (i:=4) (v:=.bool b) rfl (by kernel_rfl) (by kernel_rfl) (by kernel_rfl) (fun _ _ _ h=>h) (Or.inl ⟨by rfl,fun w hS=>by go_simp⟩) hS3 ?_
 try simp only [Act.put,List.getElem_toArray,List.getElem_cons_zero,List.getElem_cons_succ,List.setIfInBounds_toArray,List.set_cons_zero,List.set_cons_succ]
 refine wpAnyH_done (by kernel_rfl) ?_ _
 have hE3:=HE2.out.blw q3
 have hK3:Kn (fun q=>q≠tb) w w3:=HK2.out.trans (Kn.of_below q3)
 have bt:=hE3.bt
 have c0:w3.cell? ⟨tb,0,none⟩=some (.int .i64 c):=by simp [World.cell?,bt]
 have f0:w3.frozen? ⟨tb,0,none⟩=false:=by simp [World.frozen?,bt]
 cases b
 ·have hm:¬ m - (bv:Int)=n:=fun h=>by have:=HBb.out.2 h;cases this
  have HF:Hid (CEnv w3 nb tb n cz):=by rw [Hcz.out,if_neg hm,Int.add_zero];exact hE3
  clear hE3 bt
  go_wp2
  go_end0
  exact⟨rfl,HF.out,hK3⟩
 ·have hm:m - (bv:Int)=n:=HBb.out.1 rfl
  obtain⟨w4,hw4⟩:∃ W,W=w3.setCell ⟨tb,0,none⟩ (.int .i64 (c+1)):=⟨_,rfl⟩
  have k4:Kn (fun q=>q≠tb) w3 w4:=by rw [hw4];exact kn_set _ _ _ _
  have HF:Hid (CEnv w4 nb tb n cz):=by
   rw [Hcz.out,if_pos hm]
   exact⟨hE3.ne,hE3.i64,(k4.cell (p:=⟨nb,0,none⟩) hE3.ne hE3.nlt).trans hE3.cn,Nat.lt_of_lt_of_le hE3.nlt k4.size,by rw [hw4];exact set_blk bt _⟩
  have hK4:=hK3.trans k4
  have H4:Hid (_=_):=hw4
  clear hE3 bt hw4 k4
  go_wp2
  go_end0
  rw [← H4.out]
  exact⟨rfl,HF.out,hK4⟩
structure Chg (w w':World) (g off lo hi:Nat):Prop where
 kn:Kn (fun q=>¬ (lo≤q∧q<hi)∧q≠g) w w'
 ot:∀ i,i<off∨off+6≤i→w'.cell? ⟨g,i,none⟩=w.cell? ⟨g,i,none⟩
 bk:∀ ty m,BlkC w g ty m→BlkC w' g ty m
theorem Chg.refl (w:World) (g off lo hi:Nat):Chg w w g off lo hi:=⟨Kn.refl _ _,fun _ _=>rfl,fun _ _ h=>h⟩
theorem Chg.trans {w1 w2 w3:World} {g off lo hi:Nat} (h:Chg w1 w2 g off lo hi) (k:Chg w2 w3 g off lo hi):Chg w1 w3 g off lo hi :=
 ⟨h.kn.trans k.kn,fun i hi=>(k.ot i hi).trans (h.ot i hi),fun ty m q=>k.bk ty m (h.bk ty m q)⟩
theorem Chg.of_below {w w':World} (h:Below w.heap.size w w') {g:Nat} (hg:g<w.heap.size) (off lo hi:Nat):Chg w w' g off lo hi :=
 ⟨Kn.of_below h,fun i _=>h.cell (p:=⟨g,i,none⟩) hg,fun ty m q=>q.kn (No:=fun _=>True) (Kn.of_below h) trivial⟩
structure PEnv (w:World) (B nb ub:Nat) (n:Int) (u:Tm):Prop where
 nlt:nb<B
 ult:ub<B
 bw:B≤w.heap.size
 i64:I64 n
 cn:w.cell? ⟨nb,0,none⟩=some (.int .i64 n)
 cu:∃ ra rc ka kc sa sc,Cs6 w ub 0 u ra rc ka kc sa sc∧TmTop (fun q=>q<B) w u ra rc ka kc sa sc
theorem PEnv.kn {w w':World} {B nb ub:Nat} {n:Int} {u:Tm} (h:PEnv w B nb ub n u) (hk:Kn (fun q=>q<B) w w'):PEnv w' B nb ub n u:=by
 obtain⟨h1,h2,h3,h4,h5,ra,rc,ka,kc,sa,sc,h6,h7⟩:=h
 exact⟨h1,h2,Nat.le_trans h3 hk.size,h4,(hk.cell (p:=⟨nb,0,none⟩) h1 (by show nb<_;omega)).trans h5,ra,rc,ka,kc,sa,sc,h6.kn hk h2,h7.kn hk fun _ q=>q⟩
def PvR (w w':World) (g off lo hi:Nat) (T:Tm):Prop:=∃ ra rc ka kc sa sc,Cs6 w' g off T ra rc ka kc sa sc∧TmTop (fun q=>(lo≤q∧q<hi)∨w.heap.size≤q) w' T ra rc ka kc sa sc
theorem prefuseIf_no (e0:Int) (w:World):Calls Tryz.prog 53 #[.bool false,.int .i64 e0] w fun e w'=>e=.returned (.tuple #[])∧w'=w:=by
 go_enter Tryz.func53,Tryz.ntmps53
 go_wp2
 go_end0
 exact⟨rfl,rfl⟩
theorem prefuseIf_yes (e0:Int) (w:World):Calls Tryz.prog 53 #[.bool true,.int .i64 e0] w fun e w'=>e=.panicked [pe e0]∧w'=w:=by
 go_enter Tryz.func53,Tryz.ntmps53
 go_wp2
 exact⟨rfl,rfl,rfl⟩
theorem prefuse_any (e0:Int) (w:World):Calls Tryz.prog 51 #[.int .i64 e0] w fun e w'=>LOut e0 (fun v=>v=.tuple #[]) e∧w'=w:=by
 by_cases h0:e0=0
 ·subst h0
  have cc:=prefuseIf_no 0 w
  go_enter Tryz.func51,Tryz.ntmps51
  go_wp2_with fail
  refine cc.mono ?_
  rintro e w' ⟨rfl,hw'⟩
  replace hw':=hw'.symm
  subst hw'
  go_wp2_with fail
  go_end0
  exact⟨.ok rfl rfl,rfl⟩
 ·have cc:=prefuseIf_yes e0 w
  have q:(e0 != 0)=true:=by simpa using h0
  go_enter Tryz.func51,Tryz.ntmps51
  go_wp2_with fail
  refine cc.mono ?_
  rintro e w' ⟨rfl,hw'⟩
  replace hw':=hw'.symm
  subst hw'
  exact⟨rfl,.inr ⟨h0,rfl⟩,rfl⟩
structure Mk (w:World) (g:Nat) (f:Int):Prop where
 blk:∃ ty,w.heap[g]? = some (.cells #[.int .i64 f] ty (0,0))
theorem Mk.lt {w:World} {g:Nat} {f:Int} (h:Mk w g f):g<w.heap.size:=by obtain⟨ty,h⟩:=h.blk;exact (Array.getElem?_eq_some_iff.1 h).1
theorem Mk.cells {w:World} {g:Nat} {f:Int} (h:Mk w g f):w.cell? ⟨g,0,none⟩=some (.int .i64 f)∧w.frozen? ⟨g,0,none⟩=false:=by
 obtain⟨ty,h⟩:=h.blk
 exact⟨by simp [World.cell?,h],by unfold World.frozen?; simp [h]⟩
theorem Mk.kn {No:Nat→Prop} {w w':World} {g:Nat} {f:Int} (h:Mk w g f) (hk:Kn No w w') (hg:No g):Mk w' g f:=by
 have hl:=h.lt
 obtain⟨ty,h⟩:=h.blk
 exact⟨ty,(hk.block g hg hl).trans h⟩
theorem Mk.blw {w w':World} {g:Nat} {f:Int} (h:Mk w g f) (hb:Below w.heap.size w w'):Mk w' g f:=h.kn (Kn.of_below (No:=fun _=>True) hb) trivial
theorem Mk.set {w:World} {g:Nat} {f:Int} (h:Mk w g f) (e:Int):Mk (w.setCell ⟨g,0,none⟩ (.int .i64 e)) g e:=by
 obtain⟨ty,h⟩:=h.blk
 exact⟨ty,set_blk h _⟩
theorem Kn.new {No:Nat→Prop} {x:Nat} {w0 w w':World} (h:Kn No w0 w) (hk:Kn (fun q=>q≠x) w w') (hx:w0.heap.size≤x):Kn No w0 w' :=
 ⟨hk.os.trans h.os,hk.tape.trans h.tape,hk.output.trans h.output,Nat.le_trans h.size hk.size,fun i hi hb=>(hk.block i (by omega) (Nat.lt_of_lt_of_le hb h.size)).trans (h.block i hi hb)⟩
theorem Kn.blw {No:Nat→Prop} {w0 w w':World} (h:Kn No w0 w) (hb:Below w.heap.size w w'):Kn No w0 w':=h.trans (Kn.of_below hb)
def Bt (g lo hi:Nat):Nat→Prop:=fun q=>q≠g∧lo≤q∧q<hi
theorem ClRow.lt' {ok ok':Nat→Prop} {w:World} {l:List C} {v:Value} (h:ClRow ok w l v) (hq:∀ q,ok q→q<w.heap.size→ok' q):ClRow ok' w l v:=by
 obtain⟨a,cap,h1,h2,h3⟩:=h
 refine⟨a,cap,h1,h2,fun j x hx=>?_⟩
 obtain⟨g,off,a1,a2,a3,a4⟩:=h3 j x hx
 exact⟨g,off,a1,hq g a2 a3,a3,a4⟩
theorem KdT.lt' {ok ok':Nat→Prop} {w:World} {P:Tm→Value→Prop} {l:List Tm} {v:Value} (h:KdT ok w P l v) (hq:∀ q,ok q→q<w.heap.size→ok' q):KdT ok' w P l v:=by
 obtain⟨a,cap,h1,h2,h3⟩:=h
 refine⟨a,cap,h1,h2,fun j x hx=>?_⟩
 obtain⟨g,off,u0,u1,u2,u3,u4,u5,a1,a2,a3,a4⟩:=h3 j x hx
 exact⟨g,off,u0,u1,u2,u3,u4,u5,a1,hq g a2 a3,a3,a4⟩
theorem SyT.lt' {ok ok':Nat→Prop} {w:World} {P:Tm→Value→Prop} {l:List (List C × List Tm)} {v:Value} (h:SyT ok w P l v) (hq:∀ q,ok q→q<w.heap.size→ok' q):SyT ok' w P l v:=by
 obtain⟨a,cap,h1,h2,h3⟩:=h
 refine⟨a,cap,h1,h2,fun j x hx=>?_⟩
 obtain⟨g,off,vf,vk,a1,a2,a3,a4,a5,a6⟩:=h3 j x hx
 exact⟨g,off,vf,vk,a1,hq g a2 a3,a3,a4.lt' hq,a5.lt' hq,a6⟩
theorem TmIn.lt' {ok ok':Nat→Prop} {w:World} {t:Tm} {v:Value} (h:TmIn ok w t v) (hq:∀ q,ok q→q<w.heap.size→ok' q):TmIn ok' w t v :=
 h (TmIn ok' w) fun k n nm r kids sys vr vk vs hk hn h1 h2 h3=>.mk k n nm r kids sys vr vk vs hk hn (h1.lt' hq) (h2.lt' hq) (h3.lt' hq)
theorem TmIn.bt {g lo:Nat} {w:World} {t:Tm} {v:Value} (h:TmIn (OkN lo w) w t v) (hg:g<lo):TmIn (Bt g lo w.heap.size) w t v:=h.lt' fun q hq hs=>⟨by have:=hq.1;omega,hq.1,hs⟩
theorem ClRow.bt {g lo:Nat} {w:World} {l:List C} {v:Value} (h:ClRow (OkN lo w) w l v) (hg:g<lo):ClRow (Bt g lo w.heap.size) w l v:=h.lt' fun q hq hs=>⟨by have:=hq.1;omega,hq.1,hs⟩
theorem TmIn.tt {ok:Nat→Prop} {w:World} {t:Tm} {v:Value} (h:TmIn ok w t v):TmIn Tt w t v:=h.up fun _ _=>trivial
theorem ClRow.kn {ok No:Nat→Prop} {w w':World} {l:List C} {v:Value} (h:ClRow ok w l v) (hk:Kn No w w') (ho:∀ g,ok g→No g):ClRow ok w' l v:=h.keep hk.size (fun _ h=>h) (fun g h1 h2=>hk.block g (ho g h1) h2)
theorem ClRow.tt {ok:Nat→Prop} {w:World} {l:List C} {v:Value} (h:ClRow ok w l v):ClRow Tt w l v:=h.lt' fun _ _ _=>trivial
end Go.Proofs.YtblbhmnahoiecaaGreat
