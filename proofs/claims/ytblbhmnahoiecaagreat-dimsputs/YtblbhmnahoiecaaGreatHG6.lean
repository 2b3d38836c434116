/- A part of the proof. -/
import Derived.Laws.EntriesVeiled
import Derived.Deep.Cut
import Derived.Test.YtblbhmnahoiecaaGreatHG5
import Derived.Test.YtblbhmnahoiecaaGreatHYZ0
set_option linter.unusedVariables false
set_option linter.unusedSimpArgs false
set_option maxRecDepth 100000
set_option maxHeartbeats 4000000
namespace Go.Proofs.YtblbhmnahoiecaaGreat
open Go.RowKit
def OkN (base:Nat) (w:World) (q:Nat):Prop:=base<=q/\∃ cs ty,w.heap[q]? = some (.cells cs ty (0,0))
theorem OkN.blw {base:Nat} {w w':World} {q:Nat} (h:OkN base w q) (hb:Below w.heap.size w w'):OkN base w' q:=by
 obtain⟨h1,cs,ty,h2⟩:=h
 exact⟨h1,cs,ty,(hb.block q (Array.getElem?_eq_some_iff.1 h2).1).trans h2⟩
theorem OkN.mono {base base':Nat} {w:World} {q:Nat} (h:OkN base w q) (hb:base'<=base):OkN base' w q:=⟨Nat.le_trans hb h.1,h.2⟩
theorem OwnsC.okn {w:World} {base:Nat} {v:Value} {l:List C} (h:OwnsC w base v l):ClRow (OkN base w) w l v:=by
 rcases h.2 with ⟨rfl,hz⟩|⟨g,cap,cur,rfl,hb,hh,hn,_⟩
 ·obtain rfl:l=[]:=List.length_eq_zero_iff.1 hz
  exact cl_nil _ _
 ·rcases h.form with ⟨e,_⟩|⟨g',cap',e,_,hg,hc⟩
  ·cases e
  ·cases e
   exact⟨_,_,rfl,hn,fun j c hj=>⟨g,0,rfl,⟨hb,cur,_,hh⟩,hg,hc j c hj⟩⟩
theorem ClRow.okn {base:Nat} {w w':World} {l:List C} {v:Value} (h:ClRow (OkN base w) w l v) (hb:Below w.heap.size w w'):ClRow (OkN base w') w' l v:=h.keep hb.size (fun _ hq=>hq.blw hb) (fun g _ hg=>hb.block g hg)
theorem KdT.okn {base:Nat} {w w':World} {l:List Tm} {v:Value} (h:KdT (OkN base w) w (TmIn (OkN base w) w) l v) (hb:Below w.heap.size w w'):KdT (OkN base w') w' (TmIn (OkN base w') w') l v:=h.all hb.size (fun _ hq=>hq.blw hb) (fun g _ hg=>hb.block g hg)
theorem SyT.okn {base:Nat} {w w':World} {l:List (List C × List Tm)} {v:Value} (h:SyT (OkN base w) w (TmIn (OkN base w) w) l v) (hb:Below w.heap.size w w'):SyT (OkN base w') w' (TmIn (OkN base w') w') l v:=h.all hb.size (fun _ hq=>hq.blw hb) (fun g _ hg=>hb.block g hg)
def BlkC (w:World) (G:Nat) (ty:TypeId) (m:Nat):Prop:=∃ cs,w.heap[G]? = some (.cells cs ty (0,0))/\cs.size=m
theorem BlkC.lt {w:World} {G:Nat} {ty:TypeId} {m:Nat} (h:BlkC w G ty m):G<w.heap.size:=by obtain⟨cs,h,_⟩:=h;exact (Array.getElem?_eq_some_iff.1 h).1
theorem BlkC.cell {w:World} {G:Nat} {ty:TypeId} {m:Nat} (h:BlkC w G ty m) (i:Nat) (hi:i<m):∃ x,w.cell? ⟨G,i,none⟩=some x:=by
 obtain⟨cs,h,hs⟩:=h
 exact⟨cs[i]'(by omega),by unfold World.cell?; simp [h]⟩
theorem BlkC.soft {w:World} {G:Nat} {ty:TypeId} {m:Nat} (h:BlkC w G ty m) (i:Nat):w.frozen? ⟨G,i,none⟩=false:=by
 obtain⟨cs,h,hs⟩:=h
 unfold World.frozen?; simp [h]
theorem BlkC.set {w:World} {G:Nat} {ty:TypeId} {m:Nat} (h:BlkC w G ty m) (i:Nat) (u:Value):BlkC (w.setCell ⟨G,i,none⟩ u) G ty m:=by
 obtain⟨cs,h,hs⟩:=h
 obtain⟨hlt,hk⟩:=Array.getElem?_eq_some_iff.1 h
 refine⟨cs.setIfInBounds i u,?_,by simpa using hs⟩
 show (w.heap.modify G _)[G]? = _
 rw [Array.getElem?_eq_getElem (by rw [Array.size_modify];exact hlt),Array.getElem_modify_self,hk]
 rfl
theorem BlkC.kn {No:Nat->Prop} {w w':World} {G:Nat} {ty:TypeId} {m:Nat} (h:BlkC w G ty m) (hk:Kn No w w') (hG:No G):BlkC w' G ty m:=by
 have:=h.lt
 obtain⟨cs,h,hs⟩:=h
 exact⟨cs,(hk.block G hG this).trans h,hs⟩
theorem BlkC.okn {w:World} {G base:Nat} {ty:TypeId} {m:Nat} (h:BlkC w G ty m) (hb:base<=G):OkN base w G:=by
 obtain⟨cs,h,_⟩:=h
 exact⟨hb,cs,ty,h⟩
theorem infoT:(Tryz.prog.info? 26).map (fun i=>(i.zero,i.size,i.bytes))=some (some (.agg #[.int .i64 0,.int .i64 0,.string ByteArray.empty,.slice none 0 0,.slice none 0 0,.slice none 0 0]),6,104):=by kernel_rfl
theorem infoB:(Tryz.prog.info? 40).map (fun i=>(i.zero,i.size,i.bytes))=some (some (.agg #[.slice none 0 0,.slice none 0 0]),2,48):=by kernel_rfl
theorem makeT (n:Nat) (w:World) (hn:n<=1000000):∃ W,(Instr.makeSlice 23 (.int .i64 (n:Int)) (.int .i64 (n:Int))).run Tryz.prog w=.ok (.slice (some ⟨w.heap.size,0,none⟩) n n) W/\BlkC W w.heap.size 26 (n*6)/\Below w.heap.size w W/\W.heap.size=w.heap.size+1:=by
 obtain⟨i0,hi,hz0,hz1,hz2⟩:=info_parts infoT
 have hr:=run_make (P:=Tryz.prog) w 23 26 i0 _ Tryz.underlying23 hi hz0 .i64 .i64 n n (by omega) (Int.le_refl _) (by rw [hz2];omega) (by omega)
 simp only [Int.toNat_natCast] at hr
 exact⟨_,hr,⟨_,heapNew w _,by rw [size_madeCells,hz1]⟩,belowA _ _,by simp⟩
theorem makeB (n:Nat) (w:World) (hn:n<=1000000):∃ W,(Instr.makeSlice 24 (.int .i64 (n:Int)) (.int .i64 (n:Int))).run Tryz.prog w=.ok (.slice (some ⟨w.heap.size,0,none⟩) n n) W/\BlkC W w.heap.size 40 (n*2)/\Below w.heap.size w W/\W.heap.size=w.heap.size+1:=by
 obtain⟨i0,hi,hz0,hz1,hz2⟩:=info_parts infoB
 have hr:=run_make (P:=Tryz.prog) w 24 40 i0 _ Tryz.underlying24 hi hz0 .i64 .i64 n n (by omega) (Int.le_refl _) (by rw [hz2];omega) (by omega)
 simp only [Int.toNat_natCast] at hr
 exact⟨_,hr,⟨_,heapNew w _,by rw [size_madeCells,hz1]⟩,belowA _ _,by simp⟩
def CpC (N:Nat):Prop:=∀ (t:Tm) (v:Value) (w:World),TmIn Tt w t v->blk t<=N->Calls Tryz.prog 98 #[v] w fun e w'=>∃ v',e=.returned v'/\TmIn (OkN w.heap.size w') w' t v'/\Below w.heap.size w w'
def PutT (w:World) (G:Nat) (l:List Tm) (k:Nat):Prop:=∀ (j:Nat) (x:Tm),j<k->l[j]? = some x->∃ u0 u1 u2 u3 u4 u5,TmIn (OkN (G+1) w) w x (.agg #[u0,u1,u2,u3,u4,u5]) /\
 w.cell? ⟨G,j*6,none⟩=some u0/\w.cell? ⟨G,j*6+1,none⟩=some u1/\w.cell? ⟨G,j*6+2,none⟩=some u2/\w.cell? ⟨G,j*6+3,none⟩=some u3/\w.cell? ⟨G,j*6+4,none⟩=some u4/\w.cell? ⟨G,j*6+5,none⟩=some u5
theorem PutT.row {w:World} {G:Nat} {l:List Tm} (h:PutT w G l l.length) (hb:BlkC w G 26 (l.length*6)) (base:Nat) (hG:base<=G):KdT (OkN base w) w (TmIn (OkN base w) w) l (.slice (some ⟨G,0,none⟩) l.length l.length):=by
 refine⟨_,_,rfl,Nat.le_refl _,fun j x hx=>?_⟩
 obtain⟨u0,u1,u2,u3,u4,u5,h1,c⟩:=h j x (some_lt hx) hx
 exact⟨G,0,u0,u1,u2,u3,u4,u5,rfl,hb.okn hG,hb.lt,h1.up fun q hq=>hq.mono (by omega),by simpa using c⟩
theorem copy_eg:∀ args w,(callFunc 98 args).run Tryz.prog w=.ok (.enter 98 args) w:=enters_of Tryz.func98 (by kernel_rfl) rfl
theorem PutT.kn {w w':World} {G:Nat} {l:List Tm} {k:Nat} (h:PutT w G l k) (hb:Below w.heap.size w w') (hG:G<w.heap.size):PutT w' G l k:=fun j x hj hx=>by
 obtain⟨u0,u1,u2,u3,u4,u5,h1,c0,c1,c2,c3,c4,c5⟩:=h j x hj hx
 have c:=fun i=>hb.cell (p:=⟨G,i,none⟩) hG
 exact⟨u0,u1,u2,u3,u4,u5,h1.keep hb.size (fun _ hq=>hq.blw hb) (fun g _ hg=>hb.block g hg),(c _).trans c0,(c _).trans c1,(c _).trans c2,(c _).trans c3,(c _).trans c4,(c _).trans c5⟩
def set6 (w:World) (G k:Nat) (u0 u1 u2 u3 u4 u5:Value):World:=(((((w.setCell ⟨G,k*6,none⟩ u0).setCell ⟨G,k*6+1,none⟩ u1).setCell ⟨G,k*6+2,none⟩ u2).setCell ⟨G,k*6+3,none⟩ u3).setCell ⟨G,k*6+4,none⟩ u4).setCell ⟨G,k*6+5,none⟩ u5
theorem BlkC.get {w:World} {G:Nat} {ty:TypeId} {m:Nat} (h:BlkC w G ty m) {i:Nat} (hi:i<m) (u:Value) (j:Nat):(w.setCell ⟨G,i,none⟩ u).cell? ⟨G,j,none⟩=if j=i then some u else w.cell? ⟨G,j,none⟩:=by
 by_cases e:j=i
 ·subst e
  rw [if_pos rfl]
  obtain⟨x,hx⟩:=h.cell j hi
  exact World.cell?_setCell_same' _ _ _ (by rw [hx];rfl)
 ·rw [if_neg e]
  exact World.cell?_setCell_other _ _ _ _ (by simp [e])
theorem set6_all {w:World} {G k m:Nat} {ty:TypeId} (h:BlkC w G ty m) (hk:k*6+5<m) (u0 u1 u2 u3 u4 u5:Value):BlkC (set6 w G k u0 u1 u2 u3 u4 u5) G ty m/\Kn (fun q=>q≠G) w (set6 w G k u0 u1 u2 u3 u4 u5) /\
  (∀ j,(set6 w G k u0 u1 u2 u3 u4 u5).cell? ⟨G,j,none⟩=if j=k*6+5 then some u5 else if j=k*6+4 then some u4 else if j=k*6+3 then some u3 else if j=k*6+2 then some u2 else if j=k*6+1 then some u1 else if j=k*6 then some u0 else w.cell? ⟨G,j,none⟩):=by
 have h0:=h.set (k*6) u0
 have h1:=h0.set (k*6+1) u1
 have h2:=h1.set (k*6+2) u2
 have h3:=h2.set (k*6+3) u3
 have h4:=h3.set (k*6+4) u4
 have h5:=h4.set (k*6+5) u5
 refine⟨h5,?_,fun j=>?_⟩
 ·have n:∀ i,¬ (fun q=>q≠G) (Addr.mk G i none).block\/w.heap.size<=(Addr.mk G i none).block:=fun i=>.inl fun h=>h rfl
  exact ((((((Kn.refl _ w).setCell (n _) _).setCell (n _) _).setCell (n _) _).setCell (n _) _).setCell (n _) _).setCell (n _) _
 ·unfold set6
  rw [h4.get (by omega),h3.get (by omega),h2.get (by omega),h1.get (by omega),h0.get (by omega),h.get (by omega)]
theorem PutT.put {w:World} {G k m:Nat} {l:List Tm} {x:Tm} (hP:PutT w G l k) (hB:BlkC w G 26 m) (hx:l[k]? = some x) (hk:k*6+5<m) (u0 u1 u2 u3 u4 u5:Value) (hv:TmIn (OkN (G+1) w) w x (.agg #[u0,u1,u2,u3,u4,u5])) :
  PutT (set6 w G k u0 u1 u2 u3 u4 u5) G l (k+1)/\BlkC (set6 w G k u0 u1 u2 u3 u4 u5) G 26 m/\Kn (fun q=>q≠G) w (set6 w G k u0 u1 u2 u3 u4 u5):=by
 obtain⟨b1,b2,b3⟩:=set6_all hB hk u0 u1 u2 u3 u4 u5
 have up:∀ y v,TmIn (OkN (G+1) w) w y v->TmIn (OkN (G+1) (set6 w G k u0 u1 u2 u3 u4 u5)) (set6 w G k u0 u1 u2 u3 u4 u5) y v:=fun y v h=>h.keep b2.size (fun q hq=>by
  obtain⟨h1,cs,ty,h2⟩:=hq
  exact⟨h1,cs,ty,(b2.block q (by omega) (Array.getElem?_eq_some_iff.1 h2).1).trans h2⟩) (fun g hg hs=>b2.block g (by have:=hg.1;omega) hs)
 refine⟨fun j y hj hy=>?_,b1,b2⟩
 rcases Nat.lt_or_ge j k with hjk|hjk
 ·obtain⟨a0,a1,a2,a3,a4,a5,h1,c0,c1,c2,c3,c4,c5⟩:=hP j y hjk hy
  refine⟨a0,a1,a2,a3,a4,a5,up _ _ h1,?_,?_,?_,?_,?_,?_⟩
  all_goals
   rw [b3,if_neg (by omega),if_neg (by omega),if_neg (by omega),if_neg (by omega),if_neg (by omega),if_neg (by omega)]
   assumption
 ·obtain rfl:j=k:=by omega
  rw [hx] at hy
  cases hy
  refine⟨u0,u1,u2,u3,u4,u5,up _ _ hv,?_,?_,?_,?_,?_,?_⟩
  ·rw [b3,if_neg (by omega),if_neg (by omega),if_neg (by omega),if_neg (by omega),if_neg (by omega),if_pos rfl]
  ·rw [b3,if_neg (by omega),if_neg (by omega),if_neg (by omega),if_neg (by omega),if_pos rfl]
  ·rw [b3,if_neg (by omega),if_neg (by omega),if_neg (by omega),if_pos rfl]
  ·rw [b3,if_neg (by omega),if_neg (by omega),if_pos rfl]
  ·rw [b3,if_neg (by omega),if_pos rfl]
  ·rw [b3,if_pos rfl]
def BcC (N:Nat):Prop:=∀ (l:List Tm) (v:Value) (w:World),KdT Tt w (TmIn Tt w) l v->blkL l<=N->Calls Tryz.prog 146 #[v,.func (.func 98) #[] #[]] w fun e w'=>∃ v',e=.returned v'/\KdT (OkN w.heap.size w') w' (TmIn (OkN w.heap.size w') w') l v'/\Below w.heap.size w w'
theorem become_step (N:Nat) (hN:N<=100000) (IH:CpC N):BcC N:=by
 intro l v w hl hb
 obtain⟨a,cap,rfl,_⟩:=id hl
 have eg:=copy_eg
 have hll:=blkL_len l
 by_cases hz:l=[]
 ·subst hz
  go_enter Tryz.func146,Tryz.ntmps146
  go_wp2
  go_ret
  exact⟨_,rfl,kt_nil _ _ _,Below.refl _ _⟩
 ·have hpos:0<l.length:=List.length_pos_iff.2 hz
  obtain⟨L,hL⟩:∃ L,L=l.length:=⟨_,rfl⟩
  have HL:Hid (L=l.length):=hL
  have Hl:Hid (KdT Tt w (TmIn Tt w) l (.slice a L cap)):=by rw [hL];exact hl
  rw [<- hL] at hpos hll ⊢
  have q0:((L:Int) == 0)=false:=by simp;omega
  obtain⟨W,hmk,hBlk,hbW,sW⟩:=makeT L w (by omega)
  have hLm:L<=100000:=by omega
  clear hL hl hz hll
  go_enter Tryz.func146,Tryz.ntmps146
  go_wp2
  go_loopw [16] (fun i wr=>∃ k:Nat,k<=L/\i=.int .i64 k/\PutT wr w.heap.size l k/\BlkC wr w.heap.size 26 (L*6)/\Below w.heap.size w wr) (fun i _=>L - (intOf i).toNat)
  case atStart=>exact⟨0,Nat.zero_le _,rfl,fun j x hj=>by omega,hBlk,hbW⟩
  case round =>
   obtain⟨k,hk,rfl,hP,hBk,hB⟩:=hrel
   by_cases hlt:k<L
   ·obtain⟨x,hx⟩:=someL (l:=l) (k:=k) (by rw [<- HL.out];exact hlt)
    obtain⟨g1,o1,ra,rc,ka,kc,sa,sc,rfl,_,h6,ht⟩:=(Hl.out.blw hB).at hx
    obtain⟨_,y0,y1,y2,y3,y4,y5⟩:=h6
    have hbx:blk x<=N:=Nat.le_trans (sumN_mem (List.mem_map_of_mem (f:=blk) (List.mem_of_getElem? hx))) hb
    obtain⟨w1,hw1⟩:∃ w1,w1=wr.alloc (.cells #[.int .i64 x.kind,.int .i64 x.n,.string x.name,.slice ra x.r.length rc,.slice ka x.kids.length kc,.slice sa x.sys.length sc] 26):=⟨_,rfl⟩
    have b1:Below wr.heap.size wr w1:=by rw [hw1];exact belowA _ _
    have cc:=IH x _ w1 (ht.blw b1).value hbx
    obtain⟨_,z0,z1,z2,z3,z4,z5⟩:Cs6 w1 wr.heap.size 0 x ra rc ka kc sa sc:=by rw [hw1];exact cs6_new wr x ra rc ka kc sa sc
    simp only [Nat.zero_add] at z1 z2 z3 z4 z5
    have H1:Hid (_=_):=hw1
    have hBk1:=hBk.kn (No:=fun _=>True) (Kn.of_below b1) trivial
    have hP1:=hP.kn b1 hBk.lt
    have hGlt:=hBk.lt
    have s1:wr.heap.size<w1.heap.size:=by rw [hw1];simp
    have hB1:=bchain hB b1
    clear hw1 hP hBk ht b1 hbx
    go_upto_region 7 with fail
    rw [<- H1.out]
    clear H1
    go_wp2_with fail
    refine cc.mono ?_
    rintro e w2 ⟨v2,rfl,hv2,hb2⟩
    clear cc y0 y1 y2 y3 y4 y5 z0 z1 z2 z3 z4 z5
    obtain⟨ra2,rc2,ka2,kc2,sa2,sc2,rfl,ht2⟩:=hv2.form
    have hBk2:=hBk1.kn (No:=fun _=>True) (Kn.of_below hb2) trivial
    have hP2:=hP1.kn hb2 hBk1.lt
    have hB2:=bchain hB1 hb2
    obtain⟨o0,e0⟩:=hBk2.cell (k*6) (by omega)
    obtain⟨o1,e1⟩:=hBk2.cell (k*6+1) (by omega)
    obtain⟨o2,e2⟩:=hBk2.cell (k*6+2) (by omega)
    obtain⟨o3,e3⟩:=hBk2.cell (k*6+3) (by omega)
    obtain⟨o4,e4⟩:=hBk2.cell (k*6+4) (by omega)
    obtain⟨o5,e5⟩:=hBk2.cell (k*6+5) (by omega)
    have f0:=hBk2.soft (k*6)
    have f1:=hBk2.soft (k*6+1)
    have f2:=hBk2.soft (k*6+2)
    have f3:=hBk2.soft (k*6+3)
    have f4:=hBk2.soft (k*6+4)
    have f5:=hBk2.soft (k*6+5)
    have hfin:=hP2.put hBk2 hx (by omega) _ _ _ _ _ _ (ht2.value.up fun q hq=>hq.mono (by omega))
    unfold set6 at hfin
    have HF:Hid (_/\_/\_):=hfin
    clear hfin
    go_wp2_with fail
    obtain⟨q1,q2,q3⟩:=HF.out
    refine⟨⟨k+1,by omega,by go_num,q1,q2,?_⟩,by simp [intOf];omega⟩
    exact hB2.trans (q3.below (fun q hq=>by omega) hB2.size)
   ·obtain rfl:k=L:=by omega
    have hr:=PutT.row (base:=w.heap.size) (l:=l) (G:=w.heap.size) (by rw [<- HL.out];exact hP) (by rw [<- HL.out];exact hBk) (Nat.le_refl _)
    rw [<- HL.out] at hr
    clear hP hBk
    go_wp2
    go_ret
    exact⟨_,rfl,hr,hB⟩
structure StepP (P:Program) (ops:Array Oper) (Q:Exit->Act->World->Prop) (o:Oper) (a:Act) (w:World) (K:Act->World->Prop):Prop where
 out:if Region.wanted o (yielded ops a.tmps)=true then Oper.wp P o a w K Q else K (a.put o.dst undef) w
theorem ready_cons {P:Program} {md:Region.Mode} {ops:Array Oper} {Q:Exit->Act->World->Prop} {S:World->Prop} {fuel:Nat} {listed:Array Bool} {a:Act} {w:World} {i:Nat} {o:Oper} {rs:List Nat} (ho:ops[i]? = some o)
  (h:∀ K':Act->World->Prop,Shut (∀ a w,S w->(S w->wpAnyH P md ops Q S fuel (listed.setIfInBounds i true) a w)->K' a w)->StepP P ops Q o a w K')
  (hs:AllReadyH P md ops Q S fuel listed a w rs):AllReadyH P md ops Q S fuel listed a w (i :: rs):=AllReadyH.cons ho (fun K' hK=>(h K' hK).out) hs
def BrS (s:Nat) (vf vk:Value) (w:World):Prop:=w.cell? ⟨s,0,none⟩=some vf/\w.cell? ⟨s,1,none⟩=some vk
def CbC (N:Nat):Prop:=∀ (b:List C × List Tm) (fa:Option Addr) (n1 fc:Nat) (ka:Option Addr) (n2 kc:Nat) (w:World),ClRow Tt w b.1 (.slice fa n1 fc)->KdT Tt w (TmIn Tt w) b.2 (.slice ka n2 kc)->b.1.length<=N->blkL b.2<=N ->
 Calls Tryz.prog 148 #[.agg #[.slice fa n1 fc,.slice ka n2 kc]] w fun e w'=>∃ fa' fc' ka' kc',e=.returned (.agg #[.slice fa' b.1.length fc',.slice ka' b.2.length kc'])/\ClRow (OkN w.heap.size w') w' b.1 (.slice fa' b.1.length fc')/\KdT (OkN w.heap.size w') w' (TmIn (OkN w.heap.size w') w') b.2 (.slice ka' b.2.length kc')/\Below w.heap.size w w'
theorem copyBranch_step (N:Nat) (hN:N<=100000) (IH:BcC N):CbC N:=by
 intro b fa n1 fc ka n2 kc w h1 h2 hb hb'
 have eg:=copy_eg
 obtain⟨w2,hw2⟩:∃ w2,w2=(w.alloc (.cells #[.slice fa n1 fc,.slice ka n2 kc] 40)).alloc (.cells #[.slice none 0 0,.slice none 0 0] 40):=⟨_,rfl⟩
 have hb2:Below w.heap.size w w2:=by rw [hw2];exact bchain (belowA _ _) (belowA _ _)
 have m1:w2.heap[w.heap.size]? = some (.cells #[.slice fa n1 fc,.slice ka n2 kc] 40 (0,0)):=by
  rw [hw2];exact (Below.heap_alloc _ _ _ (by simp)).trans (heapNew w _)
 have m2:BlkC w2 (w.heap.size+1) 40 2:=⟨#[.slice none 0 0,.slice none 0 0],by
  rw [hw2];have:=heapNew (w.alloc (.cells #[.slice fa n1 fc,.slice ka n2 kc] 40)) (.cells #[.slice none 0 0,.slice none 0 0] 40);rwa [World.size_alloc] at this,rfl⟩
 have s2:w2.heap.size=w.heap.size+2:=by rw [hw2];simp
 have hS0:BrS w.heap.size (.slice fa n1 fc) (.slice ka n2 kc) w2:=by
  refine⟨?_,?_⟩ <;> (unfold World.cell?; simp [m1])
 have HS:Hid (∀ w',Below w2.heap.size w2 w'->BrS w.heap.size (.slice fa n1 fc) (.slice ka n2 kc) w'):=fun w' q=>⟨(q.cell (p:=⟨w.heap.size,0,none⟩) (by show w.heap.size<_;omega)).trans hS0.1,(q.cell (p:=⟨w.heap.size,1,none⟩) (by show w.heap.size<_;omega)).trans hS0.2⟩
 have H2:Hid (_=_):=hw2
 have c1:=clone_any b.1 _ w2.drew ((h1.blw hb2).keep (Nat.le_refl _) (fun _ h=>h) (fun _ _ _=>rfl)) (by omega)
 have Hk:Hid (∀ w',Below w2.heap.size w2 w'->Calls Tryz.prog 146 #[.slice ka n2 kc,.func (.func 98) #[] #[]] w' fun e w''=>∃ v',e=.returned v'/\KdT (OkN w'.heap.size w'') w'' (TmIn (OkN w'.heap.size w'') w'') b.2 v'/\Below w'.heap.size w' w''):=fun w' q=>IH b.2 _ w' (h2.blw (bchain hb2 q)) hb'
 obtain⟨s,hs⟩:∃ s,s=w.heap.size:=⟨_,rfl⟩
 clear hw2 m1 h1 h2
 go_enter Tryz.func148,Tryz.ntmps148
 go_upto_region 1 with fail
 rw [<- H2.out]
 clear H2
 refine wp_region_held_drew (S:=BrS w.heap.size (.slice fa n1 fc) (.slice ka n2 kc)) (by kernel_rfl) hS0 (fun hS=>?_)
 refine zk 0 (.pointer (some ⟨w.heap.size,0,none⟩)) rfl (by rfl) (fun w hS=>by go_simp) hS ?_
 simp only [Act.put,zg1,zg2,zg3,zs1,zs2,zs3]
 refine zk 1 (.slice fa n1 fc) rfl (by rfl) (fun w hS=>by have e:=hS.1;go_simp) hS ?_
 simp only [Act.put,zg1,zg2,zg3,zs1,zs2,zs3]
 refine zk 3 (.pointer (some ⟨w.heap.size,1,none⟩)) rfl (by rfl) (fun w hS=>by go_simp) hS ?_
 simp only [Act.put,zg1,zg2,zg3,zs1,zs2,zs3]
 refine zk 4 (.slice ka n2 kc) rfl (by rfl) (fun w hS=>by have e:=hS.2;go_simp) hS ?_
 simp only [Act.put,zg1,zg2,zg3,zs1,zs2,zs3]
 refine wpAnyH_ready (rs:=[2]) (by kernel_rfl) (by simp) ?_
 refine ready_cons rfl (fun KK hKK=>?_) AllReadyH.nil
 refine⟨?_⟩
 go_simp
 refine c1.mono ?_
 rintro e w3 ⟨v3,rfl,hO3,hb3⟩
 have q3:Below w2.heap.size w2 w3:=((Below.refl _ _).drew).trans hb3
 obtain⟨pa,ca,rfl⟩:=OwnsC.len hO3
 have cB:=Hk.out w3 q3
 refine hKK.out _ _ (HS.out w3 q3) (fun hS3=>?_)
 clear c1 hKK KK
 try simp only [Act.put,zg1,zg2,zg3,zs1,zs2,zs3]
 refine wpAnyH_ready (rs:=[5]) (by kernel_rfl) (by simp) ?_
 refine ready_cons rfl (fun KK hKK=>?_) AllReadyH.nil
 refine⟨?_⟩
 go_simp
 refine cB.mono ?_
 rintro e w4 ⟨v4,rfl,hK4,hb4⟩
 have q4:=bchain q3 hb4
 obtain⟨ka4,kc4,rfl,_⟩:=id hK4
 refine hKK.out _ _ (HS.out w4 q4) (fun hS4=>?_)
 clear cB hKK KK
 try simp only [Act.put,zg1,zg2,zg3,zs1,zs2,zs3]
 have m4:=m2.kn (No:=fun _=>True) (Kn.of_below q4) trivial
 obtain⟨o0,e0⟩:=m4.cell 0 (by omega)
 obtain⟨o1,e1⟩:=m4.cell 1 (by omega)
 have f0:=m4.soft 0
 have f1:=m4.soft 1
 obtain⟨z1,hz1⟩:∃ z,z=b.1.length:=⟨_,rfl⟩
 obtain⟨z2,hz2⟩:∃ z,z=b.2.length:=⟨_,rfl⟩
 have hcl:=(OwnsC.okn hO3).okn hb4
 obtain⟨w5,hw5⟩:∃ w5,w5=(w4.setCell ⟨w.heap.size+1,0,none⟩ (.slice pa b.1.length ca)).setCell ⟨w.heap.size+1,1,none⟩ (.slice ka4 b.2.length kc4):=⟨_,rfl⟩
 have k5:Kn (fun q=>q≠w.heap.size+1) w4 w5:=by
  rw [hw5]
  exact ((Kn.refl _ _).setCell (p:=⟨w.heap.size+1,0,none⟩) (.inl fun h=>h rfl) _).setCell (p:=⟨w.heap.size+1,1,none⟩) (.inl fun h=>h rfl) _
 have hS5:BrS w.heap.size (.slice fa n1 fc) (.slice ka n2 kc) w5:=⟨(k5.cell (p:=⟨w.heap.size,0,none⟩) (by show w.heap.size≠_;omega) (by show w.heap.size<_;have:=q4.size;omega)).trans hS4.1,(k5.cell (p:=⟨w.heap.size,1,none⟩) (by show w.heap.size≠_;omega) (by show w.heap.size<_;have:=q4.size;omega)).trans hS4.2⟩
 have m40:=m4.set 0 (.slice pa b.1.length ca)
 have g0:w5.cell? ⟨w.heap.size+1,0,none⟩=some (.slice pa b.1.length ca):=by rw [hw5,m40.get (by omega),if_neg (by omega),m4.get (by omega),if_pos rfl]
 have g1:w5.cell? ⟨w.heap.size+1,1,none⟩=some (.slice ka4 b.2.length kc4):=by rw [hw5,m40.get (by omega),if_pos rfl]
 have hsz3:w2.heap.size<=w3.heap.size:=q3.size
 have HR:Hid (ClRow (OkN w.heap.size w5) w5 b.1 (.slice pa b.1.length ca)/\KdT (OkN w.heap.size w5) w5 (TmIn (OkN w.heap.size w5) w5) b.2 (.slice ka4 b.2.length kc4)/\Below w.heap.size w w5):=by
  have up:∀ q,OkN w2.heap.size w4 q->OkN w.heap.size w5 q:=fun q ⟨h1,cs,ty,h2⟩=>⟨by omega,cs,ty,(k5.block q (by omega) (Array.getElem?_eq_some_iff.1 h2).1).trans h2⟩
  refine⟨hcl.keep k5.size (fun q hq=>up q hq) (fun g hg hs=>k5.block g (by have:w2.heap.size<=g:=hg.1;omega) hs),hK4.all k5.size (fun q hq=>up q (hq.mono hsz3)) (fun g hg hs=>k5.block g (by have:w3.heap.size<=g:=hg.1;omega) hs),?_⟩
  exact (bchain hb2 q4).trans (k5.below (fun q hq=>by omega) (by have:=q4.size;omega))
 rw [<- hz1,<- hz2] at hw5 HR
 rw [<- hz1] at g0
 rw [<- hz2] at g1
 have Hz:Hid (z1=b.1.length/\z2=b.2.length):=⟨hz1,hz2⟩
 try simp only [<- hz1,<- hz2]
 have H5:Hid (_=_):=hw5
 clear hw5 hz1 hz2 hcl m40 hK4 hO3 hb3 hb4 k5 m4 m2 hS hS0 hS3
 refine wpAnyH_take (i:=6) (v:=.agg #[.slice pa z1 ca,.slice ka4 z2 kc4]) rfl (by kernel_rfl) (by kernel_rfl) (by kernel_rfl) (fun _ _ _ h=>h) (Or.inl ⟨by rfl,fun w hS=>by go_simp⟩) hS4 ?_
 try simp only [Act.put,zg1,zg2,zg3,zs1,zs2,zs3]
 refine wpAnyH_ready (rs:=[7]) (by kernel_rfl) (by simp) ?_
 refine ready_cons rfl (fun KK hKK=>?_) AllReadyH.nil
 refine⟨?_⟩
 go_simp
 rw [<- H5.out]
 refine hKK.out _ _ hS5 (fun hS6=>?_)
 clear hKK KK H5
 try simp only [Act.put,zg1,zg2,zg3,zs1,zs2,zs3]
 refine wpAnyH_done (by kernel_rfl) ?_ _
 clear e0 e1 f0 f1 hS4 hS5 hS6
 go_wp2
 obtain⟨a1,a2,a3⟩:=HR.out
 obtain⟨a4,a5⟩:=Hz.out
 rw [<- a4,<- a5]
 exact bodyPost_ret (v:=.agg #[.slice pa z1 ca,.slice ka4 z2 kc4]) (by simp only [results,Tryz.results148];simp [go_sem,g0,g1]) rfl ⟨pa,ca,ka4,kc4,rfl,a1,a2,a3⟩
abbrev V6:=Value × Value × Value × Value × Value × Value
def flat6:List V6->List Value
 | []=>[]
 | u :: l=>u.1 :: u.2.1 :: u.2.2.1 :: u.2.2.2.1 :: u.2.2.2.2.1 :: u.2.2.2.2.2 :: flat6 l
def agg6 (u:V6):Value:=.agg #[u.1,u.2.1,u.2.2.1,u.2.2.2.1,u.2.2.2.2.1,u.2.2.2.2.2]
theorem flat6_length:∀ l:List V6,(flat6 l).length=l.length*6
 | []=>rfl
 | u :: l=>by simp only [flat6,List.length_cons,flat6_length l];omega
theorem flat6_append:∀ l m:List V6,flat6 (l++m)=flat6 l++flat6 m
 | [],m=>rfl
 | u :: l,m=>by simp only [List.cons_append,flat6,flat6_append l m]
theorem flat6_get:∀ (l:List V6) (j:Nat) (u:V6),l[j]? = some u->(flat6 l)[j*6]? = some u.1/\(flat6 l)[j*6+1]? = some u.2.1/\(flat6 l)[j*6+2]? = some u.2.2.1/\(flat6 l)[j*6+3]? = some u.2.2.2.1/\(flat6 l)[j*6+4]? = some u.2.2.2.2.1/\(flat6 l)[j*6+5]? = some u.2.2.2.2.2
 | [],j,u,h=>by simp at h
 | x :: l,0,u,h=>by
  simp only [List.getElem?_cons_zero,Option.some.injEq] at h
  subst h
  simp [flat6]
 | x :: l,j+1,u,h=>by
  have h':=flat6_get l j u (by simpa using h)
  have e:∀ i,(j+1) * 6+i=(j*6+i) + 6:=fun i=>by omega
  have e0:(j+1) * 6=j*6+6:=by omega
  simp only [flat6,e,e0,List.getElem?_cons_succ]
  exact h'
def flat2:List (Value × Value)->List Value
 | []=>[]
 | u :: l=>u.1 :: u.2 :: flat2 l
theorem flat2_length:∀ l:List (Value × Value),(flat2 l).length=l.length*2
 | []=>rfl
 | u :: l=>by simp only [flat2,List.length_cons,flat2_length l];omega
theorem flat2_append:∀ l m:List (Value × Value),flat2 (l++m)=flat2 l++flat2 m
 | [],m=>rfl
 | u :: l,m=>by simp only [List.cons_append,flat2,flat2_append l m]
theorem flat2_get:∀ (l:List (Value × Value)) (j:Nat) (u:Value × Value),l[j]? = some u->(flat2 l)[j*2]? = some u.1/\(flat2 l)[j*2+1]? = some u.2
 | [],j,u,h=>by simp at h
 | x :: l,0,u,h=>by
  simp only [List.getElem?_cons_zero,Option.some.injEq] at h
  subst h
  simp [flat2]
 | x :: l,j+1,u,h=>by
  have h':=flat2_get l j u (by simpa using h)
  have e:∀ i,(j+1) * 2+i=(j*2+i) + 2:=fun i=>by omega
  have e0:(j+1) * 2=j*2+2:=by omega
  simp only [flat2,e,e0,List.getElem?_cons_succ]
  exact h'
def OkR (base:Nat) (No:Nat->Prop) (w:World) (v:Value) (q:Nat):Prop:=OkN base w q/\some q≠v.ownBlock/\No q
theorem OkN.lt {base:Nat} {w:World} {q:Nat} (h:OkN base w q):q<w.heap.size:=by obtain⟨_,cs,ty,h2⟩:=h;exact (Array.getElem?_eq_some_iff.1 h2).1
theorem OkN.same {base:Nat} {w w':World} {q:Nat} (h:OkN base w q) (hb:w'.heap[q]? = w.heap[q]?):OkN base w' q:=by obtain⟨h1,cs,ty,h2⟩:=h;exact⟨h1,cs,ty,hb.trans h2⟩
def KOwn (base:Nat) (No:Nat->Prop) (w:World) (v:Value) (l:List Tm):Prop :=
 ∃ us:List V6,us.length=l.length/\w.ownsRow base 26 6 v l.length (flat6 us)/\(∀ k,v.ownBlock=some k->No k)/\∀ (j:Nat) (x:Tm) (u:V6),l[j]? = some x->us[j]? = some u->TmIn (OkR base No w v) w x (agg6 u)
def BOwn (base:Nat) (No:Nat->Prop) (w:World) (v:Value) (l:List (List C × List Tm)):Prop :=
 ∃ us:List (Value × Value),us.length=l.length/\w.ownsRow base 40 2 v l.length (flat2 us)/\(∀ k,v.ownBlock=some k->No k)/\∀ (j:Nat) (x:List C × List Tm) (u:Value × Value),l[j]? = some x->us[j]? = some u->ClRow (OkR base No w v) w x.1 u.1/\KdT (OkR base No w v) w (TmIn (OkR base No w v) w) x.2 u.2
theorem KOwn.nil (base:Nat) (No:Nat->Prop) (w:World):KOwn base No w (.slice none 0 0) []:=⟨[],rfl,World.ownsRow_nil _ _ _ _,fun k h=>(by cases h),fun j x u h=>by simp at h⟩
theorem BOwn.nil (base:Nat) (No:Nat->Prop) (w:World):BOwn base No w (.slice none 0 0) []:=⟨[],rfl,World.ownsRow_nil _ _ _ _,fun k h=>(by cases h),fun j x u h=>by simp at h⟩
theorem owns_keep {w w':World} {base:Nat} {e:TypeId} {size:Nat} {v:Value} {n:Nat} {xs:List Value} (h:w.ownsRow base e size v n xs) (hb:∀ k,v.ownBlock=some k->w'.heap[k]? = w.heap[k]?):w'.ownsRow base e size v n xs:=by
 refine⟨h.1,?_⟩
 rcases h.2 with h|⟨g,cap,cur,rfl,h1,h2,h3⟩
 ·exact .inl h
 ·exact .inr ⟨g,cap,cur,rfl,h1,(hb g rfl).trans h2,h3⟩
theorem KOwn.keep {base:Nat} {No No2:Nat->Prop} {w w':World} {v:Value} {l:List Tm} (h:KOwn base No w v l) (hk:Kn No2 w w') (hn:∀ q,base<=q->No q->No2 q):KOwn base No w' v l:=by
 obtain⟨us,h1,h2,h3,h4⟩:=h
 refine⟨us,h1,owns_keep h2 (fun k hk'=>hk.block k (hn k (World.ownsRow.lt h2 k hk').1 (h3 k hk')) (World.ownsRow.lt h2 k hk').2),h3,fun j x u hx hu=>(h4 j x u hx hu).keep hk.size (fun q hq=>?_) (fun q hq hs=>hk.block q (hn q hq.1.1 hq.2.2) hs)⟩
 exact⟨hq.1.same (hk.block q (hn q hq.1.1 hq.2.2) hq.1.lt),hq.2⟩
theorem BOwn.keep {base:Nat} {No No2:Nat->Prop} {w w':World} {v:Value} {l:List (List C × List Tm)} (h:BOwn base No w v l) (hk:Kn No2 w w') (hn:∀ q,base<=q->No q->No2 q):BOwn base No w' v l:=by
 obtain⟨us,h1,h2,h3,h4⟩:=h
 have ho:∀ q,OkR base No w v q->OkR base No w' v q:=fun q hq=>⟨hq.1.same (hk.block q (hn q hq.1.1 hq.2.2) hq.1.lt),hq.2⟩
 have hb:∀ q,OkR base No w v q->q<w.heap.size->w'.heap[q]? = w.heap[q]?:=fun q hq hs=>hk.block q (hn q hq.1.1 hq.2.2) hs
 refine⟨us,h1,owns_keep h2 (fun k hk'=>hk.block k (hn k (World.ownsRow.lt h2 k hk').1 (h3 k hk')) (World.ownsRow.lt h2 k hk').2),h3,fun j x u hx hu=>⟨(h4 j x u hx hu).1.keep hk.size ho hb,(h4 j x u hx hu).2.all hk.size ho hb⟩⟩
theorem KOwn.row {base:Nat} {No:Nat->Prop} {w:World} {v:Value} {l:List Tm} (h:KOwn base No w v l):KdT (fun q=>OkN base w q/\No q) w (TmIn (fun q=>OkN base w q/\No q) w) l v:=by
 obtain⟨us,h1,h2,h3,h4⟩:=h
 rcases h2.2 with ⟨rfl,hz⟩|⟨g,cap,cur,rfl,hb,hh,hn,_,_,hc⟩
 ·obtain rfl:l=[]:=List.length_eq_zero_iff.1 hz
  exact kt_nil _ _ _
 ·refine⟨_,_,rfl,hn,fun j x hx=>?_⟩
  obtain⟨u,hu⟩:=someL (l:=us) (k:=j) (by have:=some_lt hx;omega)
  have hcell:=h2.cells (g:=g) rfl
  obtain⟨f0,f1,f2,f3,f4,f5⟩:=flat6_get us j u hu
  refine⟨g,0,u.1,u.2.1,u.2.2.1,u.2.2.2.1,u.2.2.2.2.1,u.2.2.2.2.2,rfl,⟨⟨hb,cur,_,hh⟩,h3 g rfl⟩,(Array.getElem?_eq_some_iff.1 hh).1,(h4 j x u hx hu).up fun q hq=>⟨hq.1,hq.2.2⟩,?_,?_,?_,?_,?_,?_⟩
  ·have:=hcell _ _ f0;rw [Addr.add_lit] at this;simpa using this
  ·have:=hcell _ _ f1;rw [Addr.add_lit] at this;simpa using this
  ·have:=hcell _ _ f2;rw [Addr.add_lit] at this;simpa using this
  ·have:=hcell _ _ f3;rw [Addr.add_lit] at this;simpa using this
  ·have:=hcell _ _ f4;rw [Addr.add_lit] at this;simpa using this
  ·have:=hcell _ _ f5;rw [Addr.add_lit] at this;simpa using this
theorem BOwn.row {base:Nat} {No:Nat->Prop} {w:World} {v:Value} {l:List (List C × List Tm)} (h:BOwn base No w v l):SyT (fun q=>OkN base w q/\No q) w (TmIn (fun q=>OkN base w q/\No q) w) l v:=by
 obtain⟨us,h1,h2,h3,h4⟩:=h
 rcases h2.2 with ⟨rfl,hz⟩|⟨g,cap,cur,rfl,hb,hh,hn,_,_,hc⟩
 ·obtain rfl:l=[]:=List.length_eq_zero_iff.1 hz
  exact sy_nil _ _ _
 ·refine⟨_,_,rfl,hn,fun j x hx=>?_⟩
  obtain⟨u,hu⟩:=someL (l:=us) (k:=j) (by have:=some_lt hx;omega)
  have hcell:=h2.cells (g:=g) rfl
  obtain⟨f0,f1⟩:=flat2_get us j u hu
  obtain⟨p1,p2⟩:=h4 j x u hx hu
  refine⟨g,0,u.1,u.2,rfl,⟨⟨hb,cur,_,hh⟩,h3 g rfl⟩,(Array.getElem?_eq_some_iff.1 hh).1,p1.keep (Nat.le_refl _) (fun q hq=>⟨hq.1,hq.2.2⟩) (fun _ _ _=>rfl),p2.all (Nat.le_refl _) (fun q hq=>⟨hq.1,hq.2.2⟩) (fun _ _ _=>rfl),?_,?_⟩
  ·have:=hcell _ _ f0;rw [Addr.add_lit] at this;simpa using this
  ·have:=hcell _ _ f1;rw [Addr.add_lit] at this;simpa using this
theorem okr_grown {base:Nat} {No:Nat->Prop} {W W':World} {v v':Value} (hg:W.grownBy W' v.ownBlock) (hv:v'.ownBlock=v.ownBlock\/v'.ownBlock=some W.heap.size) (q:Nat) (hq:OkR base No W v q):OkR base No W' v' q:=by
 have hlt:=hq.1.lt
 refine⟨hq.1.same (hg.block q hlt hq.2.1),?_,hq.2.2⟩
 rcases hv with h|h
 ·rw [h];exact hq.2.1
 ·rw [h];intro e;injection e with e;omega
theorem append_T {base:Nat} {No:Nat->Prop} {W:World} {v:Value} {l:List Tm} {x:Tm} {u:V6} (ty:TypeId) (hO:KOwn base No W v l) (ad:Addr) (c:Nat) (hc:∀ (j:Nat) (y:Value),(flat6 [u])[j]? = some y->W.cell? (ad.add j)=some y) (hx:TmIn (OkR base No W v) W x (agg6 u)) (hn:l.length+1<=200000) (hb:base<=W.heap.size) (hN:No W.heap.size) :
  ∃ v' W',(Builtin.append_ #[23,23] ty #[v,.slice (some ad) 1 c]).run Tryz.prog W=.ok v' W'/\KOwn base No W' v' (l ++ [x])/\W.grownBy W' v.ownBlock/\(v'.ownBlock=v.ownBlock\/v'.ownBlock=some W.heap.size):=by
 obtain⟨i0,hi,hz0,hz1,hz2⟩:=info_parts infoT
 obtain⟨us,h1,h2,h3,h4⟩:=hO
 obtain⟨ra,rc,ka,kc,sa,sc,e,ht⟩:=hx.form
 have hone:∀ y∈flat6 [u],y.oneCell'=true:=by
  unfold agg6 at e
  injection e with e
  simp only [Array.mk.injEq,List.cons.injEq,and_true] at e
  obtain⟨e0,e1,e2,e3,e4,e5⟩:=e
  intro y hy
  simp only [flat6,List.mem_cons,List.not_mem_nil,or_false] at hy
  rcases hy with rfl|rfl|rfl|rfl|rfl|rfl
  ·rw [e0];rfl
  ·rw [e1];rfl
  ·rw [e2];rfl
  ·rw [e3];rfl
  ·rw [e4];rfl
  ·rw [e5];rfl
 obtain⟨v',W',hrun,r1,r2,_,r4⟩:=run_append_own_at (P:=Tryz.prog) W base 23 ty 26 i0 _ 6 104 Tryz.underlying23 hi hz0 hz1 hz2 rfl (by decide) v l.length (flat6 us) h2 ad 1 c (flat6 [u]) (flat6_length _) hc hone (by unfold maxLen;omega) (by omega) hb
 refine⟨v',W',hrun,⟨us ++ [u],by simp [h1],by rw [List.length_append,flat6_append];exact r1,fun k hk=>?_,fun j y z hy hz=>?_⟩,r2,r4⟩
 ·rcases r4 with h|h
  ·rw [h] at hk;exact h3 k hk
  ·rw [h] at hk;injection hk with hk;rw [<- hk];exact hN
 ·have hkeep:∀ t z,TmIn (OkR base No W v) W t z->TmIn (OkR base No W' v') W' t z:=fun t z h=>h.keep r2.size (okr_grown r2 r4) (fun q hq hs=>r2.block q hs hq.2.1)
  rcases Nat.lt_or_ge j l.length with hj|hj
  ·rw [List.getElem?_append_left hj] at hy
   rw [List.getElem?_append_left (by omega)] at hz
   exact hkeep _ _ (h4 j y z hy hz)
  ·rw [List.getElem?_append_right hj] at hy
   rw [List.getElem?_append_right (by omega),h1] at hz
   obtain⟨e1,e2⟩:x=y/\u=z:=by
    cases hd:j - l.length with
    | zero=>rw [hd] at hy hz;simp at hy hz;exact⟨hy,hz⟩
    | succ d=>rw [hd] at hy;simp at hy
   subst e1 e2
   exact hkeep _ _ hx
theorem append_B {base:Nat} {No:Nat->Prop} {W:World} {v:Value} {l:List (List C × List Tm)} {x:List C × List Tm} {u:Value × Value} (ty:TypeId) (hO:BOwn base No W v l) (ad:Addr) (c:Nat) (hc:∀ (j:Nat) (y:Value),(flat2 [u])[j]? = some y->W.cell? (ad.add j)=some y) (hx:ClRow (OkR base No W v) W x.1 u.1/\KdT (OkR base No W v) W (TmIn (OkR base No W v) W) x.2 u.2) (hn:l.length+1<=200000) (hb:base<=W.heap.size) (hN:No W.heap.size) :
  ∃ v' W',(Builtin.append_ #[24,24] ty #[v,.slice (some ad) 1 c]).run Tryz.prog W=.ok v' W'/\BOwn base No W' v' (l ++ [x])/\W.grownBy W' v.ownBlock/\(v'.ownBlock=v.ownBlock\/v'.ownBlock=some W.heap.size):=by
 obtain⟨i0,hi,hz0,hz1,hz2⟩:=info_parts infoB
 obtain⟨us,h1,h2,h3,h4⟩:=hO
 have hone:∀ y∈flat2 [u],y.oneCell'=true:=by
  obtain⟨⟨a1,c1,e1,_⟩,⟨a2,c2,e2,_⟩⟩:=hx
  intro y hy
  simp only [flat2,List.mem_cons,List.not_mem_nil,or_false] at hy
  rcases hy with rfl|rfl
  ·rw [e1];rfl
  ·rw [e2];rfl
 obtain⟨v',W',hrun,r1,r2,_,r4⟩:=run_append_own_at (P:=Tryz.prog) W base 24 ty 40 i0 _ 2 48 Tryz.underlying24 hi hz0 hz1 hz2 rfl (by decide) v l.length (flat2 us) h2 ad 1 c (flat2 [u]) (flat2_length _) hc hone (by unfold maxLen;omega) (by omega) hb
 refine⟨v',W',hrun,⟨us ++ [u],by simp [h1],by rw [List.length_append,flat2_append];exact r1,fun k hk=>?_,fun j y z hy hz=>?_⟩,r2,r4⟩
 ·rcases r4 with h|h
  ·rw [h] at hk;exact h3 k hk
  ·rw [h] at hk;injection hk with hk;rw [<- hk];exact hN
 ·have hkeep:∀ (y:List C × List Tm) (z:Value × Value),ClRow (OkR base No W v) W y.1 z.1/\KdT (OkR base No W v) W (TmIn (OkR base No W v) W) y.2 z.2->ClRow (OkR base No W' v') W' y.1 z.1/\KdT (OkR base No W' v') W' (TmIn (OkR base No W' v') W') y.2 z.2:=fun y z h =>
   ⟨h.1.keep r2.size (okr_grown r2 r4) (fun q hq hs=>r2.block q hs hq.2.1),h.2.all r2.size (okr_grown r2 r4) (fun q hq hs=>r2.block q hs hq.2.1)⟩
  rcases Nat.lt_or_ge j l.length with hj|hj
  ·rw [List.getElem?_append_left hj] at hy
   rw [List.getElem?_append_left (by omega)] at hz
   exact hkeep _ _ (h4 j y z hy hz)
  ·rw [List.getElem?_append_right hj] at hy
   rw [List.getElem?_append_right (by omega),h1] at hz
   obtain⟨e1,e2⟩:x=y/\u=z:=by
    cases hd:j - l.length with
    | zero=>rw [hd] at hy hz;simp at hy hz;exact⟨hy,hz⟩
    | succ d=>rw [hd] at hy;simp at hy
   subst e1 e2
   exact hkeep _ _ hx
theorem owns_len {w:World} {base:Nat} {e:TypeId} {size:Nat} {v:Value} {n:Nat} {xs:List Value} (h:w.ownsRow base e size v n xs):∃ a c,v=.slice a n c:=by
 rcases h.2 with ⟨rfl,rfl⟩|⟨g,cap,cur,rfl,_⟩
 ·exact⟨_,_,rfl⟩
 ·exact⟨_,_,rfl⟩
theorem KOwn.len {base:Nat} {No:Nat->Prop} {w:World} {v:Value} {l:List Tm} (h:KOwn base No w v l):∃ a c,v=.slice a l.length c:=by obtain⟨us,_,h2,_⟩:=h;exact owns_len h2
theorem BOwn.len {base:Nat} {No:Nat->Prop} {w:World} {v:Value} {l:List (List C × List Tm)} (h:BOwn base No w v l):∃ a c,v=.slice a l.length c:=by obtain⟨us,_,h2,_⟩:=h;exact owns_len h2
end Go.Proofs.YtblbhmnahoiecaaGreat
