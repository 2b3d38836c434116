/- The term behind the names of a Lam, of a PLam. -/
import Derived.Test.YtahnbigkdfmpbaaGreatDoorIZF
set_option linter.unusedVariables false
set_option linter.unusedSimpArgs false
namespace Go.Proofs.YtahnbigkdfmpbaaGreatDoor
open Go.RowKit Go.Maps Go.WideMaps
def TermP (R:Rsv) (term:Sg→Sx→Rz Tm) (c:Nat) (t:Sx):Prop:=∀ (σ:Sg) (n m:Nat) (No:Nat→Prop) (v:Value) (w:World),R.In w σ n→R.Sh w No→SxIn m w t v→m≤R.bv→n+c≤40000000→σ.v.length+c≤40000000→σ.d.length+c≤40000000→term σ t≠none →
 Calls Tryz.prog 26 #[R.ptr,v] w (OutT R σ n No c (term σ t) w)
theorem names_len {t:Sx} {x:Bs} (hb:blk t≤1000000) (h:x∈t.names):x.length≤1000000:=by have:=blk_names h;omega
def BodyS (s g off:Nat) (x:Sx) (ka na la:Option Addr) (kc nc kl lc L:Nat) (w9:World):Prop :=
 w9.cell? ⟨s,3,none⟩=some (.slice la L lc)∧w9.cell? ⟨s,2,none⟩=some (.slice (some ⟨g,off,none⟩) 1 kl)∧w9.cell? ⟨g,off,none⟩=some (.int .i64 x.kind)∧w9.cell? ⟨g,off+1,none⟩=some (.string (bs x.name))∧w9.cell? ⟨g,off+2,none⟩=some (.slice ka x.kids.length kc)∧w9.cell? ⟨g,off+3,none⟩=some (.slice na x.names.length nc)∧w9.cell? ⟨g,off+4,none⟩=some (.int .i64 x.at_)
set_option maxRecDepth 100000 in
set_option maxHeartbeats 4000000 in
theorem bodyV_any (R:Rsv) (σ:Sg) (n m cK:Nat) (No:Nat→Prop) (t:Sx) (v:Value) (w:World) (term:Sg→Sx→Rz Tm) (h:R.In w σ n) (hs:R.Sh w No) (ht:SxIn m w t v) (hm:m≤R.bv) (hk:t.kind=2) (hl1:t.kids.length=1) (hT:TermP R term cK (kd t 0)) (hb:blk t≤1000000)
  (hn:n+cK+2*t.names.length≤40000000) (hv:σ.v.length+cK+t.names.length≤40000000) (hd:σ.d.length+cK+t.names.length≤40000000) (hr:bodyR term σ t≠none) :
  Calls Tryz.prog 46 #[R.ptr,v] w (OutT R σ n No (cK+2*t.names.length) (bodyR term σ t) w):=by
 obtain⟨ka,kc,na,nc,rfl,hN,hK⟩:=ht.form
 have hmw:m≤w.heap.size:=by have:=h.lt;have:=h.rlt;omega
 obtain⟨g,off,ka0,kc0,na0,nc0,rfl,hg,hz,z0,z1,z2,z3,z4⟩:=hK.at (kd_at (t:=t) (j:=0) (by omega))
 simp only [Nat.zero_mul,Nat.add_zero] at z0 z1 z2 z3 z4
 rw [hk,hl1] at ht ⊢
 obtain⟨w1,hw1⟩:∃ w1,w1=w.alloc (.cells #[.int .i64 2,.string (bs t.name),.slice (some ⟨g,off,none⟩) 1 kc,.slice na t.names.length nc,.int .i64 t.at_] 26):=⟨_,rfl⟩
 have q:Below w.heap.size w w1:=by rw [hw1];exact below_alloc _ _
 have bx:Bx w1 w.heap.size (.int .i64 2) (.string (bs t.name)) (.slice (some ⟨g,off,none⟩) 1 kc) (.slice na t.names.length nc) (.int .i64 t.at_):=by rw [hw1];exact bx_new _ _ _ _ _ _
 have s1:w1.heap.size=w.heap.size+1:=by rw [hw1];simp
 obtain⟨w2,hw2⟩:∃ w2,w2=w1.alloc (.cells #[.int .i64 0,.int .i64 0,.string ⟨#[]⟩,.slice none 0 0,.slice none 0 0,.slice none 0 0] 37):=⟨_,rfl⟩
 have q2:Below w1.heap.size w1 w2:=by rw [hw2];exact below_alloc _ _
 have tx:Tx w2 (w.heap.size+1) (.int .i64 0) (.int .i64 0) (.string ⟨#[]⟩) (.slice none 0 0) (.slice none 0 0) (.slice none 0 0):=by rw [hw2,← s1];exact tx_new _ _ _ _ _ _ _
 have s2:w2.heap.size=w.heap.size+2:=by rw [hw2];simp [s1]
 have qq:Below w.heap.size w w2:=q.trans (q2.mono q.size)
 have bx2:=bx.blw q2
 rw [hw1] at hw2
 have cW:=hasWord_any R σ n m t.names _ w2 (h.keep qq) (hN.keep (qq.mono hmw)) (by omega) (by have:=blk_nlen t;omega) (fun x hx=>names_len hb hx)
 obtain⟨x0,x1,x2,x3,x4⟩:=bx2.cells
 have Hs:Hid (w2=_∧Bx w2 w.heap.size _ _ _ _ _∧Tx w2 (w.heap.size+1) _ _ _ _ _ _∧w2.heap.size=w.heap.size+2∧Below w.heap.size w w2):=⟨hw2,bx2,tx,s2,qq⟩
 rw [hw2] at cW x0 x1 x2 x3 x4
 obtain⟨r,hrr⟩:∃ r,r=bodyR term σ t:=⟨_,rfl⟩
 rw [← hrr] at hr ⊢
 unfold bodyR at hrr
 unfold Rsv.ptr at cW ⊢
 clear q bx s1 hw1 q2 tx s2 qq bx2 hw2
 cases hA:t.names.any isWd with
 | true =>
  rw [hA,if_pos rfl] at hrr
  rw [hA] at cW
  have HRR:Hid (r=_):=hrr
  clear hrr
  go_enter Tryz.func46,Tryz.ntmps46
  go_wp2_with fail
  refine cW.mono ?_
  rintro e w3 ⟨rfl,hb3⟩
  obtain⟨hw2,bx2,tx,s2,qq⟩:=Hs.out
  rw [← hw2] at hb3
  have q3:Below w.heap.size w w3:=qq.trans (hb3.mono qq.size)
  have bx3:=bx2.blw hb3
  have tx3:=tx.blw hb3
  have sz3:w.heap.size+2≤w3.heap.size:=by have:=hb3.size;omega
  have ht3:=ht.keep (q3.mono hmw)
  have hz3:=hz.keep (q3.mono hmw)
  have hN3:=hN.keep (q3.mono hmw)
  clear x0 x1 x2 x3 x4 hw2 bx2 tx s2 qq hb3 cW Hs
  obtain⟨x0,x1,x2,x3,x4⟩:=bx3.cells
  have hrr:=HRR.out
  have Hr:Hid (r=some (.inl (t.at_,61))):=hrr
  have cG:=giveUp_any m t _ 61 w3 ht3
  have Hq:Hid (Below w.heap.size w w3):=q3
  clear hrr
  go_wp2_with (go_at_call 50;refine cG.mono ?_;rintro e w4 ⟨rfl,hb4⟩)
  refine⟨rfl,(Kn.of_below Hq.out).trans (Kn.of_below hb4),?_⟩
  rw [Hr.out]
  rfl
 | false =>
  rw [hA,if_neg (by decide)] at hrr
  rw [hA] at cW
  have HRR:Hid (r=_):=hrr
  clear hrr
  go_enter Tryz.func46,Tryz.ntmps46
  go_wp2_with fail
  refine cW.mono ?_
  rintro e w3 ⟨rfl,hb3⟩
  obtain⟨hw2,bx2,tx,s2,qq⟩:=Hs.out
  rw [← hw2] at hb3
  have q3:Below w.heap.size w w3:=qq.trans (hb3.mono qq.size)
  have bx3:=bx2.blw hb3
  have tx3:=tx.blw hb3
  have sz3:w.heap.size+2≤w3.heap.size:=by have:=hb3.size;omega
  have ht3:=ht.keep (q3.mono hmw)
  have hz3:=hz.keep (q3.mono hmw)
  have hN3:=hN.keep (q3.mono hmw)
  clear x0 x1 x2 x3 x4 hw2 bx2 tx s2 qq hb3 cW Hs
  obtain⟨x0,x1,x2,x3,x4⟩:=bx3.cells
  have hrr:=HRR.out
  rw [if_pos hk] at hrr
  obtain⟨h3,hs3⟩:=Rsv.two (w2:=w3) h hs q3 sz3
  have y0:=(q3.cell (p:=⟨g,off,none⟩) (by show g<_;omega)).trans z0
  have y1:=(q3.cell (p:=⟨g,off+1,none⟩) (by show g<_;omega)).trans z1
  have y2:=(q3.cell (p:=⟨g,off+2,none⟩) (by show g<_;omega)).trans z2
  have y3:=(q3.cell (p:=⟨g,off+3,none⟩) (by show g<_;omega)).trans z3
  have y4:=(q3.cell (p:=⟨g,off+4,none⟩) (by show g<_;omega)).trans z4
  have hnl:=blk_nlen t
  have hr2:term { σ with v:=σ.v++t.names } (kd t 0)≠none:=by rw [← hrr];exact hr
  have Hc:Hid (∀ w4,w4.heap=w3.heap→w4.os=w3.os→w4.tape=w3.tape→w4.output=w3.output→Calls Tryz.prog 77 #[R.ptr,.pointer (some ⟨R.r,2,none⟩),.slice na t.names.length nc,.agg #[.int .i64 (kd t 0).kind,.string (bs (kd t 0).name),.slice ka0 (kd t 0).kids.length kc0,.slice na0 (kd t 0).names.length nc0,.int .i64 (kd t 0).at_]] w4 (OutT R σ n (fun g=>No g∨(g=w.heap.size∨g=w.heap.size+1)) (cK+2*t.names.length) r w4)):=by
   intro w4 e1 e2 e3 e4
   have hbl:Below w3.heap.size w3 w4:=⟨e2,e3,e4,by rw [e1];exact Nat.le_refl _,fun k _=>by rw [e1]⟩
   rw [hrr]
   exact behindZ_any R σ { σ with v:=σ.v++t.names } n m 2 t.names.length cK _ t.names _ (kd t 0) _ w4 _ (h3.keep hbl) (hs3.keep h3 hbl) (hN3.keep (hbl.mono (by omega))) (hz3.keep (hbl.mono (by omega))) hm hr2 (by omega)
    (fun w n No a1 a2 a3 a4=>bindV R σ n m No t.names _ w a1 a2 a3 hm a4 (by omega) (fun x hx=>names_len hb hx))
    (fun w n No a1 a2 a3 a4=>releaseV R σ n m No σ.v t.names _ w a1 a2 a3 hm a4 (by omega) (fun x hx=>names_len hb hx))
    (fun w No a1 a2 a3=>hT _ _ m No _ w a1 a2 a3 hm (by omega) (by simp only [List.length_append];omega) (by simp only;omega) hr2)
  have hSB:BodyS w.heap.size g off (kd t 0) ka0 na0 na kc0 nc0 kc nc t.names.length w3:=⟨x3,x2,y0,y1,y2,y3,y4⟩
  have Hr:Hid (r≠none):=hr
  have H3:Hid (Below w.heap.size w w3∧Tx w3 (w.heap.size+1) _ _ _ _ _ _∧w.heap.size+2≤w3.heap.size∧R.bv≤w.heap.size):=⟨q3,tx3,sz3,by have:=h.lt;have:=h.rlt;omega⟩
  clear hrr hr hr2 y0 y1 y2 y3 y4 z0 z1 z2 z3 z4 x1 x2 x3 x4 h3 hs3 tx3 sz3 bx3 ht3 hz3 hN3 q3 hz hN hK ht hT hA
  obtain⟨L,hL⟩:∃ L,L=t.names.length:=⟨_,rfl⟩
  rw [← hL] at Hc hSB hn
  simp only [← hL]
  have HL:Hid (L=t.names.length):=hL
  clear hL hv hd hnl
  generalize kd t 0=Z at *
  go_wp2_with fail
  obtain⟨s,hsz⟩:∃ s,s=w.heap.size:=⟨_,rfl⟩
  rw [← hsz] at hSB
  simp only [← hsz]
  have Hsz:Hid (s=w.heap.size):=hsz
  clear hsz x0
  refine wp_region_held_drew (S:=BodyS s g off Z ka0 na0 na kc0 nc0 kc nc L) (by kernel_rfl) hSB (fun hS=>?_)
  refine wpAnyH_take (i:=0) (v:=.pointer (some ⟨R.r,0,none⟩)) rfl (by kernel_rfl) (by kernel_rfl) (by kernel_rfl) (fun _ _ _ h=>h) (Or.inl ⟨by rfl,fun w hS=>by go_simp⟩) hS ?_
  simp only [Act.put,List.getElem_toArray,List.getElem_cons_zero,List.getElem_cons_succ,List.setIfInBounds_toArray,List.set_cons_zero,List.set_cons_succ]
  refine wpAnyH_take (i:=1) (v:=.pointer (some ⟨R.r,0,none⟩)) rfl (by kernel_rfl) (by kernel_rfl) (by kernel_rfl) (fun _ _ _ h=>h) (Or.inl ⟨by rfl,fun w hS=>by go_simp⟩) hS ?_
  simp only [Act.put,List.getElem_toArray,List.getElem_cons_zero,List.getElem_cons_succ,List.setIfInBounds_toArray,List.set_cons_zero,List.set_cons_succ]
  refine wpAnyH_take (i:=2) (v:=.pointer (some ⟨R.r,0,none⟩)) rfl (by kernel_rfl) (by kernel_rfl) (by kernel_rfl) (fun _ _ _ h=>h) (Or.inl ⟨by rfl,fun w hS=>by go_simp⟩) hS ?_
  simp only [Act.put,List.getElem_toArray,List.getElem_cons_zero,List.getElem_cons_succ,List.setIfInBounds_toArray,List.set_cons_zero,List.set_cons_succ]
  refine wpAnyH_take (i:=3) (v:=.pointer (some ⟨R.r,2,none⟩)) rfl (by kernel_rfl) (by kernel_rfl) (by kernel_rfl) (fun _ _ _ h=>h) (Or.inl ⟨by rfl,fun w hS=>by go_simp⟩) hS ?_
  simp only [Act.put,List.getElem_toArray,List.getElem_cons_zero,List.getElem_cons_succ,List.setIfInBounds_toArray,List.set_cons_zero,List.set_cons_succ]
  refine wpAnyH_take (i:=4) (v:=.pointer (some ⟨s,3,none⟩)) rfl (by kernel_rfl) (by kernel_rfl) (by kernel_rfl) (fun _ _ _ h=>h) (Or.inl ⟨by rfl,fun w hS=>by go_simp⟩) hS ?_
  simp only [Act.put,List.getElem_toArray,List.getElem_cons_zero,List.getElem_cons_succ,List.setIfInBounds_toArray,List.set_cons_zero,List.set_cons_succ]
  refine wpAnyH_take (i:=5) (v:=.slice na L nc) rfl (by kernel_rfl) (by kernel_rfl) (by kernel_rfl) (fun _ _ _ h=>h) (Or.inl ⟨by rfl,fun w hS=>by have e:=hS.1;go_simp⟩) hS ?_
  simp only [Act.put,List.getElem_toArray,List.getElem_cons_zero,List.getElem_cons_succ,List.setIfInBounds_toArray,List.set_cons_zero,List.set_cons_succ]
  refine wpAnyH_take (i:=6) (v:=.pointer (some ⟨s,2,none⟩)) rfl (by kernel_rfl) (by kernel_rfl) (by kernel_rfl) (fun _ _ _ h=>h) (Or.inl ⟨by rfl,fun w hS=>by go_simp⟩) hS ?_
  simp only [Act.put,List.getElem_toArray,List.getElem_cons_zero,List.getElem_cons_succ,List.setIfInBounds_toArray,List.set_cons_zero,List.set_cons_succ]
  refine wpAnyH_take (i:=7) (v:=.slice (some ⟨g,off,none⟩) 1 kc) rfl (by kernel_rfl) (by kernel_rfl) (by kernel_rfl) (fun _ _ _ h=>h) (Or.inl ⟨by rfl,fun w hS=>by have e:=hS.2.1;go_simp⟩) hS ?_
  simp only [Act.put,List.getElem_toArray,List.getElem_cons_zero,List.getElem_cons_succ,List.setIfInBounds_toArray,List.set_cons_zero,List.set_cons_succ]
  refine wpAnyH_take (i:=8) (v:=.pointer (some ⟨g,off,none⟩)) rfl (by kernel_rfl) (by kernel_rfl) (by kernel_rfl) (fun _ _ _ h=>h) (Or.inl ⟨by rfl,fun w hS=>by go_simp⟩) hS ?_
  simp only [Act.put,List.getElem_toArray,List.getElem_cons_zero,List.getElem_cons_succ,List.setIfInBounds_toArray,List.set_cons_zero,List.set_cons_succ]
  refine wpAnyH_take (i:=9) (v:=.agg #[.int .i64 Z.kind,.string (bs Z.name),.slice ka0 Z.kids.length kc0,.slice na0 Z.names.length nc0,.int .i64 Z.at_]) rfl (by kernel_rfl) (by kernel_rfl) (by kernel_rfl) (fun _ _ _ h=>h) (Or.inl ⟨by rfl,fun w hS=>by obtain⟨_,_,e0,e1,e2,e3,e4⟩:=hS;go_simp⟩) hS ?_
  simp only [Act.put,List.getElem_toArray,List.getElem_cons_zero,List.getElem_cons_succ,List.setIfInBounds_toArray,List.set_cons_zero,List.set_cons_succ]
  refine wpAnyH_ready (rs:=[10]) (by kernel_rfl) (by simp) ?_
  refine ready_cons rfl (fun KK hKK=>?_) AllReadyH.nil
  refine⟨?_⟩
  go_simp
  refine (Hc.out w3.drew rfl rfl rfl rfl).mono ?_
  rintro e w4 ⟨hk4,hE⟩
  obtain⟨q3,tx3,sz3,hbv⟩:=H3.out
  rw [← Hsz.out] at hk4 hE q3 tx3 sz3 hbv
  have kn4:Kn No w w4:=(Kn.of_below (Hsz.out ▸ q3)).trans ((Kn.drewR No w3).trans (hk4.sub fun g hg=>.inl hg))
  cases r with
  | none=>exact absurd rfl Hr.out
  | some y =>
   cases y with
   | inl p =>
    obtain rfl:e=_:=hE
    exact⟨rfl,kn4,rfl⟩
   | inr a =>
    obtain⟨vT,rfl,ok,n4,hTm,hok,h4,hn4,hs4⟩:=hE
    obtain⟨ra,rc,qa,qc,sa,sc,rfl,_⟩:=hTm.form
    have hlt3:∀ i j,i<R.bv∨i=s→w4.cell? ⟨i,j,none⟩=w3.drew.cell? ⟨i,j,none⟩:=fun i j hi=>hk4.cell (p:=⟨i,j,none⟩) (hi.elim (fun h=>.inl (hs.old i h)) (fun h=>.inr (.inl h))) (by show i<w3.heap.size;omega)
    have hS4:BodyS s g off Z ka0 na0 na kc0 nc0 kc nc L w4:=by
     obtain⟨e0,e1,e2,e3,e4,e5,e6⟩:=hS
     have hgb:g<R.bv:=by omega
     exact⟨(hlt3 _ _ (.inr rfl)).trans e0,(hlt3 _ _ (.inr rfl)).trans e1,(hlt3 _ _ (.inl hgb)).trans e2,(hlt3 _ _ (.inl hgb)).trans e3,(hlt3 _ _ (.inl hgb)).trans e4,(hlt3 _ _ (.inl hgb)).trans e5,(hlt3 _ _ (.inl hgb)).trans e6⟩
    have tx4:Tx w4 (s+1) _ _ _ _ _ _:=Tx.kn (w:=w3.drew) tx3 hk4 (.inr (.inr rfl))
    have sz4:w3.heap.size≤w4.heap.size:=hk4.size
    have t8:=tx4.put (.int .i64 (a.kind:Nat)) (.int .i64 (a.n:Nat)) (.string (bs a.name)) (.slice ra a.r.length rc) (.slice qa a.kids.length qc) (.slice sa a.sys.length sc)
    have k8:Kn (fun g=>g≠s+1) w4 (pu6 w4 (s+1) (.int .i64 (a.kind:Nat)) (.int .i64 (a.n:Nat)) (.string (bs a.name)) (.slice ra a.r.length rc) (.slice qa a.kids.length qc) (.slice sa a.sys.length sc)):=pu6_kn
    obtain⟨h8,hs8⟩:=h4.off hs4 (x:=s+1) (.inl (.inr (.inr rfl))) (by omega) k8
    have hT8:=hTm.kn k8 fun g hg=>by have:w3.heap.size≤g:=(hok g hg).1;omega
    have kn8:Kn No w (pu6 w4 (s+1) (.int .i64 (a.kind:Nat)) (.int .i64 (a.n:Nat)) (.string (bs a.name)) (.slice ra a.r.length rc) (.slice qa a.kids.length qc) (.slice sa a.sys.length sc)):=kn4.trans ⟨k8.os,k8.tape,k8.output,k8.size,fun g hg hgl=>k8.block g (fun e=>by have:=hs.lt g hg;have:=Hsz.out;omega) hgl⟩
    have hSB8:BodyS s g off Z ka0 na0 na kc0 nc0 kc nc L (pu6 w4 (s+1) (.int .i64 (a.kind:Nat)) (.int .i64 (a.n:Nat)) (.string (bs a.name)) (.slice ra a.r.length rc) (.slice qa a.kids.length qc) (.slice sa a.sys.length sc)):=by
     have c8:∀ i j,i≠s+1→(pu6 w4 (s+1) (.int .i64 (a.kind:Nat)) (.int .i64 (a.n:Nat)) (.string (bs a.name)) (.slice ra a.r.length rc) (.slice qa a.kids.length qc) (.slice sa a.sys.length sc)).cell? ⟨i,j,none⟩=w4.cell? ⟨i,j,none⟩:=fun i j hi=>World.cell?_of_block (w:=w4) (a:=⟨i,j,none⟩) (pu6_block _ _ _ _ _ _ _ _ hi)
     obtain⟨e0,e1,e2,e3,e4,e5,e6⟩:=hS4
     exact⟨(c8 _ _ (by omega)).trans e0,(c8 _ _ (by omega)).trans e1,(c8 _ _ (by omega)).trans e2,(c8 _ _ (by omega)).trans e3,(c8 _ _ (by omega)).trans e4,(c8 _ _ (by omega)).trans e5,(c8 _ _ (by omega)).trans e6⟩
    obtain⟨c0,c1,c2,c3,c4,c5⟩:=tx4.cells
    have f0:=tx4.cold 0
    have f1:=tx4.cold 1
    have f2:=tx4.cold 2
    have f3:=tx4.cold 3
    have f4:=tx4.cold 4
    have f5:=tx4.cold 5
    have H8:Hid (Tx (pu6 w4 (s+1) (.int .i64 (a.kind:Nat)) (.int .i64 (a.n:Nat)) (.string (bs a.name)) (.slice ra a.r.length rc) (.slice qa a.kids.length qc) (.slice sa a.sys.length sc)) (s+1) _ _ _ _ _ _∧R.In (pu6 w4 (s+1) (.int .i64 (a.kind:Nat)) (.int .i64 (a.n:Nat)) (.string (bs a.name)) (.slice ra a.r.length rc) (.slice qa a.kids.length qc) (.slice sa a.sys.length sc)) σ n4∧R.Sh (pu6 w4 (s+1) (.int .i64 (a.kind:Nat)) (.int .i64 (a.n:Nat)) (.string (bs a.name)) (.slice ra a.r.length rc) (.slice qa a.kids.length qc) (.slice sa a.sys.length sc)) _∧TmIn ok (pu6 w4 (s+1) (.int .i64 (a.kind:Nat)) (.int .i64 (a.n:Nat)) (.string (bs a.name)) (.slice ra a.r.length rc) (.slice qa a.kids.length qc) (.slice sa a.sys.length sc)) a _∧Kn No w (pu6 w4 (s+1) (.int .i64 (a.kind:Nat)) (.int .i64 (a.n:Nat)) (.string (bs a.name)) (.slice ra a.r.length rc) (.slice qa a.kids.length qc) (.slice sa a.sys.length sc))∧(∀ g,ok g→w3.heap.size≤g∧g<w4.heap.size)∧n4≤n+(cK+2*L)∧s+2≤w3.heap.size∧BodyS s g off Z ka0 na0 na kc0 nc0 kc nc L (pu6 w4 (s+1) (.int .i64 (a.kind:Nat)) (.int .i64 (a.n:Nat)) (.string (bs a.name)) (.slice ra a.r.length rc) (.slice qa a.kids.length qc) (.slice sa a.sys.length sc))∧w4.heap.size≤(pu6 w4 (s+1) (.int .i64 (a.kind:Nat)) (.int .i64 (a.n:Nat)) (.string (bs a.name)) (.slice ra a.r.length rc) (.slice qa a.kids.length qc) (.slice sa a.sys.length sc)).heap.size):=⟨t8,h8,hs8,hT8,kn8,hok,hn4,sz3,hSB8,k8.size⟩
    clear t8 h8 hs8 hT8 kn8 k8 hSB8 hok hn4 tx4 hTm h4 hs4 kn4 hk4 q3 tx3 hlt3 hSB Hc H3
    refine hKK.out _ _ hS4 (fun hS=>?_)
    clear hKK KK
    try simp only [Act.put,List.getElem_toArray,List.getElem_cons_zero,List.getElem_cons_succ,List.setIfInBounds_toArray,List.set_cons_zero,List.set_cons_succ]
    refine wpAnyH_ready (rs:=[11]) (by kernel_rfl) (by simp) ?_
    refine ready_cons rfl (fun KK hKK=>?_) AllReadyH.nil
    refine⟨?_⟩
    go_simp
    obtain⟨t8,h8,hs8,hT8,kn8,hok,hn4,sz3,hSB8,sz8⟩:=H8.out
    unfold pu6 at t8 h8 hs8 hT8 kn8 hSB8 sz8
    refine hKK.out _ _ hSB8 (fun hS=>?_)
    clear hKK KK
    try simp only [Act.put,List.getElem_toArray,List.getElem_cons_zero,List.getElem_cons_succ,List.setIfInBounds_toArray,List.set_cons_zero,List.set_cons_succ]
    refine wpAnyH_done (by kernel_rfl) ?_ _
    have H9:Hid (_∧_∧_∧_∧_):=⟨t8,h8,hs8,hT8,kn8⟩
    obtain⟨w8,hw8⟩:∃ w8,w8=(((((w4.setCell ⟨s+1,0,none⟩ (.int .i64 (a.kind:Nat))).setCell ⟨s+1,1,none⟩ (.int .i64 (a.n:Nat))).setCell ⟨s+1,2,none⟩ (.string (bs a.name))).setCell ⟨s+1,3,none⟩ (.slice ra a.r.length rc)).setCell ⟨s+1,4,none⟩ (.slice qa a.kids.length qc)).setCell ⟨s+1,5,none⟩ (.slice sa a.sys.length sc):=⟨_,rfl⟩
    rw [← hw8] at t8 h8 hs8 hT8 kn8 sz8 ⊢
    clear H8 H9 hSB8 hS hS4 hw8 c0 c1 c2 c3 c4 c5 f0 f1 f2 f3 f4 f5
    obtain⟨d0,d1,d2,d3,d4,d5⟩:=t8.cells
    have HE:Hid (_∧_∧_∧_∧_∧_∧_∧_):=⟨h8,hs8,hT8,kn8,hok,hn4,sz3,sz8⟩
    clear h8 hs8 hT8 kn8 hok hn4 sz3 sz8 t8
    go_wp2
    obtain⟨h8,hs8,hT8,kn8,hok,hn4,sz3,sz8⟩:=HE.out
    refine⟨rfl,.agg #[.int .i64 (a.kind:Nat),.int .i64 (a.n:Nat),.string (bs a.name),.slice ra a.r.length rc,.slice qa a.kids.length qc,.slice sa a.sys.length sc],by simp only [results,Tryz.results46];simp [go_sem,d0,d1,d2,d3,d4,d5],kn8,_,rfl,ok,n4,hT8,fun g hg=>?_,h8,by have:=HL.out;omega,hs8.sub (fun g hg=>hg.elim (fun h=>.inl (.inl h)) (fun h=>.inr h)) (fun g hg=>.inl (hs.old g hg))⟩
    have:=hok g hg
    have:=Hsz.out
    omega
set_option maxRecDepth 100000 in
set_option maxHeartbeats 4000000 in
theorem bodyD_any (R:Rsv) (σ:Sg) (n m cK:Nat) (No:Nat→Prop) (t:Sx) (v:Value) (w:World) (term:Sg→Sx→Rz Tm) (h:R.In w σ n) (hs:R.Sh w No) (ht:SxIn m w t v) (hm:m≤R.bv) (hk:t.kind=3) (hl1:t.kids.length=1) (hT:TermP R term cK (kd t 0)) (hb:blk t≤1000000)
  (hn:n+cK+2*t.names.length≤40000000) (hv:σ.v.length+cK+t.names.length≤40000000) (hd:σ.d.length+cK+t.names.length≤40000000) (hr:bodyR term σ t≠none) :
  Calls Tryz.prog 46 #[R.ptr,v] w (OutT R σ n No (cK+2*t.names.length) (bodyR term σ t) w):=by
 obtain⟨ka,kc,na,nc,rfl,hN,hK⟩:=ht.form
 have hmw:m≤w.heap.size:=by have:=h.lt;have:=h.rlt;omega
 obtain⟨g,off,ka0,kc0,na0,nc0,rfl,hg,hz,z0,z1,z2,z3,z4⟩:=hK.at (kd_at (t:=t) (j:=0) (by omega))
 simp only [Nat.zero_mul,Nat.add_zero] at z0 z1 z2 z3 z4
 rw [hk,hl1] at ht ⊢
 obtain⟨w1,hw1⟩:∃ w1,w1=w.alloc (.cells #[.int .i64 3,.string (bs t.name),.slice (some ⟨g,off,none⟩) 1 kc,.slice na t.names.length nc,.int .i64 t.at_] 26):=⟨_,rfl⟩
 have q:Below w.heap.size w w1:=by rw [hw1];exact below_alloc _ _
 have bx:Bx w1 w.heap.size (.int .i64 3) (.string (bs t.name)) (.slice (some ⟨g,off,none⟩) 1 kc) (.slice na t.names.length nc) (.int .i64 t.at_):=by rw [hw1];exact bx_new _ _ _ _ _ _
 have s1:w1.heap.size=w.heap.size+1:=by rw [hw1];simp
 obtain⟨w2,hw2⟩:∃ w2,w2=w1.alloc (.cells #[.int .i64 0,.int .i64 0,.string ⟨#[]⟩,.slice none 0 0,.slice none 0 0,.slice none 0 0] 37):=⟨_,rfl⟩
 have q2:Below w1.heap.size w1 w2:=by rw [hw2];exact below_alloc _ _
 have tx:Tx w2 (w.heap.size+1) (.int .i64 0) (.int .i64 0) (.string ⟨#[]⟩) (.slice none 0 0) (.slice none 0 0) (.slice none 0 0):=by rw [hw2,← s1];exact tx_new _ _ _ _ _ _ _
 have s2:w2.heap.size=w.heap.size+2:=by rw [hw2];simp [s1]
 have qq:Below w.heap.size w w2:=q.trans (q2.mono q.size)
 have bx2:=bx.blw q2
 rw [hw1] at hw2
 have cW:=hasWord_any R σ n m t.names _ w2 (h.keep qq) (hN.keep (qq.mono hmw)) (by omega) (by have:=blk_nlen t;omega) (fun x hx=>names_len hb hx)
 obtain⟨x0,x1,x2,x3,x4⟩:=bx2.cells
 have Hs:Hid (w2=_∧Bx w2 w.heap.size _ _ _ _ _∧Tx w2 (w.heap.size+1) _ _ _ _ _ _∧w2.heap.size=w.heap.size+2∧Below w.heap.size w w2):=⟨hw2,bx2,tx,s2,qq⟩
 rw [hw2] at cW x0 x1 x2 x3 x4
 obtain⟨r,hrr⟩:∃ r,r=bodyR term σ t:=⟨_,rfl⟩
 rw [← hrr] at hr ⊢
 unfold bodyR at hrr
 unfold Rsv.ptr at cW ⊢
 clear q bx s1 hw1 q2 tx s2 qq bx2 hw2
 cases hA:t.names.any isWd with
 | true =>
  rw [hA,if_pos rfl] at hrr
  rw [hA] at cW
  have HRR:Hid (r=_):=hrr
  clear hrr
  go_enter Tryz.func46,Tryz.ntmps46
  go_wp2_with fail
  refine cW.mono ?_
  rintro e w3 ⟨rfl,hb3⟩
  obtain⟨hw2,bx2,tx,s2,qq⟩:=Hs.out
  rw [← hw2] at hb3
  have q3:Below w.heap.size w w3:=qq.trans (hb3.mono qq.size)
  have bx3:=bx2.blw hb3
  have tx3:=tx.blw hb3
  have sz3:w.heap.size+2≤w3.heap.size:=by have:=hb3.size;omega
  have ht3:=ht.keep (q3.mono hmw)
  have hz3:=hz.keep (q3.mono hmw)
  have hN3:=hN.keep (q3.mono hmw)
  clear x0 x1 x2 x3 x4 hw2 bx2 tx s2 qq hb3 cW Hs
  obtain⟨x0,x1,x2,x3,x4⟩:=bx3.cells
  have hrr:=HRR.out
  have Hr:Hid (r=some (.inl (t.at_,61))):=hrr
  have cG:=giveUp_any m t _ 61 w3 ht3
  have Hq:Hid (Below w.heap.size w w3):=q3
  clear hrr
  go_wp2_with (go_at_call 50;refine cG.mono ?_;rintro e w4 ⟨rfl,hb4⟩)
  refine⟨rfl,(Kn.of_below Hq.out).trans (Kn.of_below hb4),?_⟩
  rw [Hr.out]
  rfl
 | false =>
  rw [hA,if_neg (by decide)] at hrr
  rw [hA] at cW
  have HRR:Hid (r=_):=hrr
  clear hrr
  go_enter Tryz.func46,Tryz.ntmps46
  go_wp2_with fail
  refine cW.mono ?_
  rintro e w3 ⟨rfl,hb3⟩
  obtain⟨hw2,bx2,tx,s2,qq⟩:=Hs.out
  rw [← hw2] at hb3
  have q3:Below w.heap.size w w3:=qq.trans (hb3.mono qq.size)
  have bx3:=bx2.blw hb3
  have tx3:=tx.blw hb3
  have sz3:w.heap.size+2≤w3.heap.size:=by have:=hb3.size;omega
  have ht3:=ht.keep (q3.mono hmw)
  have hz3:=hz.keep (q3.mono hmw)
  have hN3:=hN.keep (q3.mono hmw)
  clear x0 x1 x2 x3 x4 hw2 bx2 tx s2 qq hb3 cW Hs
  obtain⟨x0,x1,x2,x3,x4⟩:=bx3.cells
  have hrr:=HRR.out
  rw [if_neg (by rw [hk];decide)] at hrr
  obtain⟨_,_,_,_,cd,_⟩:=(h.keep q3).c
  by_cases hD:t.names.length+σ.d.length > 24
  ·rw [if_pos hD] at hrr
   have Hr:Hid (r=some (.inl (t.at_,10))):=hrr
   have Ht:Hid (SxIn m w3 t (.agg #[.int .i64 3,.string (bs t.name),.slice (some ⟨g,off,none⟩) 1 kc,.slice na t.names.length nc,.int .i64 t.at_])):=ht3
   have Hq:Hid (Below w.heap.size w w3):=q3
   have hgt:(24 - (σ.d.length:Int) < (t.names.length:Int)):=by omega
   have hdl:=h.few.2.2
   have hnl:=blk_nlen t
   have Hb:Hid (Bx w3 w.heap.size (.int .i64 3) (.string (bs t.name)) (.slice (some ⟨g,off,none⟩) 1 kc) (.slice na t.names.length nc) (.int .i64 t.at_)):=bx3
   clear hrr ht3 q3 bx3 tx3 hz3 hN3 hz hN hK ht hT hA z0 z1 z2 z3 z4
   generalize hgL:t.names.length=L at *
   generalize hgD:σ.d.length=D at *
   go_wp2_with fail
   go_quiet (fail)
   have hdr:Below w3.heap.size w3 (w3.drewN nq):=⟨rfl,rfl,rfl,Nat.le_refl _,fun _ _=>rfl⟩
   obtain⟨w5,hw5⟩:∃ z,z=w3.drewN nq:=⟨_,rfl⟩
   rw [← hw5] at hdr ⊢
   clear hw5 x0 x1 x2 x3 x4 cd
   obtain⟨x0,x1,x2,x3,x4⟩:=(Hb.out.blw hdr).cells
   have cG:=giveUp_any m t _ 10 w5 (Ht.out.keep (hdr.mono (Nat.le_trans hmw Hq.out.size)))
   try rw [hgL] at cG
   clear hgt
   go_wp2_with (go_at_call 50;refine cG.mono ?_;rintro e w6 ⟨rfl,hb6⟩)
   refine⟨rfl,((Kn.of_below Hq.out).trans (Kn.of_below hdr)).trans (Kn.of_below hb6),?_⟩
   rw [Hr.out]
   rfl
  ·rw [if_neg hD] at hrr
   have hgt:¬ (24 - (σ.d.length:Int) < (t.names.length:Int)):=by omega
   have hdl:=h.few.2.2
   have hnl:=blk_nlen t
   have HH:Hid (_∧_∧_∧_∧_∧_∧_∧_∧_):=⟨hrr,ht3,q3,bx3,tx3,hz3,hN3,hT,h⟩
   clear hrr ht3 q3 bx3 tx3 hz3 hN3 hT hA h
   obtain⟨L0,hL0⟩:∃ L0,L0=t.names.length:=⟨_,rfl⟩
   obtain⟨D,hD0⟩:∃ D,D=σ.d.length:=⟨_,rfl⟩
   have HL0:Hid (L0=t.names.length):=hL0
   have HD0:Hid (D=σ.d.length):=hD0
   rw [← hL0] at x3 hgt hnl
   rw [← hD0] at cd hgt hdl
   simp only [← hL0]
   clear hL0 hD0
   go_wp2_with fail
   go_quiet (fail)
   obtain⟨hrr,ht3,q3,bx3,tx3,hz3,hN3,hT,h⟩:=HH.out
   have hdr:Below w3.heap.size w3 (w3.drewN nq):=⟨rfl,rfl,rfl,Nat.le_refl _,fun _ _=>rfl⟩
   obtain⟨w5,hw5⟩:∃ z,z=w3.drewN nq:=⟨_,rfl⟩
   rw [← hw5] at hdr ⊢
   go_wp2_with fail
   have hm3:m≤w3.heap.size:=by omega
   have ht5:=ht3.keep (hdr.mono hm3)
   have hz5:=hz3.keep (hdr.mono hm3)
   have hN5:=hN3.keep (hdr.mono hm3)
   have q5:Below w.heap.size w w5:=q3.trans (hdr.mono (by omega))
   have bx5:=bx3.blw hdr
   have tx5:=tx3.blw hdr
   have sz5:w.heap.size+2≤w5.heap.size:=Nat.le_trans sz3 hdr.size
   have e1:=HL0.out
   clear HL0 HH hw5 x0 x1 x2 x3 x4 cd hgt hdl hnl ht3 hz3 hN3 q3 bx3 tx3 sz3 hm3 hdr HD0
   subst e1
   obtain⟨x0,x1,x2,x3,x4⟩:=bx5.cells
   have hA:True:=trivial
   obtain⟨h3,hs3⟩:=Rsv.two (w2:=w5) h hs q5 sz5
   have y0:=(q5.cell (p:=⟨g,off,none⟩) (by show g<_;omega)).trans z0
   have y1:=(q5.cell (p:=⟨g,off+1,none⟩) (by show g<_;omega)).trans z1
   have y2:=(q5.cell (p:=⟨g,off+2,none⟩) (by show g<_;omega)).trans z2
   have y3:=(q5.cell (p:=⟨g,off+3,none⟩) (by show g<_;omega)).trans z3
   have y4:=(q5.cell (p:=⟨g,off+4,none⟩) (by show g<_;omega)).trans z4
   have hnl:=blk_nlen t
   have hr2:term { σ with d:=σ.d++t.names } (kd t 0)≠none:=by rw [← hrr];exact hr
   have Hc:Hid (∀ w4,w4.heap=w5.heap→w4.os=w5.os→w4.tape=w5.tape→w4.output=w5.output→Calls Tryz.prog 77 #[R.ptr,.pointer (some ⟨R.r,4,none⟩),.slice na t.names.length nc,.agg #[.int .i64 (kd t 0).kind,.string (bs (kd t 0).name),.slice ka0 (kd t 0).kids.length kc0,.slice na0 (kd t 0).names.length nc0,.int .i64 (kd t 0).at_]] w4 (OutT R σ n (fun g=>No g∨(g=w.heap.size∨g=w.heap.size+1)) (cK+2*t.names.length) r w4)):=by
    intro w4 e1 e2 e3 e4
    have hbl:Below w5.heap.size w5 w4:=⟨e2,e3,e4,by rw [e1];exact Nat.le_refl _,fun k _=>by rw [e1]⟩
    rw [hrr]
    exact behindZ_any R σ { σ with d:=σ.d++t.names } n m 4 t.names.length cK _ t.names _ (kd t 0) _ w4 _ (h3.keep hbl) (hs3.keep h3 hbl) (hN5.keep (hbl.mono (by omega))) (hz5.keep (hbl.mono (by omega))) hm hr2 (by omega)
     (fun w n No a1 a2 a3 a4=>bindD R σ n m No t.names _ w a1 a2 a3 hm a4 (by omega) (fun x hx=>names_len hb hx))
     (fun w n No a1 a2 a3 a4=>releaseD R σ n m No σ.d t.names _ w a1 a2 a3 hm a4 (by omega) (fun x hx=>names_len hb hx))
     (fun w No a1 a2 a3=>hT _ _ m No _ w a1 a2 a3 hm (by omega) (by simp only;omega) (by simp only [List.length_append];omega) hr2)
   have hSB:BodyS w.heap.size g off (kd t 0) ka0 na0 na kc0 nc0 kc nc t.names.length w5:=⟨x3,x2,y0,y1,y2,y3,y4⟩
   have Hr:Hid (r≠none):=hr
   have H3:Hid (Below w.heap.size w w5∧Tx w5 (w.heap.size+1) _ _ _ _ _ _∧w.heap.size+2≤w5.heap.size∧R.bv≤w.heap.size):=⟨q5,tx5,sz5,by have:=h.lt;have:=h.rlt;omega⟩
   clear hrr hr hr2 y0 y1 y2 y3 y4 z0 z1 z2 z3 z4 x1 x2 x3 x4 h3 hs3 tx5 sz5 bx5 ht5 hz5 hN5 q5 hz hN hK ht hT hA
   obtain⟨L,hL⟩:∃ L,L=t.names.length:=⟨_,rfl⟩
   rw [← hL] at Hc hSB hn
   simp only [← hL]
   have HL:Hid (L=t.names.length):=hL
   clear hL hv hd hnl
   generalize kd t 0=Z at *
   go_wp2_with fail
   obtain⟨s,hsz⟩:∃ s,s=w.heap.size:=⟨_,rfl⟩
   rw [← hsz] at hSB
   simp only [← hsz]
   have Hsz:Hid (s=w.heap.size):=hsz
   clear hsz x0
   refine wp_region_held_drew (S:=BodyS s g off Z ka0 na0 na kc0 nc0 kc nc L) (by kernel_rfl) hSB (fun hS=>?_)
   refine wpAnyH_take (i:=0) (v:=.pointer (some ⟨R.r,0,none⟩)) rfl (by kernel_rfl) (by kernel_rfl) (by kernel_rfl) (fun _ _ _ h=>h) (Or.inl ⟨by rfl,fun w hS=>by go_simp⟩) hS ?_
   simp only [Act.put,List.getElem_toArray,List.getElem_cons_zero,List.getElem_cons_succ,List.setIfInBounds_toArray,List.set_cons_zero,List.set_cons_succ]
   refine wpAnyH_take (i:=1) (v:=.pointer (some ⟨R.r,0,none⟩)) rfl (by kernel_rfl) (by kernel_rfl) (by kernel_rfl) (fun _ _ _ h=>h) (Or.inl ⟨by rfl,fun w hS=>by go_simp⟩) hS ?_
   simp only [Act.put,List.getElem_toArray,List.getElem_cons_zero,List.getElem_cons_succ,List.setIfInBounds_toArray,List.set_cons_zero,List.set_cons_succ]
   refine wpAnyH_take (i:=2) (v:=.pointer (some ⟨R.r,0,none⟩)) rfl (by kernel_rfl) (by kernel_rfl) (by kernel_rfl) (fun _ _ _ h=>h) (Or.inl ⟨by rfl,fun w hS=>by go_simp⟩) hS ?_
   simp only [Act.put,List.getElem_toArray,List.getElem_cons_zero,List.getElem_cons_succ,List.setIfInBounds_toArray,List.set_cons_zero,List.set_cons_succ]
   refine wpAnyH_take (i:=3) (v:=.pointer (some ⟨R.r,4,none⟩)) rfl (by kernel_rfl) (by kernel_rfl) (by kernel_rfl) (fun _ _ _ h=>h) (Or.inl ⟨by rfl,fun w hS=>by go_simp⟩) hS ?_
   simp only [Act.put,List.getElem_toArray,List.getElem_cons_zero,List.getElem_cons_succ,List.setIfInBounds_toArray,List.set_cons_zero,List.set_cons_succ]
   refine wpAnyH_take (i:=4) (v:=.pointer (some ⟨s,3,none⟩)) rfl (by kernel_rfl) (by kernel_rfl) (by kernel_rfl) (fun _ _ _ h=>h) (Or.inl ⟨by rfl,fun w hS=>by go_simp⟩) hS ?_
   simp only [Act.put,List.getElem_toArray,List.getElem_cons_zero,List.getElem_cons_succ,List.setIfInBounds_toArray,List.set_cons_zero,List.set_cons_succ]
   refine wpAnyH_take (i:=5) (v:=.slice na L nc) rfl (by kernel_rfl) (by kernel_rfl) (by kernel_rfl) (fun _ _ _ h=>h) (Or.inl ⟨by rfl,fun w hS=>by have e:=hS.1;go_simp⟩) hS ?_
   simp only [Act.put,List.getElem_toArray,List.getElem_cons_zero,List.getElem_cons_succ,List.setIfInBounds_toArray,List.set_cons_zero,List.set_cons_succ]
   refine wpAnyH_take (i:=6) (v:=.pointer (some ⟨s,2,none⟩)) rfl (by kernel_rfl) (by kernel_rfl) (by kernel_rfl) (fun _ _ _ h=>h) (Or.inl ⟨by rfl,fun w hS=>by go_simp⟩) hS ?_
   simp only [Act.put,List.getElem_toArray,List.getElem_cons_zero,List.getElem_cons_succ,List.setIfInBounds_toArray,List.set_cons_zero,List.set_cons_succ]
   refine wpAnyH_take (i:=7) (v:=.slice (some ⟨g,off,none⟩) 1 kc) rfl (by kernel_rfl) (by kernel_rfl) (by kernel_rfl) (fun _ _ _ h=>h) (Or.inl ⟨by rfl,fun w hS=>by have e:=hS.2.1;go_simp⟩) hS ?_
   simp only [Act.put,List.getElem_toArray,List.getElem_cons_zero,List.getElem_cons_succ,List.setIfInBounds_toArray,List.set_cons_zero,List.set_cons_succ]
   refine wpAnyH_take (i:=8) (v:=.pointer (some ⟨g,off,none⟩)) rfl (by kernel_rfl) (by kernel_rfl) (by kernel_rfl) (fun _ _ _ h=>h) (Or.inl ⟨by rfl,fun w hS=>by go_simp⟩) hS ?_
   simp only [Act.put,List.getElem_toArray,List.getElem_cons_zero,List.getElem_cons_succ,List.setIfInBounds_toArray,List.set_cons_zero,List.set_cons_succ]
   refine wpAnyH_take (i:=9) (v:=.agg #[.int .i64 Z.kind,.string (bs Z.name),.slice ka0 Z.kids.length kc0,.slice na0 Z.names.length nc0,.int .i64 Z.at_]) rfl (by kernel_rfl) (by kernel_rfl) (by kernel_rfl) (fun _ _ _ h=>h) (Or.inl ⟨by rfl,fun w hS=>by obtain⟨_,_,e0,e1,e2,e3,e4⟩:=hS;go_simp⟩) hS ?_
   simp only [Act.put,List.getElem_toArray,List.getElem_cons_zero,List.getElem_cons_succ,List.setIfInBounds_toArray,List.set_cons_zero,List.set_cons_succ]
   refine wpAnyH_ready (rs:=[10]) (by kernel_rfl) (by simp) ?_
   refine ready_cons rfl (fun KK hKK=>?_) AllReadyH.nil
   refine⟨?_⟩
   go_simp
   refine (Hc.out w5.drew rfl rfl rfl rfl).mono ?_
   rintro e w4 ⟨hk4,hE⟩
   obtain⟨q5,tx5,sz5,hbv⟩:=H3.out
   rw [← Hsz.out] at hk4 hE q5 tx5 sz5 hbv
   have kn4:Kn No w w4:=(Kn.of_below (Hsz.out ▸ q5)).trans ((Kn.drewR No w5).trans (hk4.sub fun g hg=>.inl hg))
   cases r with
   | none=>exact absurd rfl Hr.out
   | some y =>
    cases y with
    | inl p =>
     obtain rfl:e=_:=hE
     exact⟨rfl,kn4,rfl⟩
    | inr a =>
     obtain⟨vT,rfl,ok,n4,hTm,hok,h4,hn4,hs4⟩:=hE
     obtain⟨ra,rc,qa,qc,sa,sc,rfl,_⟩:=hTm.form
     have hlt3:∀ i j,i<R.bv∨i=s→w4.cell? ⟨i,j,none⟩=w5.drew.cell? ⟨i,j,none⟩:=fun i j hi=>hk4.cell (p:=⟨i,j,none⟩) (hi.elim (fun h=>.inl (hs.old i h)) (fun h=>.inr (.inl h))) (by show i<w5.heap.size;omega)
     have hS4:BodyS s g off Z ka0 na0 na kc0 nc0 kc nc L w4:=by
      obtain⟨e0,e1,e2,e3,e4,e5,e6⟩:=hS
      have hgb:g<R.bv:=by omega
      exact⟨(hlt3 _ _ (.inr rfl)).trans e0,(hlt3 _ _ (.inr rfl)).trans e1,(hlt3 _ _ (.inl hgb)).trans e2,(hlt3 _ _ (.inl hgb)).trans e3,(hlt3 _ _ (.inl hgb)).trans e4,(hlt3 _ _ (.inl hgb)).trans e5,(hlt3 _ _ (.inl hgb)).trans e6⟩
     have tx4:Tx w4 (s+1) _ _ _ _ _ _:=Tx.kn (w:=w5.drew) tx5 hk4 (.inr (.inr rfl))
     have sz4:w5.heap.size≤w4.heap.size:=hk4.size
     have t8:=tx4.put (.int .i64 (a.kind:Nat)) (.int .i64 (a.n:Nat)) (.string (bs a.name)) (.slice ra a.r.length rc) (.slice qa a.kids.length qc) (.slice sa a.sys.length sc)
     have k8:Kn (fun g=>g≠s+1) w4 (pu6 w4 (s+1) (.int .i64 (a.kind:Nat)) (.int .i64 (a.n:Nat)) (.string (bs a.name)) (.slice ra a.r.length rc) (.slice qa a.kids.length qc) (.slice sa a.sys.length sc)):=pu6_kn
     obtain⟨h8,hs8⟩:=h4.off hs4 (x:=s+1) (.inl (.inr (.inr rfl))) (by omega) k8
     have hT8:=hTm.kn k8 fun g hg=>by have:w5.heap.size≤g:=(hok g hg).1;omega
     have kn8:Kn No w (pu6 w4 (s+1) (.int .i64 (a.kind:Nat)) (.int .i64 (a.n:Nat)) (.string (bs a.name)) (.slice ra a.r.length rc) (.slice qa a.kids.length qc) (.slice sa a.sys.length sc)):=kn4.trans ⟨k8.os,k8.tape,k8.output,k8.size,fun g hg hgl=>k8.block g (fun e=>by have:=hs.lt g hg;have:=Hsz.out;omega) hgl⟩
     have hSB8:BodyS s g off Z ka0 na0 na kc0 nc0 kc nc L (pu6 w4 (s+1) (.int .i64 (a.kind:Nat)) (.int .i64 (a.n:Nat)) (.string (bs a.name)) (.slice ra a.r.length rc) (.slice qa a.kids.length qc) (.slice sa a.sys.length sc)):=by
      have c8:∀ i j,i≠s+1→(pu6 w4 (s+1) (.int .i64 (a.kind:Nat)) (.int .i64 (a.n:Nat)) (.string (bs a.name)) (.slice ra a.r.length rc) (.slice qa a.kids.length qc) (.slice sa a.sys.length sc)).cell? ⟨i,j,none⟩=w4.cell? ⟨i,j,none⟩:=fun i j hi=>World.cell?_of_block (w:=w4) (a:=⟨i,j,none⟩) (pu6_block _ _ _ _ _ _ _ _ hi)
      obtain⟨e0,e1,e2,e3,e4,e5,e6⟩:=hS4
      exact⟨(c8 _ _ (by omega)).trans e0,(c8 _ _ (by omega)).trans e1,(c8 _ _ (by omega)).trans e2,(c8 _ _ (by omega)).trans e3,(c8 _ _ (by omega)).trans e4,(c8 _ _ (by omega)).trans e5,(c8 _ _ (by omega)).trans e6⟩
     obtain⟨c0,c1,c2,c3,c4,c5⟩:=tx4.cells
     have f0:=tx4.cold 0
     have f1:=tx4.cold 1
     have f2:=tx4.cold 2
     have f3:=tx4.cold 3
     have f4:=tx4.cold 4
     have f5:=tx4.cold 5
     have H8:Hid (Tx (pu6 w4 (s+1) (.int .i64 (a.kind:Nat)) (.int .i64 (a.n:Nat)) (.string (bs a.name)) (.slice ra a.r.length rc) (.slice qa a.kids.length qc) (.slice sa a.sys.length sc)) (s+1) _ _ _ _ _ _∧R.In (pu6 w4 (s+1) (.int .i64 (a.kind:Nat)) (.int .i64 (a.n:Nat)) (.string (bs a.name)) (.slice ra a.r.length rc) (.slice qa a.kids.length qc) (.slice sa a.sys.length sc)) σ n4∧R.Sh (pu6 w4 (s+1) (.int .i64 (a.kind:Nat)) (.int .i64 (a.n:Nat)) (.string (bs a.name)) (.slice ra a.r.length rc) (.slice qa a.kids.length qc) (.slice sa a.sys.length sc)) _∧TmIn ok (pu6 w4 (s+1) (.int .i64 (a.kind:Nat)) (.int .i64 (a.n:Nat)) (.string (bs a.name)) (.slice ra a.r.length rc) (.slice qa a.kids.length qc) (.slice sa a.sys.length sc)) a _∧Kn No w (pu6 w4 (s+1) (.int .i64 (a.kind:Nat)) (.int .i64 (a.n:Nat)) (.string (bs a.name)) (.slice ra a.r.length rc) (.slice qa a.kids.length qc) (.slice sa a.sys.length sc))∧(∀ g,ok g→w5.heap.size≤g∧g<w4.heap.size)∧n4≤n+(cK+2*L)∧s+2≤w5.heap.size∧BodyS s g off Z ka0 na0 na kc0 nc0 kc nc L (pu6 w4 (s+1) (.int .i64 (a.kind:Nat)) (.int .i64 (a.n:Nat)) (.string (bs a.name)) (.slice ra a.r.length rc) (.slice qa a.kids.length qc) (.slice sa a.sys.length sc))∧w4.heap.size≤(pu6 w4 (s+1) (.int .i64 (a.kind:Nat)) (.int .i64 (a.n:Nat)) (.string (bs a.name)) (.slice ra a.r.length rc) (.slice qa a.kids.length qc) (.slice sa a.sys.length sc)).heap.size):=⟨t8,h8,hs8,hT8,kn8,hok,hn4,sz5,hSB8,k8.size⟩
     clear t8 h8 hs8 hT8 kn8 k8 hSB8 hok hn4 tx4 hTm h4 hs4 kn4 hk4 q5 tx5 hlt3 hSB Hc H3
     refine hKK.out _ _ hS4 (fun hS=>?_)
     clear hKK KK
     try simp only [Act.put,List.getElem_toArray,List.getElem_cons_zero,List.getElem_cons_succ,List.setIfInBounds_toArray,List.set_cons_zero,List.set_cons_succ]
     refine wpAnyH_ready (rs:=[11]) (by kernel_rfl) (by simp) ?_
     refine ready_cons rfl (fun KK hKK=>?_) AllReadyH.nil
     refine⟨?_⟩
     go_simp
     obtain⟨t8,h8,hs8,hT8,kn8,hok,hn4,sz5,hSB8,sz8⟩:=H8.out
     unfold pu6 at t8 h8 hs8 hT8 kn8 hSB8 sz8
     refine hKK.out _ _ hSB8 (fun hS=>?_)
     clear hKK KK
     try simp only [Act.put,List.getElem_toArray,List.getElem_cons_zero,List.getElem_cons_succ,List.setIfInBounds_toArray,List.set_cons_zero,List.set_cons_succ]
     refine wpAnyH_done (by kernel_rfl) ?_ _
     have H9:Hid (_∧_∧_∧_∧_):=⟨t8,h8,hs8,hT8,kn8⟩
     obtain⟨w8,hw8⟩:∃ w8,w8=(((((w4.setCell ⟨s+1,0,none⟩ (.int .i64 (a.kind:Nat))).setCell ⟨s+1,1,none⟩ (.int .i64 (a.n:Nat))).setCell ⟨s+1,2,none⟩ (.string (bs a.name))).setCell ⟨s+1,3,none⟩ (.slice ra a.r.length rc)).setCell ⟨s+1,4,none⟩ (.slice qa a.kids.length qc)).setCell ⟨s+1,5,none⟩ (.slice sa a.sys.length sc):=⟨_,rfl⟩
     rw [← hw8] at t8 h8 hs8 hT8 kn8 sz8 ⊢
     clear H8 H9 hSB8 hS hS4 hw8 c0 c1 c2 c3 c4 c5 f0 f1 f2 f3 f4 f5
     obtain⟨d0,d1,d2,d3,d4,d5⟩:=t8.cells
     have HE:Hid (_∧_∧_∧_∧_∧_∧_∧_):=⟨h8,hs8,hT8,kn8,hok,hn4,sz5,sz8⟩
     clear h8 hs8 hT8 kn8 hok hn4 sz5 sz8 t8
     go_wp2
     obtain⟨h8,hs8,hT8,kn8,hok,hn4,sz5,sz8⟩:=HE.out
     refine⟨rfl,.agg #[.int .i64 (a.kind:Nat),.int .i64 (a.n:Nat),.string (bs a.name),.slice ra a.r.length rc,.slice qa a.kids.length qc,.slice sa a.sys.length sc],by simp only [results,Tryz.results46];simp [go_sem,d0,d1,d2,d3,d4,d5],kn8,_,rfl,ok,n4,hT8,fun g hg=>?_,h8,by have:=HL.out;omega,hs8.sub (fun g hg=>hg.elim (fun h=>.inl (.inl h)) (fun h=>.inr h)) (fun g hg=>.inl (hs.old g hg))⟩
     have:=hok g hg
     have:=Hsz.out
     omega
end Go.Proofs.YtahnbigkdfmpbaaGreatDoor
