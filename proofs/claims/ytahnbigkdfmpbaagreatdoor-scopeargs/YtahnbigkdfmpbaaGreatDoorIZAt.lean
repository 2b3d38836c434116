/- A word at a formula. -/
import Derived.Test.YtahnbigkdfmpbaaGreatDoorIZI
import Derived.Test.YtahnbigkdfmpbaaGreatDoorIZAppl
set_option linter.unusedVariables false
set_option linter.unusedSimpArgs false
namespace Go.Proofs.YtahnbigkdfmpbaaGreatDoor
open Go.RowKit Go.Maps Go.WideMaps
theorem owns_cl {w:World} {base:Nat} {v:Value} {l:List Cl} (h:F.OwnsC w base v l):ClRow (fun g=>base≤g∧g<w.heap.size) w l v:=by
 have hcap:∃ a cap,v=.slice a l.length cap∧l.length≤cap:=by
  obtain⟨_,⟨rfl,h0⟩ | ⟨g,cap,cur,rfl,hg,hh,hn,_⟩⟩:=id h
  ·exact⟨none,0,by rw [h0],by omega⟩
  ·exact⟨_,cap,rfl,by omega⟩
 obtain⟨a,cap,rfl,hc⟩:=hcap
 refine⟨a,cap,rfl,hc,fun j c hj=>?_⟩
 rcases h.form with ⟨_,rfl⟩|⟨g,cap2,e,hg,hgl,hC⟩
 ·simp at hj
 ·injection e with e1 e2 e3
  have:=hC j c hj
  exact⟨g,0,e1,⟨hg,hgl⟩,hgl,this.1,this.2⟩
theorem TmIn.withR {ok ok2:Nat→Prop} {w:World} {a:Tm} {l:List Cl} {ra qa sa:Option Addr} {rc qc sc:Nat} {vl:Value} (h:TmIn ok w a (.agg #[.int .i64 (a.kind:Nat),.int .i64 (a.n:Nat),.string (bs a.name),.slice ra a.r.length rc,.slice qa a.kids.length qc,.slice sa a.sys.length sc])) (hl:ClRow ok2 w l vl) :
  TmIn (fun g=>ok g∨ok2 g) w (withR a l) (.agg #[.int .i64 (a.kind:Nat),.int .i64 (a.n:Nat),.string (bs a.name),vl,.slice qa a.kids.length qc,.slice sa a.sys.length sc]):=by
 obtain⟨ra',rc',qa',qc',sa',sc',e,h1,h2,h3⟩:=(h.up (ok':=fun g=>ok g∨ok2 g) fun g hg=>.inl hg).form
 simp only [Value.agg.injEq,Array.mk.injEq,List.cons.injEq,Value.slice.injEq,and_true,true_and] at e
 obtain⟨⟨rfl,rfl⟩,⟨rfl,rfl⟩,rfl,rfl⟩:=e
 exact TmIn.mk a.kind a.n a.name l a.kids a.sys _ _ _ (hl.keep (Nat.le_refl _) (fun g hg=>.inr hg) (fun _ _ _=>rfl)) h2 h3
theorem Tx.put3 {w:World} {x:Nat} {o0 o1 o2 o3 o4 o5:Value} (h:Tx w x o0 o1 o2 o3 o4 o5) (v3:Value):Tx (w.setCell ⟨x,3,none⟩ v3) x o0 o1 o2 v3 o4 o5:=by
 unfold Tx at h ⊢
 simp [World.setCell,Array.getElem?_modify,h]
set_option maxRecDepth 100000 in
set_option maxHeartbeats 4000000 in
theorem atW_any (R:Rsv) (σ:Sg) (n m f c:Nat) (No:Nat→Prop) (t:Sx) (v:Value) (w:World) (term:Sg→Sx→Rz Tm) (h:R.In w σ n) (hs:R.Sh w No) (ht:SxIn m w t v) (hm:m≤R.bv) (hl2:t.kids.length=2) (hok:okF f 0 (kd t 0)=true) (hok1:okF f 1 (kd t 1)=true) (hb1:blk (kd t 1)≤1000000) (hf:f≤1000000) (hl:(spineR f (kd t 0)).1.name.length≤1000000)
  (hnd:(wdOf (spineR f (kd t 0)).1.name).1=21∨(wdOf (spineR f (kd t 0)).1.name).1=26) (hlen:(spineR f (kd t 0)).2.length=(wdOf (spineR f (kd t 0)).1.name).2.length) (hcA:cA (spineR f (kd t 0)).2.reverse≤c) (hC:CallP R term σ n m (spineR f (kd t 0)).2.reverse) (hn:n+c≤40000000) (hr:atR f term σ t≠none) :
  Calls Tryz.prog 48 #[R.ptr,v] w (OutT R σ n No c (atR f term σ t) w):=by
 obtain⟨ka,kc,na,nc,rfl,hN,hK⟩:=ht.form
 have hmw:m≤w.heap.size:=by have:=h.lt;have:=h.rlt;omega
 obtain⟨g,off,ka0,kc0,na0,nc0,rfl,hg,hz0,z0,z1,z2,z3,z4⟩:=hK.at (kd_at (t:=t) (j:=0) (by omega))
 obtain⟨g',off',ka1,kc1,na1,nc1,e,hg',hz1,v0,v1,v2,v3,v4⟩:=hK.at (kd_at (t:=t) (j:=1) (by omega))
 obtain⟨rfl,rfl⟩:g=g'∧off=off':=by
  injection e with e
  injection e with e1 e2
  exact⟨e1,e2⟩
 clear e hg'
 simp only [Nat.one_mul,Nat.zero_mul,Nat.add_zero,Nat.add_assoc,Nat.reduceAdd] at z0 z1 z2 z3 z4 v0 v1 v2 v3 v4
 rw [hl2] at ht ⊢
 generalize hT0:kd t 0=T0 at *
 generalize hT1:kd t 1=T1 at *
 obtain⟨w1,hw1⟩:∃ w1,w1=w.alloc (.cells #[.int .i64 t.kind,.string (bs t.name),.slice (some ⟨g,off,none⟩) 2 kc,.slice na t.names.length nc,.int .i64 t.at_] 26):=⟨_,rfl⟩
 have q:Below w.heap.size w w1:=by rw [hw1];exact below_alloc _ _
 have bx:Bx w1 w.heap.size (.int .i64 t.kind) (.string (bs t.name)) (.slice (some ⟨g,off,none⟩) 2 kc) (.slice na t.names.length nc) (.int .i64 t.at_):=by rw [hw1];exact bx_new _ _ _ _ _ _
 have s1:w1.heap.size=w.heap.size+1:=by rw [hw1];simp
 obtain⟨w2,hw2⟩:∃ w2,w2=w1.alloc (.cells #[.int .i64 0,.int .i64 0,.string ⟨#[]⟩,.slice none 0 0,.slice none 0 0,.slice none 0 0] 37):=⟨_,rfl⟩
 have q2:Below w1.heap.size w1 w2:=by rw [hw2];exact below_alloc _ _
 have tx:Tx w2 (w.heap.size+1) (.int .i64 0) (.int .i64 0) (.string ⟨#[]⟩) (.slice none 0 0) (.slice none 0 0) (.slice none 0 0):=by rw [hw2,← s1];exact tx_new _ _ _ _ _ _ _
 have s2:w2.heap.size=w.heap.size+2:=by rw [hw2];simp [s1]
 have qq:Below w.heap.size w w2:=q.trans (q2.mono q.size)
 have bx2:=bx.blw q2
 rw [hw1] at hw2
 have cS:=spine_any f m T0 _ w2 (hz0.keep (qq.mono hmw)) (by omega) hok hf
 obtain⟨hd,hhd⟩:∃ hd,hd=(spineR f T0).1:=⟨_,rfl⟩
 obtain⟨ar,har⟩:∃ ar,ar=(spineR f T0).2.reverse:=⟨_,rfl⟩
 obtain⟨r,hrr⟩:∃ r,r=atR f term σ t:=⟨_,rfl⟩
 have hral:ar.length=(spineR f T0).2.length:=by rw [har,List.length_reverse]
 rw [← hrr] at hr ⊢
 unfold atR at hrr
 rw [hT0,hT1,if_pos ⟨hnd,hlen⟩,← har,← hhd] at hrr
 rw [← hral,← hhd] at hlen
 rw [← hhd] at hl hnd
 rw [← har] at hcA hC
 rw [← hhd,← har] at cS
 obtain⟨x0,x1,x2,x3,x4⟩:=bx2.cells
 have y0:=(qq.cell (p:=⟨g,off,none⟩) (by show g<_;omega)).trans z0
 have y1:=(qq.cell (p:=⟨g,off+1,none⟩) (by show g<_;omega)).trans z1
 have y2:=(qq.cell (p:=⟨g,off+2,none⟩) (by show g<_;omega)).trans z2
 have y3:=(qq.cell (p:=⟨g,off+3,none⟩) (by show g<_;omega)).trans z3
 have y4:=(qq.cell (p:=⟨g,off+4,none⟩) (by show g<_;omega)).trans z4
 have HV:Hid (w.cell? ⟨g,off+5,none⟩=some (.int .i64 T1.kind)∧w.cell? ⟨g,off+6,none⟩=some (.string (bs T1.name))∧w.cell? ⟨g,off+7,none⟩=some (.slice ka1 T1.kids.length kc1)∧w.cell? ⟨g,off+8,none⟩=some (.slice na1 T1.names.length nc1)∧w.cell? ⟨g,off+9,none⟩=some (.int .i64 T1.at_)):=⟨v0,v1,v2,v3,v4⟩
 have Hs:Hid (w2=_∧Bx w2 w.heap.size _ _ _ _ _∧Tx w2 (w.heap.size+1) _ _ _ _ _ _∧w2.heap.size=w.heap.size+2∧Below w.heap.size w w2):=⟨hw2,bx2,tx,s2,qq⟩
 rw [hw2] at cS x0 x1 x2 x3 x4 y0 y1 y2 y3 y4
 have HRR:Hid (r=_):=hrr
 have HHD:Hid (hd=_∧ar=_):=⟨hhd,har⟩
 unfold Rsv.ptr
 clear q bx s1 hw1 q2 tx s2 qq bx2 hw2 hrr hhd har hral hT0 hT1 z0 z1 z2 z3 z4 v0 v1 v2 v3 v4 hK hN
 go_enter Tryz.func48,Tryz.ntmps48
 go_wp2_with fail
 refine cS.mono ?_
 rintro e w3 ⟨vf,va,rfl,hS3,hA3,hb3⟩
 obtain⟨hw2,bx2,tx,s2,qq⟩:=Hs.out
 rw [← hw2] at hb3 hA3
 have hlo2:w.heap.size≤w2.heap.size:=qq.size
 have q3:Below w.heap.size w w3:=qq.trans (hb3.mono qq.size)
 have bx3:=bx2.blw hb3
 have tx3:=tx.blw hb3
 have sz3:w.heap.size+2≤w3.heap.size:=by have:=hb3.size;omega
 have ht3:=ht.keep (q3.mono hmw)
 clear x0 x1 x2 x3 x4 y0 y1 y2 y3 y4 hw2 bx2 tx s2 qq hb3 cS Hs
 obtain⟨fka,fkc,fna,fnc,rfl,_,_⟩:=hS3.form
 obtain⟨w4,hw4⟩:∃ w4,w4=w3.alloc (.cells #[.int .i64 hd.kind,.string (bs hd.name),.slice fka hd.kids.length fkc,.slice fna hd.names.length fnc,.int .i64 hd.at_] 26):=⟨_,rfl⟩
 obtain⟨s,hsz⟩:∃ s,s=w.heap.size:=⟨_,rfl⟩
 obtain⟨z,hz⟩:∃ z,z=w3.heap.size:=⟨_,rfl⟩
 have q4:Below w3.heap.size w3 w4:=by rw [hw4];exact below_alloc _ _
 have fx4:Bx w4 w3.heap.size (.int .i64 hd.kind) (.string (bs hd.name)) (.slice fka hd.kids.length fkc) (.slice fna hd.names.length fnc) (.int .i64 hd.at_):=by rw [hw4];exact bx_new _ _ _ _ _ _
 have z4:w4.heap.size=w3.heap.size+1:=by rw [hw4];simp
 have Q4:Below w.heap.size w w4:=q3.trans (q4.mono q3.size)
 have bx4:=bx3.blw q4
 have tx4:=tx3.blw q4
 obtain⟨aa,ac,rfl,hac⟩:∃ a cap,va=.slice a ar.length cap∧ar.length≤cap:=let ⟨a,cap,e,e2,_⟩:=hA3;⟨a,cap,e,e2⟩
 have A4:AR2 m w.heap.size w3.heap.size w4 ar aa:=(hA3.two (lo2:=w.heap.size) hlo2).blw (Nat.le_refl _) (by omega) q4
 have ht4:=ht3.keep (q4.mono (by omega))
 have S4:=hS3.keep (q4.mono (by omega))
 have h4:=h.keep Q4
 clear hA3 hS3 ht3 tx3 bx3 q3 q4
 rw [← hz] at fx4 z4
 rw [← hsz] at bx4 tx4 sz3 Q4
 rw [← hsz,← hz] at A4
 have H4:Hid (w4=_∧Bx w4 s _ _ _ _ _∧Tx w4 (s+1) _ _ _ _ _ _∧AR2 m s z w4 ar aa∧SxIn m w4 t _∧SxIn m w4 hd _∧R.In w4 σ n∧Bx w4 z _ _ _ _ _∧w4.heap.size=z+1∧Below s w w4∧s+2≤w3.heap.size∧s=w.heap.size∧z=w3.heap.size):=⟨hw4,bx4,tx4,A4,ht4,S4,h4,fx4,z4,Q4,sz3,hsz,hz⟩
 clear bx4 tx4 A4 ht4 S4 h4 fx4 z4 Q4 sz3 hw4 hsz hz
 go_wp2_with fail
 obtain⟨hw4,bx4,tx4,A4,ht4,S4,h4,fx4,z4,Q4,sz3,hsz,hz⟩:=H4.out
 rw [← hw4]
 simp only [← hsz,← hz]
 obtain⟨vt,hvt,hlk⟩:=h4.wd.lookB hd.name hl false
 obtain⟨ta,rfl⟩:∃ ta,vt=.slice ta (wdOf hd.name).2.length (wdOf hd.name).2.length:=let ⟨a,e,_⟩:=hvt;⟨a,e⟩
 simp only [Bool.false_eq_true,if_false] at hlk
 have hbw:R.bw<w4.heap.size:=by have:=h4.wd.1;have:=h4.wd.2.1;omega
 have hrl:=h4.rlt
 obtain⟨c0,_⟩:=h4.c
 obtain⟨_,f1,_⟩:=fx4.cells
 have hzl:z<w4.heap.size:=fx4.lt
 generalize hkk:(wdOf hd.name).1=kk at *
 generalize htk:(wdOf hd.name).2=tk at *
 have HA:Hid (∀ w9,Below w4.heap.size w4 w9→w9.cell? ⟨R.r,0,none⟩=some (.map (some R.bw))∧w9.cell? ⟨z,1,none⟩=some (.string (bs hd.name))∧Sem.run Tryz.prog (Instr.lookup 71 (.map (some R.bw)) (.string (bs hd.name)) false) w9=.ok (.agg #[.int .i64 (kk:Nat),.slice ta tk.length tk.length]) w9):=fun w9 hb=>⟨(hb.cell (p:=⟨R.r,0,none⟩) hrl).trans c0,(hb.cell (p:=⟨z,1,none⟩) hzl).trans f1,hlk w9 (hb.block _ hbw)⟩
 have HT:Hid (TkIn R.bw R.bv w4 tk (.slice ta tk.length tk.length)):=hvt
 have HR:Hid (r=(callR term σ kk tk ar []).bnd fun a=>(fmR σ f T1).bnd fun l=>some (.inr (withR a l))):=HRR.out
 have Hlen:Hid (ar.length=tk.length):=hlen
 have Hnd:Hid (kk=21∨kk=26):=hnd
 clear hw4 bx4 tx4 A4 ht4 S4 h4 fx4 z4 Q4 sz3 hsz hz hvt hlk c0 f1 hkk htk hbw hrl hzl HRR hlen hnd
 refine wp_region_held_drew (S:=fun w9=>Below w4.heap.size w4 w9) (by kernel_rfl) (Below.drew (Below.refl _ _)) (fun hS=>?_)
 refine wpAnyH_take (i:=0) (v:=.pointer (some ⟨R.r,0,none⟩)) rfl (by kernel_rfl) (by kernel_rfl) (by kernel_rfl) (fun _ _ _ h=>h) (Or.inl ⟨by rfl,fun w hS=>by go_simp⟩) hS ?_
 simp only [Act.put,List.getElem_toArray,List.getElem_cons_zero,List.getElem_cons_succ,List.setIfInBounds_toArray,List.set_cons_zero,List.set_cons_succ]
 refine wpAnyH_take (i:=1) (v:=.pointer (some ⟨R.r,0,none⟩)) rfl (by kernel_rfl) (by kernel_rfl) (by kernel_rfl) (fun _ _ _ h=>h) (Or.inl ⟨by rfl,fun w hS=>by go_simp⟩) hS ?_
 simp only [Act.put,List.getElem_toArray,List.getElem_cons_zero,List.getElem_cons_succ,List.setIfInBounds_toArray,List.set_cons_zero,List.set_cons_succ]
 refine wpAnyH_take (i:=2) (v:=.pointer (some ⟨R.r,0,none⟩)) rfl (by kernel_rfl) (by kernel_rfl) (by kernel_rfl) (fun _ _ _ h=>h) (Or.inl ⟨by rfl,fun w hS=>by go_simp⟩) hS ?_
 simp only [Act.put,List.getElem_toArray,List.getElem_cons_zero,List.getElem_cons_succ,List.setIfInBounds_toArray,List.set_cons_zero,List.set_cons_succ]
 refine wpAnyH_take (i:=3) (v:=.map (some R.bw)) rfl (by kernel_rfl) (by kernel_rfl) (by kernel_rfl) (fun _ _ _ h=>h) (Or.inl ⟨by rfl,fun w hS=>by have e:=(HA.out w hS).1;go_simp⟩) hS ?_
 simp only [Act.put,List.getElem_toArray,List.getElem_cons_zero,List.getElem_cons_succ,List.setIfInBounds_toArray,List.set_cons_zero,List.set_cons_succ]
 refine wpAnyH_take (i:=4) (v:=.pointer (some ⟨z,1,none⟩)) rfl (by kernel_rfl) (by kernel_rfl) (by kernel_rfl) (fun _ _ _ h=>h) (Or.inl ⟨by rfl,fun w hS=>by go_simp⟩) hS ?_
 simp only [Act.put,List.getElem_toArray,List.getElem_cons_zero,List.getElem_cons_succ,List.setIfInBounds_toArray,List.set_cons_zero,List.set_cons_succ]
 refine wpAnyH_take (i:=5) (v:=.string (bs hd.name)) rfl (by kernel_rfl) (by kernel_rfl) (by kernel_rfl) (fun _ _ _ h=>h) (Or.inl ⟨by rfl,fun w hS=>by have e:=(HA.out w hS).2.1;go_simp⟩) hS ?_
 simp only [Act.put,List.getElem_toArray,List.getElem_cons_zero,List.getElem_cons_succ,List.setIfInBounds_toArray,List.set_cons_zero,List.set_cons_succ]
 refine wpAnyH_take (i:=6) (v:=.agg #[.int .i64 (kk:Nat),.slice ta tk.length tk.length]) rfl (by kernel_rfl) (by kernel_rfl) (by kernel_rfl) (fun _ _ _ h=>h) (Or.inl ⟨by rfl,fun w hS=>by have e:=(HA.out w hS).2.2;go_simp⟩) hS ?_
 simp only [Act.put,List.getElem_toArray,List.getElem_cons_zero,List.getElem_cons_succ,List.setIfInBounds_toArray,List.set_cons_zero,List.set_cons_succ]
 refine wpAnyH_ready (rs:=[7]) (by kernel_rfl) (by simp) ?_
 refine ready_cons rfl (fun KK hKK=>?_) AllReadyH.nil
 refine⟨?_⟩
 go_simp
 have hS2:Below w4.heap.size w4 (w4.alloc (.cells #[.int .i64 0,.slice none 0 0] 97)).drew:=Below.drew (below_alloc w4 _)
 have hW0:(w4.alloc (.cells #[.int .i64 0,.slice none 0 0] 97)).drew.heap[w4.heap.size]? = some (.cells #[.int .i64 0,.slice none 0 0] 97 (0,0)):=heap_alloc_new w4 _
 obtain⟨p,hp⟩:∃ p,p=w4.heap.size:=⟨_,rfl⟩
 obtain⟨w5,hw5⟩:∃ w5,w5=(w4.alloc (.cells #[.int .i64 0,.slice none 0 0] 97)).drew:=⟨_,rfl⟩
 have hsz5:w5.heap.size=w4.heap.size+1:=by rw [hw5];simp [World.drew]
 rw [← hw5] at hS2 hW0 ⊢
 simp only [← hp]
 rw [← hp] at hW0
 have Hp:Hid (p=w4.heap.size∧w5.heap.size=w4.heap.size+1∧Below w4.heap.size w4 w5):=⟨hp,hsz5,hS2⟩
 clear hS hw5 hp hsz5
 refine hKK.out _ _ hS2 (fun hS=>?_)
 clear hKK KK
 try simp only [Act.put,List.getElem_toArray,List.getElem_cons_zero,List.getElem_cons_succ,List.setIfInBounds_toArray,List.set_cons_zero,List.set_cons_succ]
 refine wpAnyH_ready (rs:=[8]) (by kernel_rfl) (by simp) ?_
 refine ready_cons rfl (fun KK hKK=>?_) AllReadyH.nil
 refine⟨?_⟩
 have y0:w5.cell? ⟨p,0,none⟩=some (.int .i64 0):=by simp [World.cell?,hW0]
 have y1:w5.cell? ⟨p,1,none⟩=some (.slice none 0 0):=by simp [World.cell?,hW0]
 have g0:w5.frozen? ⟨p,0,none⟩=false:=by simp [World.frozen?,hW0]
 have g1:w5.frozen? ⟨p,1,none⟩=false:=by simp [World.frozen?,hW0]
 clear hS2
 go_simp
 have hWx:Wx ((w5.setCell ⟨p,0,none⟩ (.int .i64 (kk:Nat))).setCell ⟨p,1,none⟩ (.slice ta tk.length tk.length)) p kk (.slice ta tk.length tk.length):=Wx.put hW0 kk _
 have hB6:Below w4.heap.size w4 ((w5.setCell ⟨p,0,none⟩ (.int .i64 (kk:Nat))).setCell ⟨p,1,none⟩ (.slice ta tk.length tk.length)):=by
  obtain⟨hp,_,hb⟩:=Hp.out
  have k5:Kn (fun g=>g<w4.heap.size) w4 w5:=Kn.of_below hb
  exact ((k5.setCell (p:=⟨p,0,none⟩) (.inr (by show _≤p;omega)) _).setCell (p:=⟨p,1,none⟩) (.inr (by show _≤p;omega)) _).below (fun g h=>h) (Nat.le_refl _)
 obtain⟨w6,hw6⟩:∃ w6,w6=((w5.setCell ⟨p,0,none⟩ (.int .i64 (kk:Nat))).setCell ⟨p,1,none⟩ (.slice ta tk.length tk.length)):=⟨_,rfl⟩
 rw [← hw6] at hWx hB6 ⊢
 clear hS hw6 y0 y1 g0 g1 hW0
 refine hKK.out _ _ hB6 (fun hS=>?_)
 clear hKK KK
 try simp only [Act.put,List.getElem_toArray,List.getElem_cons_zero,List.getElem_cons_succ,List.setIfInBounds_toArray,List.set_cons_zero,List.set_cons_succ]
 refine wpAnyH_done (by kernel_rfl) ?_ _
 have F6:ApF m s z p R.bw R.bv kk t hd ar tk (some ⟨g,off,none⟩) na fka fna aa ta kc nc fkc fnc w6:=by
  obtain⟨hw4,bx4,tx4,A4,ht4,S4,h4,fx4,z4,Q4,sz3,hsz,hz⟩:=H4.out
  obtain⟨hp,_,_⟩:=Hp.out
  have l1:R.bv≤w.heap.size:=by have:=h.lt;have:=h.rlt;omega
  rw [← hl2] at bx4 ht4
  exact⟨bx4.blw hB6,tx4.blw hB6,fx4.blw hB6,hWx,A4.blw (by omega) (by omega) hB6,ht4.keep (hB6.mono (by omega)),S4.keep (hB6.mono (by omega)),HT.out.blw (hB6.mono (by omega)),hm,by omega,by omega,by omega,hWx.lt⟩
 have Q6:Below w.heap.size w w6:=by
  obtain⟨hw4,bx4,tx4,A4,ht4,S4,h4,fx4,z4,Q4,sz3,hsz,hz⟩:=H4.out
  rw [← hsz]
  exact Q4.trans (hB6.mono (by have:=Q4.size;omega))
 have hszs:s=w.heap.size:=H4.out.2.2.2.2.2.2.2.2.2.2.2.1
 have Hsz:Hid (s=w.heap.size):=hszs
 clear H4 Hp HT HA hB6 hWx hS hszs
 obtain⟨w7,hw7⟩:∃ w7,w7=w6.alloc (.cells #[.int .i64 0,.int .i64 0,.string ⟨#[]⟩,.slice none 0 0,.slice none 0 0,.slice none 0 0] 37):=⟨_,rfl⟩
 have q7:Below w6.heap.size w6 w7:=by rw [hw7];exact below_alloc _ _
 have t7:Tx w7 w6.heap.size (.int .i64 0) (.int .i64 0) (.string ⟨#[]⟩) (.slice none 0 0) (.slice none 0 0) (.slice none 0 0):=by rw [hw7];exact tx_new _ _ _ _ _ _ _
 have s7:w7.heap.size=w6.heap.size+1:=by rw [hw7];simp
 have hp6:p<w6.heap.size:=F6.lt.2.2.2.2
 have F7:=F6.blw q7
 have Q7:Below w.heap.size w w7:=Q6.trans (q7.mono Q6.size)
 have cN:=needs_any kk ta tk.length tk.length w7
 rw [decide_eq_true Hnd.out] at cN
 obtain⟨p0,p1⟩:=F7.wx.cells
 have H7:Hid (w7=_∧Tx w7 w6.heap.size _ _ _ _ _ _∧w7.heap.size=w6.heap.size+1∧ApF m s z p R.bw R.bv kk t hd ar tk (some ⟨g,off,none⟩) na fka fna aa ta kc nc fkc fnc w7∧Below w.heap.size w w7∧p<w6.heap.size):=⟨hw7,t7,s7,F7,Q7,hp6⟩
 rw [hw7] at cN p0 p1
 clear hw7 q7 t7 s7 F7 Q7 F6 Q6 hp6
 go_wp2_with fail
 refine cN.mono ?_
 rintro e w8 ⟨rfl,hb8⟩
 obtain⟨hw7,t7,s7,F7,Q7,hp6⟩:=H7.out
 rw [← hw7] at hb8
 obtain⟨x,hx⟩:∃ x,x=w6.heap.size:=⟨_,rfl⟩
 have F8:=F7.blw hb8
 have t8:=t7.blw hb8
 have Q8:Below w.heap.size w w8:=Q7.trans (hb8.mono Q7.size)
 have s8:x<w8.heap.size:=by have:=hb8.size;omega
 have hbv:R.bv≤x:=by have:=F7.lt;omega
 have hpx:p<x∧s≤x∧s+1<x:=by have:=F7.lt;omega
 rw [← hx] at t8
 simp only [← hx]
 clear p0 p1 cN hb8 hw7 t7 s7 F7 Q7 hp6 H7 hx
 have h8:=h.keep Q8
 have hs8:R.Sh w8 (fun g=>No g∨(s≤g∧g<w8.heap.size)):=hs.more h Q8 fun g hg=>⟨by have:=Hsz.out;omega,hg.2⟩
 have hl8:=F8.lt
 have hle:=Hlen.out
 have htk:ar.take tk.length=ar:=by rw [← hle];exact List.take_length
 have hrc:callR term σ kk tk ar []≠none:=fun e=>hr (by rw [HR.out,e];rfl)
 have cC:=hC kk tk s z aa ta ac _ w8 h8 hs8 F8.tk (F8.ar.take _) (by omega) (by omega) (fun g a1 a2=>.inr (by omega)) (by omega) (by rw [htk];exact hrc)
 rw [htk] at cC
 have hae:((ar.length:Nat):Int)=(tk.length:Nat):=by rw [hle]
 obtain⟨p0,p1⟩:=F8.wx.cells
 have H8:Hid (ApF m s z p R.bw R.bv kk t hd ar tk (some ⟨g,off,none⟩) na fka fna aa ta kc nc fkc fnc w8∧Tx w8 x _ _ _ _ _ _∧Below w.heap.size w w8∧x<w8.heap.size∧R.In w8 σ n∧R.Sh w8 (fun g=>No g∨(s≤g∧g<w8.heap.size))):=⟨F8,t8,Q8,s8,h8,hs8⟩
 unfold Rsv.ptr at cC
 clear F8 t8 Q8 s8 h8 hs8 hl8 htk hrc hC hle Hlen Hnd
 go_wp2_with fail
 refine cC.mono ?_
 rintro e wq ⟨kn8,hE⟩
 obtain⟨F8,t8,Q8,s8,h8,hs8⟩:=H8.out
 obtain⟨r8,h8r⟩:∃ r8,r8=callR term σ kk tk ar []:=⟨_,rfl⟩
 rw [← h8r] at HR hE
 clear h8r
 cases r8 with
 | none=>exact absurd HR.out hr
 | some yy =>
  cases yy with
  | inl p =>
   have hRR:Hid (r=some (.inl p)):=HR.out
   obtain rfl:e=_:=hE
   refine⟨rfl,(Kn.of_below Q8).trans (kn8.sub fun g hg=>.inl hg),?_⟩
   rw [hRR.out]
   rfl
  | inr a =>
   have HRa:Hid (r=(fmR σ f T1).bnd fun l=>some (.inr (withR a l))):=HR.out
   obtain⟨vT,rfl,ok,n8,hTm,hok8,hq8,hn8,hsq8⟩:=hE
   obtain⟨ra,rc,qa,qc,sa,sc,rfl,_⟩:=hTm.form
   have tx8:=t8.kn kn8 (.inr (by omega))
   have t9:=tx8.put (.int .i64 (a.kind:Nat)) (.int .i64 (a.n:Nat)) (.string (bs a.name)) (.slice ra a.r.length rc) (.slice qa a.kids.length qc) (.slice sa a.sys.length sc)
   have k9:Kn (fun g=>g≠x) wq (pu6 wq x (.int .i64 (a.kind:Nat)) (.int .i64 (a.n:Nat)) (.string (bs a.name)) (.slice ra a.r.length rc) (.slice qa a.kids.length qc) (.slice sa a.sys.length sc)):=pu6_kn
   obtain⟨h9,hs9⟩:=hq8.off hsq8 (x:=x) (.inl (.inr (by omega))) hbv k9
   have hT9:=hTm.kn k9 fun g hg=>by have:w8.heap.size≤g:=(hok8 g hg).1;omega
   have I9:ApI R σ n8 w8.heap.size x (fun g=>No g∨(s≤g∧g<w8.heap.size)) w8 a ra qa sa rc qc sc ok (pu6 wq x (.int .i64 (a.kind:Nat)) (.int .i64 (a.n:Nat)) (.string (bs a.name)) (.slice ra a.r.length rc) (.slice qa a.kids.length qc) (.slice sa a.sys.length sc)):=⟨t9,hT9,fun g hg=>⟨(hok8 g hg).1,by have:=(hok8 g hg).2;have:=k9.size;omega⟩,h9,hs9,(kn8.sub fun g hg=>hg.1).trans (k9.sub fun g hg=>hg.2)⟩
   obtain⟨c0,c1,c2,c3,c4,c5⟩:=tx8.cells
   have g0:=tx8.cold 0
   have g1:=tx8.cold 1
   have g2:=tx8.cold 2
   have g3:=tx8.cold 3
   have g4:=tx8.cold 4
   have g5:=tx8.cold 5
   have H9:Hid (ApI R σ n8 w8.heap.size x (fun g=>No g∨(s≤g∧g<w8.heap.size)) w8 a ra qa sa rc qc sc ok (pu6 wq x (.int .i64 (a.kind:Nat)) (.int .i64 (a.n:Nat)) (.string (bs a.name)) (.slice ra a.r.length rc) (.slice qa a.kids.length qc) (.slice sa a.sys.length sc))):=I9
   clear I9 hT9 t9 k9 h9 hs9 tx8 hTm hq8 hsq8 kn8 hok8 HR p0 p1 cC
   go_upto_region 8 with fail
   unfold pu6 at H9
   obtain⟨w9,hw9⟩:∃ w9,w9=(((((wq.setCell ⟨x,0,none⟩ (.int .i64 (a.kind:Nat))).setCell ⟨x,1,none⟩ (.int .i64 (a.n:Nat))).setCell ⟨x,2,none⟩ (.string (bs a.name))).setCell ⟨x,3,none⟩ (.slice ra a.r.length rc)).setCell ⟨x,4,none⟩ (.slice qa a.kids.length qc)).setCell ⟨x,5,none⟩ (.slice sa a.sys.length sc):=⟨_,rfl⟩
   rw [← hw9] at H9 ⊢
   clear hw9 c0 c1 c2 c3 c4 c5 g0 g1 g2 g3 g4 g5
   have F9:=F8.kn H9.out.kn (fun g hg=>hg.elim (fun hg=>⟨.inl (hs.old g hg),by omega⟩) (fun hg=>⟨.inr (by omega),by omega⟩))
   have B9:Below m w w9:=(Q8.mono hmw).trans (H9.out.kn.below (fun g hg=>⟨.inl (hs.old g (by omega)),by omega⟩) (by have:=Q8.size;omega))
   have hz9:=hz1.keep B9
   obtain⟨v0,v1,v2,v3,v4⟩:=HV.out
   have u0:=(B9.cell (p:=⟨g,off+5,none⟩) (by show g<_;omega)).trans v0
   have u1:=(B9.cell (p:=⟨g,off+6,none⟩) (by show g<_;omega)).trans v1
   have u2:=(B9.cell (p:=⟨g,off+7,none⟩) (by show g<_;omega)).trans v2
   have u3:=(B9.cell (p:=⟨g,off+8,none⟩) (by show g<_;omega)).trans v3
   have u4:=(B9.cell (p:=⟨g,off+9,none⟩) (by show g<_;omega)).trans v4
   obtain⟨b0,b1,b2,b3,b4⟩:=F9.bx.cells
   rw [hl2] at b2
   have hrf:fmR σ f T1≠none:=fun e=>hr (by rw [HRa.out,e];rfl)
   have hl9:=F9.lt
   have cF:=fm_any R σ n8 m f T1 _ w9 H9.out.rin hz9 (by omega) hok1 hb1 hrf
   unfold Rsv.ptr at cF
   have HF:Hid (ApF m s z p R.bw R.bv kk t hd ar tk (some ⟨g,off,none⟩) na fka fna aa ta kc nc fkc fnc w9∧Below w.heap.size w w8∧x<w8.heap.size):=⟨F9,Q8,s8⟩
   clear v0 v1 v2 v3 v4 F8 F9 Q8 s8 h8 hs8 t8 H8 hz9 hz1 hz0 B9 hrf hl9 HV
   go_wp2_with fail
   refine cF.mono ?_
   rintro e w10 ⟨hE,hb10⟩
   obtain⟨F9,Q8,s8⟩:=HF.out
   have I9:=H9.out
   have kn9:Kn No w w9:=(Kn.of_below Q8).trans (I9.kn.sub fun g hg=>⟨.inl hg,fun e=>by have:=hs.lt g hg;have:=Hsz.out;omega⟩)
   obtain⟨rf,hrf⟩:∃ rf,rf=fmR σ f T1:=⟨_,rfl⟩
   rw [← hrf] at HRa hE
   clear hrf
   cases rf with
   | none=>exact absurd HRa.out hr
   | some yf =>
    cases yf with
    | inl p =>
     have hRR:Hid (r=some (.inl p)):=HRa.out
     obtain rfl:e=_:=hE
     refine⟨rfl,kn9.trans (Kn.of_below hb10),?_⟩
     rw [hRR.out]
     rfl
    | inr l =>
     have HRl:Hid (r=some (.inr (withR a l))):=HRa.out
     obtain⟨vl,rfl,hO⟩:=hE
     have hCl:=owns_cl hO
     obtain⟨la,lc,rfl⟩:=owns_form hO
     have tx10:=I9.tx.blw hb10
     have tm10:=(I9.tm.blw hb10).withR hCl
     have tx11:=tx10.put3 (.slice la l.length lc)
     have k11:Kn (fun g=>g≠x) w10 (w10.setCell ⟨x,3,none⟩ (.slice la l.length lc)):=(Kn.refl _ w10).setCell (p:=⟨x,3,none⟩) (.inl fun h=>h rfl) _
     have in10:=I9.rin.keep hb10
     have sh10:R.Sh w10 (fun g=>(No g∨(s≤g∧g<w8.heap.size))∨(ok g∨(w9.heap.size≤g∧g<w10.heap.size))):=(I9.sh.more (ok:=fun g=>w9.heap.size≤g∧g<w10.heap.size) I9.rin hb10 (fun g hg=>hg)).sub (fun g hg=>hg.elim (fun h=>.inl (.inl h)) (fun h=>h.elim (fun h=>.inl (.inr h)) .inr)) (fun g hg=>.inl (.inl (hs.old g hg)))
     obtain⟨h11,hs11⟩:=in10.off sh10 (x:=x) (.inl (.inr (by omega))) hbv k11
     have hz9:w8.heap.size≤w9.heap.size:=I9.kn.size
     have hokn:∀ g,(ok g∨(w9.heap.size≤g∧g<w10.heap.size))→w8.heap.size≤g∧g<w10.heap.size:=fun g hg=>by
      have:=hb10.size
      rcases hg with hg|hg
      ·have:=I9.okb g hg;omega
      ·omega
     have tm11:=tm10.kn k11 fun g hg=>by have:=(hokn g hg).1;omega
     have F10:=F9.blw hb10
     have F11:=F10.kn k11 (fun g hg=>by have:=F9.lt;omega)
     have kn11:Kn No w (w10.setCell ⟨x,3,none⟩ (.slice la l.length lc)):=(kn9.trans (Kn.of_below hb10)).trans ⟨k11.os,k11.tape,k11.output,k11.size,fun g hg hgl=>k11.block g (fun e=>by have:=hs.lt g hg;have:=Hsz.out;omega) hgl⟩
     have H11:Hid (Tx (w10.setCell ⟨x,3,none⟩ (.slice la l.length lc)) x _ _ _ _ _ _∧R.In (w10.setCell ⟨x,3,none⟩ (.slice la l.length lc)) σ n8∧R.Sh (w10.setCell ⟨x,3,none⟩ (.slice la l.length lc)) _∧TmIn (fun g=>ok g∨(w9.heap.size≤g∧g<w10.heap.size)) (w10.setCell ⟨x,3,none⟩ (.slice la l.length lc)) (withR a l) _∧ApF m s z p R.bw R.bv kk t hd ar tk (some ⟨g,off,none⟩) na fka fna aa ta kc nc fkc fnc (w10.setCell ⟨x,3,none⟩ (.slice la l.length lc))∧Kn No w (w10.setCell ⟨x,3,none⟩ (.slice la l.length lc))∧(∀ g,(ok g∨(w9.heap.size≤g∧g<w10.heap.size))→w8.heap.size≤g∧g<w10.heap.size)∧w10.heap.size≤(w10.setCell ⟨x,3,none⟩ (.slice la l.length lc)).heap.size):=⟨tx11,h11,hs11,tm11,F11,kn11,hokn,k11.size⟩
     have c3:=tx10.cells.2.2.2.1
     have g3:=tx10.cold 3
     clear tx11 k11 in10 sh10 h11 hs11 hokn tm11 F10 F11 tm10 tx10 kn9 kn11 F9 HF H9 hCl hO I9 hz9 u0 u1 u2 u3 u4 b0 b1 b2 b3 b4 cF hb10
     go_upto_region 9 with fail
     obtain⟨w11,hw11⟩:∃ w11,w11=w10.setCell ⟨x,3,none⟩ (.slice la l.length lc):=⟨_,rfl⟩
     rw [← hw11] at H11 ⊢
     clear hw11 c3 g3
     obtain⟨tx11,h11,hs11,tm11,F11,kn11,hokn,hsz11⟩:=H11.out
     have tx8:=F11.tx
     have hl11:=F11.lt
     have t12:=tx8.put (.int .i64 (a.kind:Nat)) (.int .i64 (a.n:Nat)) (.string (bs a.name)) (.slice la l.length lc) (.slice qa a.kids.length qc) (.slice sa a.sys.length sc)
     have k12:Kn (fun g=>g≠s+1) w11 (pu6 w11 (s+1) (.int .i64 (a.kind:Nat)) (.int .i64 (a.n:Nat)) (.string (bs a.name)) (.slice la l.length lc) (.slice qa a.kids.length qc) (.slice sa a.sys.length sc)):=pu6_kn
     obtain⟨h12,hs12⟩:=h11.off hs11 (x:=s+1) (.inl (.inr (by omega))) (by omega) k12
     have tm12:=tm11.kn k12 fun g hg=>by have:=(hokn g hg).1;omega
     have kn12:Kn No w (pu6 w11 (s+1) (.int .i64 (a.kind:Nat)) (.int .i64 (a.n:Nat)) (.string (bs a.name)) (.slice la l.length lc) (.slice qa a.kids.length qc) (.slice sa a.sys.length sc)):=kn11.trans ⟨k12.os,k12.tape,k12.output,k12.size,fun g hg hgl=>k12.block g (fun e=>by have:=hs.lt g hg;have:=Hsz.out;omega) hgl⟩
     have hok12:∀ g,(ok g∨(w9.heap.size≤g∧g<w10.heap.size))→w.heap.size≤g∧g<((pu6 w11 (s+1) (.int .i64 (a.kind:Nat)) (.int .i64 (a.n:Nat)) (.string (bs a.name)) (.slice la l.length lc) (.slice qa a.kids.length qc) (.slice sa a.sys.length sc))).heap.size:=fun g hg=>by have:=hokn g hg;have:=k12.size;have:=Hsz.out;omega
     obtain⟨i0,i1,i2,i3,i4,i5⟩:=tx11.cells
     obtain⟨c0,c1,c2,c3,c4,c5⟩:=tx8.cells
     have g0:=tx8.cold 0
     have g1:=tx8.cold 1
     have g2:=tx8.cold 2
     have g3:=tx8.cold 3
     have g4:=tx8.cold 4
     have g5:=tx8.cold 5
     have H12:Hid (Tx (pu6 w11 (s+1) (.int .i64 (a.kind:Nat)) (.int .i64 (a.n:Nat)) (.string (bs a.name)) (.slice la l.length lc) (.slice qa a.kids.length qc) (.slice sa a.sys.length sc)) (s+1) _ _ _ _ _ _∧R.In (pu6 w11 (s+1) (.int .i64 (a.kind:Nat)) (.int .i64 (a.n:Nat)) (.string (bs a.name)) (.slice la l.length lc) (.slice qa a.kids.length qc) (.slice sa a.sys.length sc)) σ n8∧R.Sh (pu6 w11 (s+1) (.int .i64 (a.kind:Nat)) (.int .i64 (a.n:Nat)) (.string (bs a.name)) (.slice la l.length lc) (.slice qa a.kids.length qc) (.slice sa a.sys.length sc)) _∧TmIn (fun g=>ok g∨(w9.heap.size≤g∧g<w10.heap.size)) (pu6 w11 (s+1) (.int .i64 (a.kind:Nat)) (.int .i64 (a.n:Nat)) (.string (bs a.name)) (.slice la l.length lc) (.slice qa a.kids.length qc) (.slice sa a.sys.length sc)) (withR a l) _∧Kn No w (pu6 w11 (s+1) (.int .i64 (a.kind:Nat)) (.int .i64 (a.n:Nat)) (.string (bs a.name)) (.slice la l.length lc) (.slice qa a.kids.length qc) (.slice sa a.sys.length sc))∧(∀ g,(ok g∨(w9.heap.size≤g∧g<w10.heap.size))→w.heap.size≤g∧g<((pu6 w11 (s+1) (.int .i64 (a.kind:Nat)) (.int .i64 (a.n:Nat)) (.string (bs a.name)) (.slice la l.length lc) (.slice qa a.kids.length qc) (.slice sa a.sys.length sc))).heap.size)):=⟨t12,h12,hs12,tm12,kn12,hok12⟩
     clear t12 h12 hs12 tm12 kn12 hok12 k12 tx8 tx11 h11 hs11 tm11 F11 kn11 hokn hsz11 H11 hl11
     go_wp2
     obtain⟨t12,h12,hs12,tm12,kn12,hok12⟩:=H12.out
     unfold pu6 at t12 h12 hs12 tm12 kn12 hok12
     obtain⟨d0,d1,d2,d3,d4,d5⟩:=t12.cells
     refine⟨rfl,.agg #[.int .i64 (a.kind:Nat),.int .i64 (a.n:Nat),.string (bs a.name),.slice la l.length lc,.slice qa a.kids.length qc,.slice sa a.sys.length sc],by simp only [results,Tryz.results48];simp [go_sem,d0,d1,d2,d3,d4,d5],kn12,?_⟩
     rw [HRl.out]
     exact⟨_,rfl,_,n8,tm12,hok12,h12,by omega,hs12.sub (fun g hg=>hg.elim (fun h=>.inl (.inl h)) .inr) (fun g hg=>.inl (hs.old g hg))⟩
end Go.Proofs.YtahnbigkdfmpbaaGreatDoor
