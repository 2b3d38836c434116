/- What is applied, to what: the walk. -/
import Derived.Test.YtahnbigkdfmpbaaGreatDoorIZI
set_option linter.unusedVariables false
set_option linter.unusedSimpArgs false
namespace Go.Proofs.YtahnbigkdfmpbaaGreatDoor
open Go.RowKit Go.Maps Go.WideMaps
def CallP (R:Rsv) (term:Sg→Sx→Rz Tm) (σ:Sg) (n m:Nat) (args:List Sx):Prop:=∀ (k:Nat) (tk:List Nat) (lo hi:Nat) (a ta:Option Addr) (cap:Nat) (No:Nat→Prop) (w:World),R.In w σ n→R.Sh w No→TkIn R.bw R.bv w tk (.slice ta tk.length tk.length)→AR2 m lo hi w (args.take tk.length) a→tk.length≤args.length→tk.length≤cap→(∀ g,lo≤g→g<hi→No g)→hi≤w.heap.size→callR term σ k tk (args.take tk.length) []≠none →
 Calls Tryz.prog 75 #[R.ptr,.agg #[.int .i64 (k:Nat),.slice ta tk.length tk.length],.slice a tk.length cap] w (OutT R σ n No (cA (args.take tk.length)) (callR term σ k tk (args.take tk.length) []) w)
set_option maxRecDepth 100000 in
set_option maxHeartbeats 4000000 in
theorem applied_any (R : Rsv) (σ : Sg) (n m f c : Nat) (No : Nat → Prop) (t : Sx) (v : Value) (w : World) (term : Sg → Sx → Rz Tm) (h : R.In w σ n) (hs : R.Sh w No) (ht : SxIn m w t v) (hm : m ≤ R.bv) (hok : okF f 0 t = true) (hf : f ≤ 1000000) (hl : (spineR f t).1.name.length ≤ 1000000) (hh1 : isWd (spineR f t).1.name = false → (spineR f t).1.kind = 1) (hAr : ∀ x ∈ (spineR f t).2, TermP R term (2 * blk x) x) (hcA : cA (spineR f t).2.reverse ≤ c) (hC : CallP R term σ n m (spineR f t).2.reverse) (hn : n + c ≤ 40000000) (hv : σ.v.length + c ≤ 40000000) (hdd : σ.d.length + c ≤ 40000000) (har6 : (spineR f t).2.length ≤ 1000000) (hr : appliedR f term σ t ≠ none) :
    Calls Tryz.prog 44 #[R.ptr,v] w (OutT R σ n No c (appliedR f term σ t) w):=by
  obtain⟨ka,kc,na,nc,rfl,hN,hK⟩:=ht.form
  have hmw:m≤w.heap.size:=by have:=h.lt;have:=h.rlt;omega
  obtain⟨w1,hw1⟩:∃ w1,w1=w.alloc (.cells #[.int .i64 t.kind,.string (bs t.name),.slice ka t.kids.length kc,.slice na t.names.length nc,.int .i64 t.at_] 26):=⟨_,rfl⟩
  have q:Below w.heap.size w w1:=by rw [hw1];exact below_alloc _ _
  have bx:Bx w1 w.heap.size (.int .i64 t.kind) (.string (bs t.name)) (.slice ka t.kids.length kc) (.slice na t.names.length nc) (.int .i64 t.at_):=by rw [hw1];exact bx_new _ _ _ _ _ _
  have s1:w1.heap.size=w.heap.size+1:=by rw [hw1];simp
  obtain⟨w2,hw2⟩:∃ w2,w2=w1.alloc (.cells #[.int .i64 0,.int .i64 0,.string ⟨#[]⟩,.slice none 0 0,.slice none 0 0,.slice none 0 0] 37):=⟨_,rfl⟩
  have q2:Below w1.heap.size w1 w2:=by rw [hw2];exact below_alloc _ _
  have tx:Tx w2 (w.heap.size+1) (.int .i64 0) (.int .i64 0) (.string ⟨#[]⟩) (.slice none 0 0) (.slice none 0 0) (.slice none 0 0):=by rw [hw2,← s1];exact tx_new _ _ _ _ _ _ _
  have s2:w2.heap.size=w.heap.size+2:=by rw [hw2];simp [s1]
  have qq:Below w.heap.size w w2:=q.trans (q2.mono q.size)
  have bx2:=bx.blw q2
  rw [hw1] at hw2
  have cS:=spine_any f m t _ w2 (ht.keep (qq.mono hmw)) (by omega) hok hf
  obtain⟨hd,hhd⟩:∃ hd,hd=(spineR f t).1:=⟨_,rfl⟩
  obtain⟨ar,har⟩:∃ ar,ar=(spineR f t).2.reverse:=⟨_,rfl⟩
  obtain⟨r,hrr⟩:∃ r,r=appliedR f term σ t:=⟨_,rfl⟩
  have hral:ar.length=(spineR f t).2.length:=by rw [har,List.length_reverse]
  rw [← hrr] at hr ⊢
  unfold appliedR at hrr
  rw [← har,← hral,← hhd] at hrr
  rw [← hhd] at hl hh1
  rw [← har] at hcA hC
  rw [← hral] at har6
  have hAr2:∀ x∈ar,TermP R term (2*blk x) x:=fun x hx=>hAr x (by rw [har] at hx;exact List.mem_reverse.1 hx)
  rw [← hhd,← har] at cS
  obtain⟨x0,x1,x2,x3,x4⟩:=bx2.cells
  have Hs:Hid (w2=_∧Bx w2 w.heap.size _ _ _ _ _∧Tx w2 (w.heap.size+1) _ _ _ _ _ _∧w2.heap.size=w.heap.size+2∧Below w.heap.size w w2):=⟨hw2,bx2,tx,s2,qq⟩
  rw [hw2] at cS x0 x1 x2 x3 x4
  have HRR:Hid (r=_):=hrr
  have HHD:Hid (hd=_∧ar=_):=⟨hhd,har⟩
  unfold Rsv.ptr
  clear q bx s1 hw1 q2 tx s2 qq bx2 hw2 hrr hhd har hral
  go_enter Tryz.func44,Tryz.ntmps44
  go_wp2_with fail
  refine cS.mono ?_
  rintro e w3 ⟨vf,va,rfl,hS3,hA3,hb3⟩
  obtain⟨hw2,bx2,tx,s2,qq⟩:=Hs.out
  rw [← hw2] at hb3 hA3
  have hlo2:w.heap.size≤w2.heap.size:=qq.size
  have q3:Below w.heap.size w w3:=qq.trans (hb3.mono qq.size)
  have bx3:=bx2.blw hb3
  have tx3:=tx.blw hb3
  have sz3:w.heap.size+2≤w3.heap.size:=by have:=hb3.size;omega
  have ht3:=ht.keep (q3.mono hmw)
  clear x0 x1 x2 x3 x4 hw2 bx2 tx s2 qq hb3 cS Hs
  obtain⟨fka,fkc,fna,fnc,rfl,_,_⟩:=hS3.form
  obtain⟨w4,hw4⟩:∃ w4,w4=w3.alloc (.cells #[.int .i64 hd.kind,.string (bs hd.name),.slice fka hd.kids.length fkc,.slice fna hd.names.length fnc,.int .i64 hd.at_] 26):=⟨_,rfl⟩
  obtain⟨s,hsz⟩:∃ s,s=w.heap.size:=⟨_,rfl⟩
  obtain⟨z,hz⟩:∃ z,z=w3.heap.size:=⟨_,rfl⟩
  have q4:Below w3.heap.size w3 w4:=by rw [hw4];exact below_alloc _ _
  have fx4:Bx w4 w3.heap.size (.int .i64 hd.kind) (.string (bs hd.name)) (.slice fka hd.kids.length fkc) (.slice fna hd.names.length fnc) (.int .i64 hd.at_):=by rw [hw4];exact bx_new _ _ _ _ _ _
  have z4:w4.heap.size=w3.heap.size+1:=by rw [hw4];simp
  have Q4:Below w.heap.size w w4:=q3.trans (q4.mono q3.size)
  have bx4:=bx3.blw q4
  have tx4:=tx3.blw q4
  obtain⟨aa,ac,rfl,hac⟩:∃ a cap,va=.slice a ar.length cap∧ar.length≤cap:=let ⟨a,cap,e,e2,_⟩:=hA3;⟨a,cap,e,e2⟩
  have A4:AR2 m w.heap.size w3.heap.size w4 ar aa:=(hA3.two (lo2:=w.heap.size) hlo2).blw (Nat.le_refl _) (by omega) q4
  have ht4:=ht3.keep (q4.mono (by omega))
  have S4:=hS3.keep (q4.mono (by omega))
  have h4:=h.keep Q4
  clear hA3 hS3 ht3 tx3 bx3 q3 q4
  rw [← hz] at fx4 z4
  rw [← hsz] at bx4 tx4 sz3 Q4
  rw [← hsz,← hz] at A4
  have H4:Hid (w4=_∧Bx w4 s _ _ _ _ _∧Tx w4 (s+1) _ _ _ _ _ _∧AR2 m s z w4 ar aa∧SxIn m w4 t _∧SxIn m w4 hd _∧R.In w4 σ n∧Bx w4 z _ _ _ _ _∧w4.heap.size=z+1∧Below s w w4∧s+2≤w3.heap.size∧s=w.heap.size∧z=w3.heap.size):=⟨hw4,bx4,tx4,A4,ht4,S4,h4,fx4,z4,Q4,sz3,hsz,hz⟩
  clear bx4 tx4 A4 ht4 S4 h4 fx4 z4 Q4 sz3 hw4 hsz hz
  go_wp2_with fail
  obtain⟨hw4,bx4,tx4,A4,ht4,S4,h4,fx4,z4,Q4,sz3,hsz,hz⟩:=H4.out
  rw [← hw4]
  simp only [← hsz,← hz]
  obtain⟨vt,hvt,hlk⟩:=h4.wd.lookB hd.name hl true
  obtain⟨ta,rfl⟩:∃ ta,vt=.slice ta (wdOf hd.name).2.length (wdOf hd.name).2.length:=let ⟨a,e,_⟩:=hvt;⟨a,e⟩
  simp only [if_true] at hlk
  have hbw:R.bw<w4.heap.size:=by have:=h4.wd.1;have:=h4.wd.2.1;omega
  have hrl:=h4.rlt
  obtain⟨c0,_⟩:=h4.c
  obtain⟨_,f1,_⟩:=fx4.cells
  have hzl:z<w4.heap.size:=fx4.lt
  generalize hkk:(wdOf hd.name).1=kk at *
  generalize htk:(wdOf hd.name).2=tk at *
  generalize hiw:isWd hd.name=iw at *
  have HA:Hid (∀ w9,Below w4.heap.size w4 w9→w9.cell? ⟨R.r,0,none⟩=some (.map (some R.bw))∧w9.cell? ⟨z,1,none⟩=some (.string (bs hd.name))∧Sem.run Tryz.prog (Instr.lookup 71 (.map (some R.bw)) (.string (bs hd.name)) true) w9=.ok (.tuple #[.agg #[.int .i64 (kk:Nat),.slice ta tk.length tk.length],.bool iw]) w9):=fun w9 hb=>⟨(hb.cell (p:=⟨R.r,0,none⟩) hrl).trans c0,(hb.cell (p:=⟨z,1,none⟩) hzl).trans f1,hlk w9 (hb.block _ hbw)⟩
  have HT:Hid (TkIn R.bw R.bv w4 tk (.slice ta tk.length tk.length)):=hvt
  have HW:Hid ((wdOf hd.name).1=kk∧(wdOf hd.name).2=tk∧isWd hd.name=iw):=⟨hkk,htk,hiw⟩
  clear hw4 bx4 tx4 A4 ht4 S4 h4 fx4 z4 Q4 sz3 hsz hz hvt hlk c0 f1 hkk htk hiw hbw hrl hzl
  refine wp_region_held_drew (S:=fun w9=>Below w4.heap.size w4 w9) (by kernel_rfl) (Below.drew (Below.refl _ _)) (fun hS=>?_)
  refine wpAnyH_take (i:=0) (v:=.pointer (some ⟨R.r,0,none⟩)) rfl (by kernel_rfl) (by kernel_rfl) (by kernel_rfl) (fun _ _ _ h=>h) (Or.inl ⟨by rfl,fun w hS=>by go_simp⟩) hS ?_
  simp only [Act.put,List.getElem_toArray,List.getElem_cons_zero,List.getElem_cons_succ,List.setIfInBounds_toArray,List.set_cons_zero,List.set_cons_succ]
  refine wpAnyH_take (i:=1) (v:=.pointer (some ⟨R.r,0,none⟩)) rfl (by kernel_rfl) (by kernel_rfl) (by kernel_rfl) (fun _ _ _ h=>h) (Or.inl ⟨by rfl,fun w hS=>by go_simp⟩) hS ?_
  simp only [Act.put,List.getElem_toArray,List.getElem_cons_zero,List.getElem_cons_succ,List.setIfInBounds_toArray,List.set_cons_zero,List.set_cons_succ]
  refine wpAnyH_take (i:=2) (v:=.pointer (some ⟨R.r,0,none⟩)) rfl (by kernel_rfl) (by kernel_rfl) (by kernel_rfl) (fun _ _ _ h=>h) (Or.inl ⟨by rfl,fun w hS=>by go_simp⟩) hS ?_
  simp only [Act.put,List.getElem_toArray,List.getElem_cons_zero,List.getElem_cons_succ,List.setIfInBounds_toArray,List.set_cons_zero,List.set_cons_succ]
  refine wpAnyH_take (i:=3) (v:=.map (some R.bw)) rfl (by kernel_rfl) (by kernel_rfl) (by kernel_rfl) (fun _ _ _ h=>h) (Or.inl ⟨by rfl,fun w hS=>by have e:=(HA.out w hS).1;go_simp⟩) hS ?_
  simp only [Act.put,List.getElem_toArray,List.getElem_cons_zero,List.getElem_cons_succ,List.setIfInBounds_toArray,List.set_cons_zero,List.set_cons_succ]
  refine wpAnyH_take (i:=4) (v:=.pointer (some ⟨z,1,none⟩)) rfl (by kernel_rfl) (by kernel_rfl) (by kernel_rfl) (fun _ _ _ h=>h) (Or.inl ⟨by rfl,fun w hS=>by go_simp⟩) hS ?_
  simp only [Act.put,List.getElem_toArray,List.getElem_cons_zero,List.getElem_cons_succ,List.setIfInBounds_toArray,List.set_cons_zero,List.set_cons_succ]
  refine wpAnyH_take (i:=5) (v:=.string (bs hd.name)) rfl (by kernel_rfl) (by kernel_rfl) (by kernel_rfl) (fun _ _ _ h=>h) (Or.inl ⟨by rfl,fun w hS=>by have e:=(HA.out w hS).2.1;go_simp⟩) hS ?_
  simp only [Act.put,List.getElem_toArray,List.getElem_cons_zero,List.getElem_cons_succ,List.setIfInBounds_toArray,List.set_cons_zero,List.set_cons_succ]
  refine wpAnyH_take (i:=6) (v:=.tuple #[.agg #[.int .i64 (kk:Nat),.slice ta tk.length tk.length],.bool iw]) rfl (by kernel_rfl) (by kernel_rfl) (by kernel_rfl) (fun _ _ _ h=>h) (Or.inl ⟨by rfl,fun w hS=>by have e:=(HA.out w hS).2.2;go_simp⟩) hS ?_
  simp only [Act.put,List.getElem_toArray,List.getElem_cons_zero,List.getElem_cons_succ,List.setIfInBounds_toArray,List.set_cons_zero,List.set_cons_succ]
  refine wpAnyH_take (i:=7) (v:=.tuple #[.agg #[.int .i64 (kk:Nat),.slice ta tk.length tk.length],.bool iw]) rfl (by kernel_rfl) (by kernel_rfl) (by kernel_rfl) (fun _ _ _ h=>h) (Or.inl ⟨by rfl,fun w hS=>by go_simp⟩) hS ?_
  simp only [Act.put,List.getElem_toArray,List.getElem_cons_zero,List.getElem_cons_succ,List.setIfInBounds_toArray,List.set_cons_zero,List.set_cons_succ]
  refine wpAnyH_take (i:=8) (v:=.agg #[.int .i64 (kk:Nat),.slice ta tk.length tk.length]) rfl (by kernel_rfl) (by kernel_rfl) (by kernel_rfl) (fun _ _ _ h=>h) (Or.inl ⟨by rfl,fun w hS=>by go_simp⟩) hS ?_
  simp only [Act.put,List.getElem_toArray,List.getElem_cons_zero,List.getElem_cons_succ,List.setIfInBounds_toArray,List.set_cons_zero,List.set_cons_succ]
  refine wpAnyH_take (i:=9) (v:=.bool iw) rfl (by kernel_rfl) (by kernel_rfl) (by kernel_rfl) (fun _ _ _ h=>h) (Or.inl ⟨by rfl,fun w hS=>by go_simp⟩) hS ?_
  simp only [Act.put,List.getElem_toArray,List.getElem_cons_zero,List.getElem_cons_succ,List.setIfInBounds_toArray,List.set_cons_zero,List.set_cons_succ]
  refine wpAnyH_ready (rs:=[10]) (by kernel_rfl) (by simp) ?_
  refine ready_cons rfl (fun KK hKK=>?_) AllReadyH.nil
  refine⟨?_⟩
  go_simp
  have hS2:Below w4.heap.size w4 (w4.alloc (.cells #[.int .i64 0,.slice none 0 0] 97)).drew:=Below.drew (below_alloc w4 _)
  have hW0:(w4.alloc (.cells #[.int .i64 0,.slice none 0 0] 97)).drew.heap[w4.heap.size]? = some (.cells #[.int .i64 0,.slice none 0 0] 97 (0,0)):=heap_alloc_new w4 _
  obtain⟨p,hp⟩:∃ p,p=w4.heap.size:=⟨_,rfl⟩
  obtain⟨w5,hw5⟩:∃ w5,w5=(w4.alloc (.cells #[.int .i64 0,.slice none 0 0] 97)).drew:=⟨_,rfl⟩
  have hsz5:w5.heap.size=w4.heap.size+1:=by rw [hw5];simp [World.drew]
  rw [← hw5] at hS2 hW0 ⊢
  simp only [← hp]
  rw [← hp] at hW0
  have Hp:Hid (p=w4.heap.size∧w5.heap.size=w4.heap.size+1∧Below w4.heap.size w4 w5):=⟨hp,hsz5,hS2⟩
  clear hS hw5 hp hsz5
  refine hKK.out _ _ hS2 (fun hS=>?_)
  clear hKK KK
  try simp only [Act.put,List.getElem_toArray,List.getElem_cons_zero,List.getElem_cons_succ,List.setIfInBounds_toArray,List.set_cons_zero,List.set_cons_succ]
  refine wpAnyH_ready (rs:=[11]) (by kernel_rfl) (by simp) ?_
  refine ready_cons rfl (fun KK hKK=>?_) AllReadyH.nil
  refine⟨?_⟩
  have y0:w5.cell? ⟨p,0,none⟩=some (.int .i64 0):=by simp [World.cell?,hW0]
  have y1:w5.cell? ⟨p,1,none⟩=some (.slice none 0 0):=by simp [World.cell?,hW0]
  have g0:w5.frozen? ⟨p,0,none⟩=false:=by simp [World.frozen?,hW0]
  have g1:w5.frozen? ⟨p,1,none⟩=false:=by simp [World.frozen?,hW0]
  clear hS2
  go_simp
  have hWx:Wx ((w5.setCell ⟨p,0,none⟩ (.int .i64 (kk:Nat))).setCell ⟨p,1,none⟩ (.slice ta tk.length tk.length)) p kk (.slice ta tk.length tk.length):=Wx.put hW0 kk _
  have hB6:Below w4.heap.size w4 ((w5.setCell ⟨p,0,none⟩ (.int .i64 (kk:Nat))).setCell ⟨p,1,none⟩ (.slice ta tk.length tk.length)):=by
    obtain⟨hp,_,hb⟩:=Hp.out
    have k5:Kn (fun g=>g<w4.heap.size) w4 w5:=Kn.of_below hb
    exact ((k5.setCell (p:=⟨p,0,none⟩) (.inr (by show _≤p;omega)) _).setCell (p:=⟨p,1,none⟩) (.inr (by show _≤p;omega)) _).below (fun g h=>h) (Nat.le_refl _)
  obtain⟨w6,hw6⟩:∃ w6,w6=((w5.setCell ⟨p,0,none⟩ (.int .i64 (kk:Nat))).setCell ⟨p,1,none⟩ (.slice ta tk.length tk.length)):=⟨_,rfl⟩
  rw [← hw6] at hWx hB6 ⊢
  clear hS hw6 y0 y1 g0 g1 hW0
  refine hKK.out _ _ hB6 (fun hS=>?_)
  clear hKK KK
  try simp only [Act.put,List.getElem_toArray,List.getElem_cons_zero,List.getElem_cons_succ,List.setIfInBounds_toArray,List.set_cons_zero,List.set_cons_succ]
  refine wpAnyH_ready (rs:=[12]) (by kernel_rfl) (by simp) ?_
  refine ready_cons rfl (fun KK hKK=>?_) AllReadyH.nil
  refine⟨?_⟩
  go_simp
  refine hKK.out _ _ hS (fun hS=>?_)
  clear hKK KK
  try simp only [Act.put,List.getElem_toArray,List.getElem_cons_zero,List.getElem_cons_succ,List.setIfInBounds_toArray,List.set_cons_zero,List.set_cons_succ]
  refine wpAnyH_done (by kernel_rfl) ?_ _
  have F6:ApF m s z p R.bw R.bv kk t hd ar tk ka na fka fna aa ta kc nc fkc fnc w6:=by
    obtain⟨hw4,bx4,tx4,A4,ht4,S4,h4,fx4,z4,Q4,sz3,hsz,hz⟩:=H4.out
    obtain⟨hp,_,_⟩:=Hp.out
    have l1:R.bv≤w.heap.size:=by have:=h.lt;have:=h.rlt;omega
    exact⟨bx4.blw hB6,tx4.blw hB6,fx4.blw hB6,hWx,A4.blw (by omega) (by omega) hB6,ht4.keep (hB6.mono (by omega)),S4.keep (hB6.mono (by omega)),HT.out.blw (hB6.mono (by omega)),hm,by omega,by omega,by omega,hWx.lt⟩
  have Q6:Below w.heap.size w w6:=by
    obtain⟨hw4,bx4,tx4,A4,ht4,S4,h4,fx4,z4,Q4,sz3,hsz,hz⟩:=H4.out
    rw [← hsz]
    exact Q4.trans (hB6.mono (by have:=Q4.size;omega))
  have hszs:s=w.heap.size:=H4.out.2.2.2.2.2.2.2.2.2.2.2.1
  clear H4 Hp HT HA hB6 hWx hS
  obtain⟨hwk,hwt,hwi⟩:=HW.out
  obtain⟨b0,b1,b2,b3,b4⟩:=F6.bx.cells
  obtain⟨f0,f1,f2,f3,f4⟩:=F6.fx.cells
  obtain⟨p0,p1⟩:=F6.wx.cells
  have Hsz:Hid (s=w.heap.size):=hszs
  clear hszs HW
  cases iw with
  | false =>
    have hwn:wordT hd.name=none:=by unfold isWd at hwi;cases hq:wordT hd.name with | none=>rfl | some _=>rw [hq] at hwi;cases hwi
    have hwz:wdOf hd.name=(0,[]):=by unfold wdOf;rw [hwn];rfl
    rw [hwz] at hwk hwt
    subst hwk hwt
    have ec0:((0:Nat):Int)=0:=rfl
    simp only [List.length_nil,ec0]
    clear ec0
    have hk1:=hh1 rfl
    have HR:Hid (r=(namedF σ hd).bnd fun out=>restR term σ ar out):=by
      have:=HRR.out
      unfold headR at this
      simp only [hwi,hwz,hk1,Bool.false_and,if_false,if_true,List.drop_zero] at this
      exact this
    rw [hk1] at f0
    obtain⟨w7,hw7⟩:∃ w7,w7=w6.alloc (.cells #[.int .i64 0,.int .i64 0,.string ⟨#[]⟩,.slice none 0 0,.slice none 0 0,.slice none 0 0] 37):=⟨_,rfl⟩
    have q7:Below w6.heap.size w6 w7:=by rw [hw7];exact below_alloc _ _
    have t7:Tx w7 w6.heap.size (.int .i64 0) (.int .i64 0) (.string ⟨#[]⟩) (.slice none 0 0) (.slice none 0 0) (.slice none 0 0):=by rw [hw7];exact tx_new _ _ _ _ _ _ _
    have s7:w7.heap.size=w6.heap.size+1:=by rw [hw7];simp
    have F7:=F6.blw q7
    have Q7:Below w.heap.size w w7:=Q6.trans (q7.mono Q6.size)
    have h7:=h.keep Q7
    have cN:=named_any R σ n m hd _ w7 h7 F7.hh (by have:=F7.lt;omega) hl
    rw [hk1] at cN
    unfold Rsv.ptr at cN
    have H7:Hid (w7=_∧Tx w7 w6.heap.size _ _ _ _ _ _∧w7.heap.size=w6.heap.size+1∧ApF m s z p R.bw R.bv 0 t hd ar [] ka na fka fna aa ta kc nc fkc fnc w7∧Below w.heap.size w w7):=⟨hw7,t7,s7,F7,Q7⟩
    obtain⟨e0,e1,e2,e3,e4⟩:=F7.fx.cells
    rw [hk1] at e0
    rw [hw7] at cN e0 e1 e2 e3 e4
    have hp6:p<w6.heap.size:=F6.lt.2.2.2.2
    clear hh1 b0 b1 b2 b3 b4 f0 f1 f2 f3 f4 p0 p1 hw7 q7 t7 s7 F7 Q7 h7 hwi hwn hwz hk1 F6 Q6 HRR
    go_wp2_with fail
    refine cN.mono ?_
    rintro e w8 ⟨hE,hb8⟩
    obtain⟨hw7,t7,s7,F7,Q7⟩:=H7.out
    have h7:=h.keep Q7
    rw [← hw7] at hb8
    have hs7:R.Sh w7 (fun g=>No g∨(s≤g∧g<w7.heap.size)):=hs.more h Q7 fun g hg=>⟨by have:=Hsz.out;omega,hg.2⟩
    have o8:OutT R σ n (fun g=>No g∨(s≤g∧g<w7.heap.size)) 0 (namedF σ hd) w7 e w8:=OutT.leaf h7 hs7 hb8 hE
    clear hE hb8 hw7 H7 cN e0 e1 e2 e3 e4
    obtain⟨kn8,hE⟩:=o8
    obtain⟨r8,h8r⟩:∃ r8,r8=namedF σ hd:=⟨_,rfl⟩
    rw [← h8r] at HR hE
    clear h8r
    cases r8 with
    | none=>exact absurd HR.out hr
    | some y =>
      cases y with
      | inl p =>
        have hRR:Hid (r=some (.inl p)):=HR.out
        obtain rfl:e=_:=hE
        refine⟨rfl,(Kn.of_below Q7).trans (kn8.sub fun g hg=>.inl hg),?_⟩
        rw [hRR.out]
        rfl
      | inr a =>
        have HRa:Hid (r=restR term σ _ a):=HR.out
        obtain⟨vT,rfl,ok,n8,hTm,hok8,h8,hn8,hs8⟩:=hE
        obtain⟨ra,rc,qa,qc,sa,sc,rfl,_⟩:=hTm.form
        obtain⟨x,hx⟩:∃ x,x=w6.heap.size:=⟨_,rfl⟩
        have hbv:R.bv≤x:=by have:=F7.lt;omega
        have hpx:p<x∧s≤x:=by have:=F7.lt;omega
        rw [← hx] at t7 s7
        simp only [← hx]
        have tx8:=t7.kn kn8 (.inr (by omega))
        have t9:=tx8.put (.int .i64 (a.kind:Nat)) (.int .i64 (a.n:Nat)) (.string (bs a.name)) (.slice ra a.r.length rc) (.slice qa a.kids.length qc) (.slice sa a.sys.length sc)
        have k9:Kn (fun g=>g≠x) w8 (pu6 w8 x (.int .i64 (a.kind:Nat)) (.int .i64 (a.n:Nat)) (.string (bs a.name)) (.slice ra a.r.length rc) (.slice qa a.kids.length qc) (.slice sa a.sys.length sc)):=pu6_kn
        obtain⟨h9,hs9⟩:=h8.off hs8 (x:=x) (.inl (.inr (by omega))) hbv k9
        have hT9:=hTm.kn k9 fun g hg=>by have:w7.heap.size≤g:=(hok8 g hg).1;omega
        have I9:ApI R σ n8 w7.heap.size x (fun g=>No g∨(s≤g∧g<w7.heap.size)) w7 a ra qa sa rc qc sc ok (pu6 w8 x (.int .i64 (a.kind:Nat)) (.int .i64 (a.n:Nat)) (.string (bs a.name)) (.slice ra a.r.length rc) (.slice qa a.kids.length qc) (.slice sa a.sys.length sc)):=⟨t9,hT9,fun g hg=>⟨(hok8 g hg).1,by have:=(hok8 g hg).2;have:=k9.size;omega⟩,h9,hs9,(kn8.sub fun g hg=>hg.1).trans (k9.sub fun g hg=>hg.2)⟩
        obtain⟨c0,c1,c2,c3,c4,c5⟩:=tx8.cells
        have g0:=tx8.cold 0
        have g1:=tx8.cold 1
        have g2:=tx8.cold 2
        have g3:=tx8.cold 3
        have g4:=tx8.cold 4
        have g5:=tx8.cold 5
        have H9:Hid (ApI R σ n8 w7.heap.size x (fun g=>No g∨(s≤g∧g<w7.heap.size)) w7 a ra qa sa rc qc sc ok _):=I9
        clear I9 hT9 t9 k9 h9 hs9 tx8 hTm h8 hs8 kn8 hok8 t7 HR hx
        go_upto_region 13 with fail
        unfold pu6 at H9
        obtain⟨w9,hw9⟩:∃ w9,w9=(((((w8.setCell ⟨x,0,none⟩ (.int .i64 (a.kind:Nat))).setCell ⟨x,1,none⟩ (.int .i64 (a.n:Nat))).setCell ⟨x,2,none⟩ (.string (bs a.name))).setCell ⟨x,3,none⟩ (.slice ra a.r.length rc)).setCell ⟨x,4,none⟩ (.slice qa a.kids.length qc)).setCell ⟨x,5,none⟩ (.slice sa a.sys.length sc):=⟨_,rfl⟩
        rw [← hw9] at H9 ⊢
        clear hw9 c0 c1 c2 c3 c4 c5 g0 g1 g2 g3 g4 g5
        have F9:=F7.kn H9.out.kn (fun g hg=>hg.elim (fun hg=>⟨.inl (hs.old g hg),by omega⟩) (fun hg=>⟨.inr (by have:=F7.lt;omega),by omega⟩))
        obtain⟨p0,p1⟩:=F9.wx.cells
        have HF:Hid (ApF m s z p R.bw R.bv _ t hd ar _ ka na fka fna aa ta kc nc fkc fnc w7∧Below w.heap.size w w7∧w7.heap.size=x+1∧R.In w7 σ n):=⟨F7,Q7,s7,h7⟩
        have hn8:n8+cA (ar)≤n+c:=by have:=hcA;omega
        clear F9 F7 Q7 s7 h7 hs7 p0
        go_wp2_with fail
        go_loopw [71] (fun i wr=>∃ (k:Nat) (a:Tm) (ra qa sa:Option Addr) (rc qc sc:Nat) (ok:Nat→Prop) (nr:Nat),k≤ar.length∧i=.int .i64 k∧ApI R σ nr w7.heap.size x (fun g=>No g∨(s≤g∧g<w7.heap.size)) w7 a ra qa sa rc qc sc ok wr∧nr+cA ((ar).drop k)≤n+c∧Hid (r=restR term σ ((ar).drop k) a)) (fun i _=>ar.length - (intOf i).toNat)
        case atStart=>exact⟨0,a,ra,qa,sa,rc,qc,sc,ok,n8,Nat.zero_le _,rfl,H9.out,hn8,HRa⟩
        case round =>
          clear HRa H9 p1 hn8
          obtain⟨k,a,ra,qa,sa,rc,qc,sc,ok,nr,hk,rfl,I,hnr,HRa⟩:=hrel
          obtain⟨F7,Q7,s7,h7⟩:=HF.out
          by_cases hlt:k<ar.length
          ·
            obtain⟨y,hy⟩:∃ y,(ar)[k]? = some y:=⟨_,List.getElem?_eq_getElem (by simpa using hlt)⟩
            have hdr:(ar).drop k=y :: (ar).drop (k+1):=by
              obtain⟨hlt2,e⟩:=List.getElem?_eq_some_iff.1 hy
              rw [List.drop_eq_getElem_cons hlt2,e]
            have hymem:y∈ar:=List.mem_of_getElem? hy
            have FR:=F7.kn I.kn (fun g hg=>hg.elim (fun hg=>⟨.inl (hs.old g hg),by omega⟩) (fun hg=>⟨.inr (by have:=F7.lt;omega),by omega⟩))
            obtain⟨g,off,yka,ykc,yna,ync,rfl,hg1,hg2,hSy,y0,y1,y2,y3,y4⟩:=FR.ar k y hy
            obtain⟨b,hb⟩:∃ b,b=wr.heap.size:=⟨_,rfl⟩
            obtain⟨w1,hw1⟩:∃ w1,w1=wr.alloc (.cells #[.int .i64 y.kind,.string (bs y.name),.slice yka y.kids.length ykc,.slice yna y.names.length ync,.int .i64 y.at_] 26):=⟨_,rfl⟩
            have qa1:Below wr.heap.size wr w1:=by rw [hw1];exact below_alloc _ _
            have by1:Bx w1 wr.heap.size (.int .i64 y.kind) (.string (bs y.name)) (.slice yka y.kids.length ykc) (.slice yna y.names.length ync) (.int .i64 y.at_):=by rw [hw1];exact bx_new _ _ _ _ _ _
            have sb1:w1.heap.size=wr.heap.size+1:=by rw [hw1];simp
            have hmr:m≤wr.heap.size:=by have:=FR.lt;omega
            have tx1:=I.tx.blw qa1
            have in1:=I.rin.keep qa1
            have sh1:R.Sh w1 (fun g=>(No g∨(s≤g∧g<w7.heap.size))∨ok g∨g=b):=(I.sh.more (ok:=fun g=>g=b) I.rin qa1 (fun g hg=>by omega)).sub (fun g hg=>hg.elim (fun h=>.inl (.inl h)) (fun h=>h.elim (fun h=>.inl (.inr h)) .inr)) (fun g hg=>.inl (.inl (hs.old g hg)))
            have sy1:=hSy.keep (qa1.mono hmr)
            have tm1:=I.tm.blw qa1
            have hcy:2*blk y+cA ((ar).drop (k+1))=cA ((ar).drop k):=by rw [hdr];rfl
            have HRb:Hid (r=(term σ y).bnd fun v=>restR term σ ((ar).drop (k+1)) (tmK 6 [a,v])):=by have:=HRa.out;rw [hdr] at this;exact this
            have hry:term σ y≠none:=fun e=>hr (by rw [HRb.out,e];rfl)
            have hcyc:cA ((ar).drop k)≤c:=by have:=cA_app (ar.take k) (ar.drop k);rw [List.take_append_drop] at this;omega
            have cT:Hid (∀ w4,w4.heap=w1.heap→w4.os=w1.os→w4.tape=w1.tape→w4.output=w1.output→Calls Tryz.prog 26 #[R.ptr,.agg #[.int .i64 y.kind,.string (bs y.name),.slice yka y.kids.length ykc,.slice yna y.names.length ync,.int .i64 y.at_]] w4 (OutT R σ nr (fun g=>(No g∨(s≤g∧g<w7.heap.size))∨ok g∨g=b) (2*blk y) (term σ y) w4)):=by
              intro w4 e1 e2 e3 e4
              have hbl:Below w1.heap.size w1 w4:=⟨e2,e3,e4,by rw [e1];exact Nat.le_refl _,fun k _=>by rw [e1]⟩
              exact hAr2 y hymem σ nr m _ _ w4 (in1.keep hbl) (sh1.keep in1 hbl) (sy1.keep (hbl.mono (by omega))) hm (by omega) (by omega) (by omega) hry
            rw [← hb] at by1 sb1
            have hS1:Tx w1 x (.int .i64 (a.kind:Nat)) (.int .i64 (a.n:Nat)) (.string (bs a.name)) (.slice ra a.r.length rc) (.slice qa a.kids.length qc) (.slice sa a.sys.length sc)∧Bx w1 b (.int .i64 y.kind) (.string (bs y.name)) (.slice yka y.kids.length ykc) (.slice yna y.names.length ync) (.int .i64 y.at_):=⟨tx1,by1⟩
            have H1:Hid (w1=_∧Below wr.heap.size wr w1∧w1.heap.size=b+1∧TmIn ok w1 a _∧b=wr.heap.size):=⟨hw1,qa1,sb1,tm1,hb⟩
            have HI:Hid (ApI R σ nr w7.heap.size x (fun g=>No g∨(s≤g∧g<w7.heap.size)) w7 a ra qa sa rc qc sc ok wr):=I
            have Hy:Hid (nr+cA ((ar).drop k)≤n+c∧2*blk y+cA ((ar).drop (k+1))=cA ((ar).drop k)∧term σ y≠none∧w7.heap.size=x+1∧Below w.heap.size w w7):=⟨hnr,hcy,hry,s7,Q7⟩
            clear hw1 qa1 sb1 tm1 I hnr hcy hry HRa by1 tx1 in1 sh1 sy1 hSy FR F7 Q7 s7 h7 hdr hy hymem hcyc hmr hb
            try simp only [Nat.zero_add,Nat.add_zero] at y0 y1 y2 y3 y4
            go_wp2_with fail
            obtain⟨hw1,_,_,_,hb⟩:=H1.out
            rw [← hw1]
            simp only [← hb]
            clear hw1 hb y0 y1 y2 y3 y4
            refine wp_region_held_drew (S:=fun w9=>Bx w9 b (.int .i64 y.kind) (.string (bs y.name)) (.slice yka y.kids.length ykc) (.slice yna y.names.length ync) (.int .i64 y.at_)) (by kernel_rfl) hS1.2 (fun hS=>?_)
            refine wpAnyH_take (i:=1) (v:=.pointer (some ⟨R.r,0,none⟩)) rfl (by kernel_rfl) (by kernel_rfl) (by kernel_rfl) (fun _ _ _ h=>h) (Or.inl ⟨by rfl,fun w hS=>by go_simp⟩) hS ?_
            simp only [Act.put,List.getElem_toArray,List.getElem_cons_zero,List.getElem_cons_succ,List.setIfInBounds_toArray,List.set_cons_zero,List.set_cons_succ]
            refine wpAnyH_take (i:=2) (v:=.agg #[.int .i64 y.kind,.string (bs y.name),.slice yka y.kids.length ykc,.slice yna y.names.length ync,.int .i64 y.at_]) rfl (by kernel_rfl) (by kernel_rfl) (by kernel_rfl) (fun _ _ _ h=>h) (Or.inl ⟨by rfl,fun w hS=>by obtain⟨e0,e1,e2,e3,e4⟩:=hS.cells;go_simp⟩) hS ?_
            simp only [Act.put,List.getElem_toArray,List.getElem_cons_zero,List.getElem_cons_succ,List.setIfInBounds_toArray,List.set_cons_zero,List.set_cons_succ]
            refine wpAnyH_ready (rs:=[0,3]) (by kernel_rfl) (by simp) ?_
            refine ready_cons rfl (fun KK hKK=>?_) (ready_cons rfl (fun KK hKK=>?_) AllReadyH.nil)
            · refine⟨?_⟩
              obtain⟨e0,e1,e2,e3,e4,e5⟩:=hS1.1.cells
              go_simp
              clear e0 e1 e2 e3 e4 e5
              refine hKK.out _ _ hS (fun hS=>?_)
              clear hKK KK
              try simp only [Act.put,List.getElem_toArray,List.getElem_cons_zero,List.getElem_cons_succ,List.setIfInBounds_toArray,List.set_cons_zero,List.set_cons_succ]
              refine wpAnyH_ready (rs:=[3]) (by kernel_rfl) (by simp) ?_
              refine ready_cons rfl (fun KK hKK=>?_) AllReadyH.nil
              refine⟨?_⟩
              go_simp
              refine (cT.out w1.drew rfl rfl rfl rfl).mono ?_
              rintro e w4 ⟨hk4,hE⟩
              obtain⟨hnr,hcy,hry,s7,Q7⟩:=Hy.out
              obtain⟨hw1,qa1,sb1,tm1,hb⟩:=H1.out
              have I:=HI.out
              have kn4:Kn No w w4:=(Kn.of_below Q7).trans ((I.kn.sub fun g hg=>⟨.inl hg,fun e=>by have:=hs.lt g hg;have:=Hsz.out;omega⟩).trans ((Kn.of_below qa1).trans ((Kn.drewR No w1).trans (hk4.sub fun g hg=>.inl (.inl hg)))))
              obtain⟨ry,hry2⟩:∃ ry,ry=term σ y:=⟨_,rfl⟩
              rw [← hry2] at HRb hE hry
              clear hry2
              cases ry with
              | none=>exact absurd rfl hry
              | some yy =>
                cases yy with
                | inl p =>
                  have hRR:Hid (r=some (.inl p)):=HRb.out
                  obtain rfl:e=_:=hE
                  refine⟨rfl,kn4,?_⟩
                  rw [hRR.out]
                  rfl
                | inr d =>
                  have HRd:Hid (r=restR term σ ((ar).drop (k+1)) (tmK 6 [a,d])):=HRb.out
                  obtain⟨vT,rfl,ok2,n4,hTm,hok4,h4,hn4,hs4⟩:=hE
                  have tx4:Tx w4 x (.int .i64 (a.kind:Nat)) (.int .i64 (a.n:Nat)) (.string (bs a.name)) (.slice ra a.r.length rc) (.slice qa a.kids.length qc) (.slice sa a.sys.length sc):=Tx.kn (w:=w1.drew) hS1.1 hk4 (.inl (.inr (by omega)))
                  have by4:Bx w4 b (.int .i64 y.kind) (.string (bs y.name)) (.slice yka y.kids.length ykc) (.slice yna y.names.length ync) (.int .i64 y.at_):=Bx.kn (w:=w1.drew) hS1.2 hk4 (.inr (.inr rfl))
                  have sz4:w1.heap.size≤w4.heap.size:=hk4.size
                  have tma:TmIn (fun g=>ok g∨g=b∨ok2 g) w4 a _:=(TmIn.kn (w:=w1.drew) tm1 hk4 (fun g hg=>.inr (.inl hg))).up fun g hg=>.inl hg
                  have tmd:TmIn (fun g=>ok g∨g=b∨ok2 g) w4 d vT:=hTm.up fun g hg=>.inr (.inr hg)
                  have c2:=twoS_any 6 a d _ vT (fun g=>ok g∨g=b∨ok2 g) w4 tma tmd
                  obtain⟨u0,u1,u2,u3,u4,u5,rfl,o0,o1,o2,o3,o4,o5⟩:=tmd.six
                  have hok2:∀ g,(ok g∨g=b∨ok2 g)→w7.heap.size≤g∧g<w4.heap.size:=fun g hg=>by
                    have hz7:=I.kn.size
                    rcases hg with hg|hg|hg
                    · have:=I.okb g hg;have:=qa1.size;omega
                    · omega
                    · have hq:w1.heap.size≤g∧g<w4.heap.size:=hok4 g hg
                      omega
                  have sh4:R.Sh w4 (fun g=>(No g∨(s≤g∧g<w7.heap.size))∨(ok g∨g=b∨ok2 g)):=hs4.sub (fun g hg=>hg.elim (fun h=>.inl (.inl h)) (fun h=>h.elim (fun h=>.inl (.inr (.inl h))) (fun h=>h.elim (fun h=>.inl (.inr (.inr h))) .inr))) (fun g hg=>.inl (.inl (hs.old g hg)))
                  have kn47:Kn (fun g=>(No g∨(s≤g∧g<w7.heap.size))∧g≠x) w7 w4:=I.kn.trans ((Kn.of_below qa1).trans ((Kn.drewR _ w1).trans (hk4.sub fun g hg=>.inl hg.1)))
                  have H4:Hid (R.In w4 σ n4∧n4≤nr+2*blk y∧R.Sh w4 (fun g=>(No g∨(s≤g∧g<w7.heap.size))∨(ok g∨g=b∨ok2 g))∧(∀ g,(ok g∨g=b∨ok2 g)→w7.heap.size≤g∧g<w4.heap.size)∧Kn (fun g=>(No g∨(s≤g∧g<w7.heap.size))∧g≠x) w7 w4):=⟨h4,hn4,sh4,hok2,kn47⟩
                  clear h4 hn4 sh4 hok2 kn47 hs4 hok4 hTm tma tmd kn4 hk4 I hw1 qa1 tm1 HI H1 cT hS hS1 hry HRb
                  refine hKK.out _ _ by4 (fun hS=>?_)
                  clear hKK KK
                  try simp only [Act.put,List.getElem_toArray,List.getElem_cons_zero,List.getElem_cons_succ,List.setIfInBounds_toArray,List.set_cons_zero,List.set_cons_succ]
                  refine wpAnyH_ready (rs:=[4]) (by kernel_rfl) (by simp) ?_
                  refine ready_cons rfl (fun KK hKK=>?_) AllReadyH.nil
                  refine⟨?_⟩
                  go_simp
                  refine c2.mono ?_
                  rintro e w5 ⟨vW,rfl,hTW,hb5⟩
                  obtain⟨ra2,rc2,qa2,qc2,sa2,sc2,rfl,_⟩:=hTW.form
                  obtain⟨h4,hn4,sh4,hok2,kn47⟩:=H4.out
                  have tx5:=tx4.blw hb5
                  have by5:=by4.blw hb5
                  have in5:=h4.keep hb5
                  have sh5:=sh4.more (ok:=fun g=>w4.heap.size≤g∧g<w5.heap.size) h4 hb5 (fun g hg=>hg)
                  have t8:=tx5.put (.int .i64 ((tmK 6 [a,d]).kind:Nat)) (.int .i64 ((tmK 6 [a,d]).n:Nat)) (.string (bs (tmK 6 [a,d]).name)) (.slice ra2 (tmK 6 [a,d]).r.length rc2) (.slice qa2 (tmK 6 [a,d]).kids.length qc2) (.slice sa2 (tmK 6 [a,d]).sys.length sc2)
                  have k8:Kn (fun g=>g≠x) w5 (pu6 w5 x (.int .i64 ((tmK 6 [a,d]).kind:Nat)) (.int .i64 ((tmK 6 [a,d]).n:Nat)) (.string (bs (tmK 6 [a,d]).name)) (.slice ra2 (tmK 6 [a,d]).r.length rc2) (.slice qa2 (tmK 6 [a,d]).kids.length qc2) (.slice sa2 (tmK 6 [a,d]).sys.length sc2)):=pu6_kn
                  obtain⟨h8,hs8⟩:=in5.off sh5 (x:=x) (.inl (.inl (.inr (by omega)))) hbv k8
                  have hz5:w7.heap.size≤w4.heap.size:=kn47.size
                  have hbx:b≠x:=by have:=(hok2 b (.inr (.inl rfl))).1;omega
                  have by8:=by5.kn k8 hbx
                  have hT8:=hTW.kn k8 fun g hg=>by
                    rcases hg with hg|hg
                    · have:=(hok2 g hg).1;omega
                    · omega
                  have I8:ApI R σ n4 w7.heap.size x (fun g=>No g∨(s≤g∧g<w7.heap.size)) w7 (tmK 6 [a,d]) ra2 qa2 sa2 rc2 qc2 sc2 (fun g=>(ok g∨g=b∨ok2 g)∨(w4.heap.size≤g∧g<w5.heap.size)) (pu6 w5 x (.int .i64 ((tmK 6 [a,d]).kind:Nat)) (.int .i64 ((tmK 6 [a,d]).n:Nat)) (.string (bs (tmK 6 [a,d]).name)) (.slice ra2 (tmK 6 [a,d]).r.length rc2) (.slice qa2 (tmK 6 [a,d]).kids.length qc2) (.slice sa2 (tmK 6 [a,d]).sys.length sc2)):=by
                    refine⟨t8,hT8,fun g hg=>?_,h8,hs8.sub (fun g hg=>hg.elim (fun h=>.inl (.inl h)) (fun h=>h.elim (fun h=>.inl (.inr h)) .inr)) (fun g hg=>.inl (.inl (hs.old g hg))),(kn47.trans ((Kn.of_below hb5))).trans (k8.sub fun g hg=>hg.2)⟩
                    have:=k8.size
                    have:=hb5.size
                    rcases hg with hg|hg
                    · have:=hok2 g hg;omega
                    · omega
                  obtain⟨c0,c1,c2,c3,c4,c5⟩:=tx5.cells
                  have g0:=tx5.cold 0
                  have g1:=tx5.cold 1
                  have g2:=tx5.cold 2
                  have g3:=tx5.cold 3
                  have g4:=tx5.cold 4
                  have g5:=tx5.cold 5
                  obtain⟨dm,hdm⟩:∃ dm,dm=tmK 6 [a,d]:=⟨_,rfl⟩
                  rw [← hdm] at I8 HRd hTW by8
                  simp only [← hdm]
                  have H8:Hid (ApI R σ n4 w7.heap.size x (fun g=>No g∨(s≤g∧g<w7.heap.size)) w7 dm ra2 qa2 sa2 rc2 qc2 sc2 _ _∧n4+cA ((ar).drop (k+1))≤n+c∧Bx _ b (.int .i64 y.kind) (.string (bs y.name)) (.slice yka y.kids.length ykc) (.slice yna y.names.length ync) (.int .i64 y.at_)):=⟨I8,by omega,by8⟩
                  clear I8 t8 k8 h8 hs8 hT8 in5 sh5 hTW hdm h4 hn4 sh4 hok2 kn47 H4 hz5 tx5 hS tx4 by4 by8
                  refine hKK.out _ _ by5 (fun hS=>?_)
                  clear hKK KK
                  try simp only [Act.put,List.getElem_toArray,List.getElem_cons_zero,List.getElem_cons_succ,List.setIfInBounds_toArray,List.set_cons_zero,List.set_cons_succ]
                  refine wpAnyH_ready (rs:=[5]) (by kernel_rfl) (by simp) ?_
                  refine ready_cons rfl (fun KK hKK=>?_) AllReadyH.nil
                  refine⟨?_⟩
                  go_simp
                  unfold pu6 at H8
                  obtain⟨w8,hw8⟩:∃ w8,w8=(((((w5.setCell ⟨x,0,none⟩ (.int .i64 (dm.kind:Nat))).setCell ⟨x,1,none⟩ (.int .i64 (dm.n:Nat))).setCell ⟨x,2,none⟩ (.string (bs dm.name))).setCell ⟨x,3,none⟩ (.slice ra2 dm.r.length rc2)).setCell ⟨x,4,none⟩ (.slice qa2 dm.kids.length qc2)).setCell ⟨x,5,none⟩ (.slice sa2 dm.sys.length sc2):=⟨_,rfl⟩
                  rw [← hw8] at H8 ⊢
                  refine hKK.out _ _ H8.out.2.2 (fun hS=>?_)
                  clear hKK KK hw8 by5 hS c0 c1 c2 c3 c4 c5 g0 g1 g2 g3 g4 g5
                  try simp only [Act.put,List.getElem_toArray,List.getElem_cons_zero,List.getElem_cons_succ,List.setIfInBounds_toArray,List.set_cons_zero,List.set_cons_succ]
                  refine wpAnyH_done (by kernel_rfl) ?_ _
                  go_wp2_with fail
                  go_roundw
                  case rel=>exact⟨k+1,dm,ra2,qa2,sa2,rc2,qc2,sc2,_,n4,by omega,by go_num,H8.out.1,H8.out.2.1,HRd⟩
                  case measure=>simp [intOf];omega
            · refine⟨?_⟩
              go_simp
              refine (cT.out w1.drew rfl rfl rfl rfl).mono ?_
              rintro e w4 ⟨hk4,hE⟩
              obtain⟨hnr,hcy,hry,s7,Q7⟩:=Hy.out
              obtain⟨hw1,qa1,sb1,tm1,hb⟩:=H1.out
              have I:=HI.out
              have kn4:Kn No w w4:=(Kn.of_below Q7).trans ((I.kn.sub fun g hg=>⟨.inl hg,fun e=>by have:=hs.lt g hg;have:=Hsz.out;omega⟩).trans ((Kn.of_below qa1).trans ((Kn.drewR No w1).trans (hk4.sub fun g hg=>.inl (.inl hg)))))
              obtain⟨ry,hry2⟩:∃ ry,ry=term σ y:=⟨_,rfl⟩
              rw [← hry2] at HRb hE hry
              clear hry2
              cases ry with
              | none=>exact absurd rfl hry
              | some yy =>
                cases yy with
                | inl p =>
                  have hRR:Hid (r=some (.inl p)):=HRb.out
                  obtain rfl:e=_:=hE
                  refine⟨rfl,kn4,?_⟩
                  rw [hRR.out]
                  rfl
                | inr d =>
                  have HRd:Hid (r=restR term σ ((ar).drop (k+1)) (tmK 6 [a,d])):=HRb.out
                  obtain⟨vT,rfl,ok2,n4,hTm,hok4,h4,hn4,hs4⟩:=hE
                  have tx4:Tx w4 x (.int .i64 (a.kind:Nat)) (.int .i64 (a.n:Nat)) (.string (bs a.name)) (.slice ra a.r.length rc) (.slice qa a.kids.length qc) (.slice sa a.sys.length sc):=Tx.kn (w:=w1.drew) hS1.1 hk4 (.inl (.inr (by omega)))
                  have by4:Bx w4 b (.int .i64 y.kind) (.string (bs y.name)) (.slice yka y.kids.length ykc) (.slice yna y.names.length ync) (.int .i64 y.at_):=Bx.kn (w:=w1.drew) hS1.2 hk4 (.inr (.inr rfl))
                  have sz4:w1.heap.size≤w4.heap.size:=hk4.size
                  have tma:TmIn (fun g=>ok g∨g=b∨ok2 g) w4 a _:=(TmIn.kn (w:=w1.drew) tm1 hk4 (fun g hg=>.inr (.inl hg))).up fun g hg=>.inl hg
                  have tmd:TmIn (fun g=>ok g∨g=b∨ok2 g) w4 d vT:=hTm.up fun g hg=>.inr (.inr hg)
                  have c2:=twoS_any 6 a d _ vT (fun g=>ok g∨g=b∨ok2 g) w4 tma tmd
                  obtain⟨u0,u1,u2,u3,u4,u5,rfl,o0,o1,o2,o3,o4,o5⟩:=tmd.six
                  have hok2:∀ g,(ok g∨g=b∨ok2 g)→w7.heap.size≤g∧g<w4.heap.size:=fun g hg=>by
                    have hz7:=I.kn.size
                    rcases hg with hg|hg|hg
                    · have:=I.okb g hg;have:=qa1.size;omega
                    · omega
                    · have hq:w1.heap.size≤g∧g<w4.heap.size:=hok4 g hg
                      omega
                  have sh4:R.Sh w4 (fun g=>(No g∨(s≤g∧g<w7.heap.size))∨(ok g∨g=b∨ok2 g)):=hs4.sub (fun g hg=>hg.elim (fun h=>.inl (.inl h)) (fun h=>h.elim (fun h=>.inl (.inr (.inl h))) (fun h=>h.elim (fun h=>.inl (.inr (.inr h))) .inr))) (fun g hg=>.inl (.inl (hs.old g hg)))
                  have kn47:Kn (fun g=>(No g∨(s≤g∧g<w7.heap.size))∧g≠x) w7 w4:=I.kn.trans ((Kn.of_below qa1).trans ((Kn.drewR _ w1).trans (hk4.sub fun g hg=>.inl hg.1)))
                  have H4:Hid (R.In w4 σ n4∧n4≤nr+2*blk y∧R.Sh w4 (fun g=>(No g∨(s≤g∧g<w7.heap.size))∨(ok g∨g=b∨ok2 g))∧(∀ g,(ok g∨g=b∨ok2 g)→w7.heap.size≤g∧g<w4.heap.size)∧Kn (fun g=>(No g∨(s≤g∧g<w7.heap.size))∧g≠x) w7 w4):=⟨h4,hn4,sh4,hok2,kn47⟩
                  clear h4 hn4 sh4 hok2 kn47 hs4 hok4 hTm tma tmd kn4 hk4 I hw1 qa1 tm1 HI H1 cT hS hS1 hry HRb
                  refine hKK.out _ _ by4 (fun hS=>?_)
                  clear hKK KK
                  try simp only [Act.put,List.getElem_toArray,List.getElem_cons_zero,List.getElem_cons_succ,List.setIfInBounds_toArray,List.set_cons_zero,List.set_cons_succ]
                  refine wpAnyH_ready (rs:=[0]) (by kernel_rfl) (by simp) ?_
                  refine ready_cons rfl (fun KK hKK=>?_) AllReadyH.nil
                  refine⟨?_⟩
                  obtain⟨e0,e1,e2,e3,e4,e5⟩:=tx4.cells
                  go_simp
                  clear e0 e1 e2 e3 e4 e5
                  refine hKK.out _ _ hS (fun hS=>?_)
                  clear hKK KK
                  try simp only [Act.put,List.getElem_toArray,List.getElem_cons_zero,List.getElem_cons_succ,List.setIfInBounds_toArray,List.set_cons_zero,List.set_cons_succ]
                  refine wpAnyH_ready (rs:=[4]) (by kernel_rfl) (by simp) ?_
                  refine ready_cons rfl (fun KK hKK=>?_) AllReadyH.nil
                  refine⟨?_⟩
                  go_simp
                  refine c2.mono ?_
                  rintro e w5 ⟨vW,rfl,hTW,hb5⟩
                  obtain⟨ra2,rc2,qa2,qc2,sa2,sc2,rfl,_⟩:=hTW.form
                  obtain⟨h4,hn4,sh4,hok2,kn47⟩:=H4.out
                  have tx5:=tx4.blw hb5
                  have by5:=by4.blw hb5
                  have in5:=h4.keep hb5
                  have sh5:=sh4.more (ok:=fun g=>w4.heap.size≤g∧g<w5.heap.size) h4 hb5 (fun g hg=>hg)
                  have t8:=tx5.put (.int .i64 ((tmK 6 [a,d]).kind:Nat)) (.int .i64 ((tmK 6 [a,d]).n:Nat)) (.string (bs (tmK 6 [a,d]).name)) (.slice ra2 (tmK 6 [a,d]).r.length rc2) (.slice qa2 (tmK 6 [a,d]).kids.length qc2) (.slice sa2 (tmK 6 [a,d]).sys.length sc2)
                  have k8:Kn (fun g=>g≠x) w5 (pu6 w5 x (.int .i64 ((tmK 6 [a,d]).kind:Nat)) (.int .i64 ((tmK 6 [a,d]).n:Nat)) (.string (bs (tmK 6 [a,d]).name)) (.slice ra2 (tmK 6 [a,d]).r.length rc2) (.slice qa2 (tmK 6 [a,d]).kids.length qc2) (.slice sa2 (tmK 6 [a,d]).sys.length sc2)):=pu6_kn
                  obtain⟨h8,hs8⟩:=in5.off sh5 (x:=x) (.inl (.inl (.inr (by omega)))) hbv k8
                  have hz5:w7.heap.size≤w4.heap.size:=kn47.size
                  have hbx:b≠x:=by have:=(hok2 b (.inr (.inl rfl))).1;omega
                  have by8:=by5.kn k8 hbx
                  have hT8:=hTW.kn k8 fun g hg=>by
                    rcases hg with hg|hg
                    · have:=(hok2 g hg).1;omega
                    · omega
                  have I8:ApI R σ n4 w7.heap.size x (fun g=>No g∨(s≤g∧g<w7.heap.size)) w7 (tmK 6 [a,d]) ra2 qa2 sa2 rc2 qc2 sc2 (fun g=>(ok g∨g=b∨ok2 g)∨(w4.heap.size≤g∧g<w5.heap.size)) (pu6 w5 x (.int .i64 ((tmK 6 [a,d]).kind:Nat)) (.int .i64 ((tmK 6 [a,d]).n:Nat)) (.string (bs (tmK 6 [a,d]).name)) (.slice ra2 (tmK 6 [a,d]).r.length rc2) (.slice qa2 (tmK 6 [a,d]).kids.length qc2) (.slice sa2 (tmK 6 [a,d]).sys.length sc2)):=by
                    refine⟨t8,hT8,fun g hg=>?_,h8,hs8.sub (fun g hg=>hg.elim (fun h=>.inl (.inl h)) (fun h=>h.elim (fun h=>.inl (.inr h)) .inr)) (fun g hg=>.inl (.inl (hs.old g hg))),(kn47.trans ((Kn.of_below hb5))).trans (k8.sub fun g hg=>hg.2)⟩
                    have:=k8.size
                    have:=hb5.size
                    rcases hg with hg|hg
                    · have:=hok2 g hg;omega
                    · omega
                  obtain⟨c0,c1,c2,c3,c4,c5⟩:=tx5.cells
                  have g0:=tx5.cold 0
                  have g1:=tx5.cold 1
                  have g2:=tx5.cold 2
                  have g3:=tx5.cold 3
                  have g4:=tx5.cold 4
                  have g5:=tx5.cold 5
                  obtain⟨dm,hdm⟩:∃ dm,dm=tmK 6 [a,d]:=⟨_,rfl⟩
                  rw [← hdm] at I8 HRd hTW by8
                  simp only [← hdm]
                  have H8:Hid (ApI R σ n4 w7.heap.size x (fun g=>No g∨(s≤g∧g<w7.heap.size)) w7 dm ra2 qa2 sa2 rc2 qc2 sc2 _ _∧n4+cA ((ar).drop (k+1))≤n+c∧Bx _ b (.int .i64 y.kind) (.string (bs y.name)) (.slice yka y.kids.length ykc) (.slice yna y.names.length ync) (.int .i64 y.at_)):=⟨I8,by omega,by8⟩
                  clear I8 t8 k8 h8 hs8 hT8 in5 sh5 hTW hdm h4 hn4 sh4 hok2 kn47 H4 hz5 tx5 hS tx4 by4 by8
                  refine hKK.out _ _ by5 (fun hS=>?_)
                  clear hKK KK
                  try simp only [Act.put,List.getElem_toArray,List.getElem_cons_zero,List.getElem_cons_succ,List.setIfInBounds_toArray,List.set_cons_zero,List.set_cons_succ]
                  refine wpAnyH_ready (rs:=[5]) (by kernel_rfl) (by simp) ?_
                  refine ready_cons rfl (fun KK hKK=>?_) AllReadyH.nil
                  refine⟨?_⟩
                  go_simp
                  unfold pu6 at H8
                  obtain⟨w8,hw8⟩:∃ w8,w8=(((((w5.setCell ⟨x,0,none⟩ (.int .i64 (dm.kind:Nat))).setCell ⟨x,1,none⟩ (.int .i64 (dm.n:Nat))).setCell ⟨x,2,none⟩ (.string (bs dm.name))).setCell ⟨x,3,none⟩ (.slice ra2 dm.r.length rc2)).setCell ⟨x,4,none⟩ (.slice qa2 dm.kids.length qc2)).setCell ⟨x,5,none⟩ (.slice sa2 dm.sys.length sc2):=⟨_,rfl⟩
                  rw [← hw8] at H8 ⊢
                  refine hKK.out _ _ H8.out.2.2 (fun hS=>?_)
                  clear hKK KK hw8 by5 hS c0 c1 c2 c3 c4 c5 g0 g1 g2 g3 g4 g5
                  try simp only [Act.put,List.getElem_toArray,List.getElem_cons_zero,List.getElem_cons_succ,List.setIfInBounds_toArray,List.set_cons_zero,List.set_cons_succ]
                  refine wpAnyH_done (by kernel_rfl) ?_ _
                  go_wp2_with fail
                  go_roundw
                  case rel=>exact⟨k+1,dm,ra2,qa2,sa2,rc2,qc2,sc2,_,n4,by omega,by go_num,H8.out.1,H8.out.2.1,HRd⟩
                  case measure=>simp [intOf];omega
          · have HRf:Hid (r=some (.inr a)):=by
              have:=HRa.out
              rw [List.drop_of_length_le (by first | omega | (simp only [List.length_drop];have:=HLh.out;omega))] at this
              exact this
            have FR:=F7.kn I.kn (fun g hg=>hg.elim (fun hg=>⟨.inl (hs.old g hg),by omega⟩) (fun hg=>⟨.inr (by have:=F7.lt;omega),by omega⟩))
            have hl7:=F7.lt
            have tx8:=FR.tx
            have t8:=tx8.put (.int .i64 (a.kind:Nat)) (.int .i64 (a.n:Nat)) (.string (bs a.name)) (.slice ra a.r.length rc) (.slice qa a.kids.length qc) (.slice sa a.sys.length sc)
            have k8:Kn (fun g=>g≠s+1) wr (pu6 wr (s+1) (.int .i64 (a.kind:Nat)) (.int .i64 (a.n:Nat)) (.string (bs a.name)) (.slice ra a.r.length rc) (.slice qa a.kids.length qc) (.slice sa a.sys.length sc)):=pu6_kn
            obtain⟨h8,hs8⟩:=I.rin.off I.sh (x:=s+1) (.inl (.inr (by omega))) (by omega) k8
            have hT8:=I.tm.kn k8 fun g hg=>by have:=(I.okb g hg).1;omega
            have kn8:Kn No w (pu6 wr (s+1) (.int .i64 (a.kind:Nat)) (.int .i64 (a.n:Nat)) (.string (bs a.name)) (.slice ra a.r.length rc) (.slice qa a.kids.length qc) (.slice sa a.sys.length sc)):=((Kn.of_below Q7).trans (I.kn.sub fun g hg=>⟨.inl hg,fun e=>by have:=hs.lt g hg;have:=Hsz.out;omega⟩)).trans ⟨k8.os,k8.tape,k8.output,k8.size,fun g hg hgl=>k8.block g (fun e=>by have:=hs.lt g hg;have:=Hsz.out;omega) hgl⟩
            have hok8:∀ g,ok g→w.heap.size≤g∧g<((pu6 wr (s+1) (.int .i64 (a.kind:Nat)) (.int .i64 (a.n:Nat)) (.string (bs a.name)) (.slice ra a.r.length rc) (.slice qa a.kids.length qc) (.slice sa a.sys.length sc))).heap.size:=fun g hg=>by have:=I.okb g hg;have:=k8.size;have:=Hsz.out;omega
            have hnr2:nr≤n+c:=by omega
            obtain⟨i0,i1,i2,i3,i4,i5⟩:=I.tx.cells
            obtain⟨c0,c1,c2,c3,c4,c5⟩:=tx8.cells
            have g0:=tx8.cold 0
            have g1:=tx8.cold 1
            have g2:=tx8.cold 2
            have g3:=tx8.cold 3
            have g4:=tx8.cold 4
            have g5:=tx8.cold 5
            have H8:Hid (Tx (pu6 wr (s+1) (.int .i64 (a.kind:Nat)) (.int .i64 (a.n:Nat)) (.string (bs a.name)) (.slice ra a.r.length rc) (.slice qa a.kids.length qc) (.slice sa a.sys.length sc)) (s+1) _ _ _ _ _ _∧R.In (pu6 wr (s+1) (.int .i64 (a.kind:Nat)) (.int .i64 (a.n:Nat)) (.string (bs a.name)) (.slice ra a.r.length rc) (.slice qa a.kids.length qc) (.slice sa a.sys.length sc)) σ nr∧R.Sh (pu6 wr (s+1) (.int .i64 (a.kind:Nat)) (.int .i64 (a.n:Nat)) (.string (bs a.name)) (.slice ra a.r.length rc) (.slice qa a.kids.length qc) (.slice sa a.sys.length sc)) (fun g=>(No g∨(s≤g∧g<w7.heap.size))∨ok g)∧TmIn ok (pu6 wr (s+1) (.int .i64 (a.kind:Nat)) (.int .i64 (a.n:Nat)) (.string (bs a.name)) (.slice ra a.r.length rc) (.slice qa a.kids.length qc) (.slice sa a.sys.length sc)) a _∧Kn No w (pu6 wr (s+1) (.int .i64 (a.kind:Nat)) (.int .i64 (a.n:Nat)) (.string (bs a.name)) (.slice ra a.r.length rc) (.slice qa a.kids.length qc) (.slice sa a.sys.length sc))∧(∀ g,ok g→w.heap.size≤g∧g<((pu6 wr (s+1) (.int .i64 (a.kind:Nat)) (.int .i64 (a.n:Nat)) (.string (bs a.name)) (.slice ra a.r.length rc) (.slice qa a.kids.length qc) (.slice sa a.sys.length sc))).heap.size)):=⟨t8,h8,hs8,hT8,kn8,hok8⟩
            clear t8 h8 hs8 hT8 kn8 hok8 k8 tx8 FR F7 Q7 s7 h7 I hnr HRa hl7 HF
            go_wp2
            obtain⟨t8,h8,hs8,hT8,kn8,hok8⟩:=H8.out
            unfold pu6 at t8 h8 hs8 hT8 kn8 hok8
            obtain⟨d0,d1,d2,d3,d4,d5⟩:=t8.cells
            refine⟨rfl,.agg #[.int .i64 (a.kind:Nat),.int .i64 (a.n:Nat),.string (bs a.name),.slice ra a.r.length rc,.slice qa a.kids.length qc,.slice sa a.sys.length sc],by simp only [results,Tryz.results44];simp [go_sem,d0,d1,d2,d3,d4,d5],kn8,?_⟩
            rw [HRf.out]
            exact⟨_,rfl,ok,nr,hT8,hok8,h8,hnr2,hs8.sub (fun g hg=>hg.elim (fun h=>.inl (.inl h)) .inr) (fun g hg=>.inl (hs.old g hg))⟩
  | true =>
    have HR:Hid (r=if decide (ar.length<tk.length) then refuse t 61 else if decide (kk=21∨kk=26) then refuse hd 61 else (callR term σ kk tk (ar.take tk.length) []).bnd fun out=>restR term σ (ar.drop tk.length) out):=by
      have:=HRR.out
      unfold headR at this
      simp only [hwi,Bool.true_and,if_true] at this
      rw [hwk,hwt] at this
      exact this
    have HF6:Hid (ApF m s z p R.bw R.bv kk t hd ar tk ka na fka fna aa ta kc nc fkc fnc w6∧Below w.heap.size w w6):=⟨F6,Q6⟩
    have hp6:p<w6.heap.size:=F6.lt.2.2.2.2
    have cG:=giveUp_any m t _ 61 w6 F6.ht
    have cN:=needs_any kk ta tk.length tk.length w6
    clear hwk hwt hwi hh1 F6 Q6 HRR
    by_cases hfew:ar.length<tk.length
    · have HR1:Hid (r=some (.inl (t.at_,61))):=by have:=HR.out;rw [if_pos (by simpa using hfew)] at this;exact this
      have hfi:((ar.length:Int) < (tk.length:Int)):=by omega
      clear cN HR
      go_wp2_with (go_at_call 50;refine cG.mono ?_;rintro e w8 ⟨rfl,hb8⟩)
      obtain⟨F6,Q6⟩:=HF6.out
      refine⟨rfl,(Kn.of_below Q6).trans (Kn.of_below hb8),?_⟩
      rw [HR1.out]
      rfl
    · have HR1:Hid (r=if decide (kk=21∨kk=26) then refuse hd 61 else (callR term σ kk tk (ar.take tk.length) []).bnd fun out=>restR term σ (ar.drop tk.length) out):=by have:=HR.out;rw [if_neg (by simpa using hfew)] at this;exact this
      have hfi:¬ ((ar.length:Int) < (tk.length:Int)):=by omega
      clear cG HR
      by_cases hnd:kk=21∨kk=26
      · rw [decide_eq_true hnd] at cN
        have HR2:Hid (r=some (.inl (hd.at_,61))):=by have:=HR1.out;rw [if_pos (by simpa using hnd)] at this;exact this
        clear HR1 hnd
        go_wp2_with fail
        refine cN.mono ?_
        rintro e w8 ⟨rfl,hb8⟩
        obtain⟨F6,Q6⟩:=HF6.out
        have F8:=F6.blw hb8
        have Q8:Below w.heap.size w w8:=Q6.trans (hb8.mono Q6.size)
        have HQ8:Hid (Below w.heap.size w w8):=Q8
        have cG:=giveUp_any m hd _ 61 w8 F8.hh
        clear b0 b1 b2 b3 b4 f0 f1 f2 f3 f4 p0 p1
        obtain⟨f0,f1,f2,f3,f4⟩:=F8.fx.cells
        clear F6 Q6 HF6 F8 Q8 cN hb8
        go_wp2_with (go_at_call 50;refine cG.mono ?_;rintro e w9 ⟨rfl,hb9⟩)
        refine⟨rfl,(Kn.of_below HQ8.out).trans (Kn.of_below hb9),?_⟩
        rw [HR2.out]
        rfl
      · rw [decide_eq_false hnd] at cN
        have HR:Hid (r=(callR term σ kk tk (ar.take tk.length) []).bnd fun out=>restR term σ (ar.drop tk.length) out):=by have:=HR1.out;rw [if_neg (by simpa using hnd)] at this;exact this
        clear HR1 hnd
        go_wp2_with fail
        refine cN.mono ?_
        rintro e w8 ⟨rfl,hb8⟩
        obtain⟨F6,Q6⟩:=HF6.out
        have F8:=F6.blw hb8
        have Q8:Below w.heap.size w w8:=Q6.trans (hb8.mono Q6.size)
        clear b0 b1 b2 b3 b4 f0 f1 f2 f3 f4 p0 p1 HF6 F6 Q6
        have hp8:p<w8.heap.size:=F8.lt.2.2.2.2
        obtain⟨w7,hw7⟩:∃ w7,w7=w8.alloc (.cells #[.int .i64 0,.int .i64 0,.string ⟨#[]⟩,.slice none 0 0,.slice none 0 0,.slice none 0 0] 37):=⟨_,rfl⟩
        have q7:Below w8.heap.size w8 w7:=by rw [hw7];exact below_alloc _ _
        have t7:Tx w7 w8.heap.size (.int .i64 0) (.int .i64 0) (.string ⟨#[]⟩) (.slice none 0 0) (.slice none 0 0) (.slice none 0 0):=by rw [hw7];exact tx_new _ _ _ _ _ _ _
        have s7:w7.heap.size=w8.heap.size+1:=by rw [hw7];simp
        have F7:=F8.blw q7
        have Q7:Below w.heap.size w w7:=Q8.trans (q7.mono Q8.size)
        have h7:=h.keep Q7
        have hs7:R.Sh w7 (fun g=>No g∨(s≤g∧g<w7.heap.size)):=hs.more h Q7 fun g hg=>⟨by have:=Hsz.out;omega,hg.2⟩
        have hrc:callR term σ kk tk (ar.take tk.length) []≠none:=fun e=>hr (by rw [HR.out,e];rfl)
        obtain⟨x,hx⟩:∃ x,x=w8.heap.size:=⟨_,rfl⟩
        have hbv:R.bv≤x:=by have:=F7.lt;omega
        have hpx:p<x∧s≤x:=by have:=F7.lt;omega
        have cC:Hid (∀ w4,w4.heap=w7.heap→w4.os=w7.os→w4.tape=w7.tape→w4.output=w7.output→Calls Tryz.prog 75 #[R.ptr,.agg #[.int .i64 (kk:Nat),.slice ta tk.length tk.length],.slice aa tk.length ac] w4 (OutT R σ n (fun g=>No g∨(s≤g∧g<w7.heap.size)) (cA (ar.take tk.length)) (callR term σ kk tk (ar.take tk.length) []) w4)):=by
          intro w4 e1 e2 e3 e4
          have hbl:Below w7.heap.size w7 w4:=⟨e2,e3,e4,by rw [e1];exact Nat.le_refl _,fun k _=>by rw [e1]⟩
          have F4:=F7.blw hbl
          have hl7:=F7.lt
          exact hC kk tk s z aa ta ac _ w4 (h7.keep hbl) (hs7.keep h7 hbl) F4.tk (F4.ar.take _) (by omega) (by omega) (fun g a1 a2=>.inr (by omega)) (by have:=hbl.size;omega) hrc
        have H7:Hid (w7=_∧Tx w7 x _ _ _ _ _ _∧w7.heap.size=x+1∧ApF m s z p R.bw R.bv kk t hd ar tk ka na fka fna aa ta kc nc fkc fnc w7∧Below w.heap.size w w7∧R.In w7 σ n∧R.Sh w7 (fun g=>No g∨(s≤g∧g<w7.heap.size))∧x=w8.heap.size):=⟨hw7,by rw [hx];exact t7,by rw [hx];exact s7,F7,Q7,h7,hs7,hx⟩
        have hS7:=F7.wx
        clear hw7 q7 t7 s7 F7 Q7 h7 hs7 F8 Q8 cN hb8 hx hp8
        go_wp2_with fail
        obtain⟨hw7,_,_,_,_,_,_,hx⟩:=H7.out
        rw [← hw7]
        simp only [← hx]
        clear hw7 hx
        have hck:tk.length≤ac:=by omega
        refine wp_region_held_drew (S:=fun w9=>Wx w9 p kk (.slice ta tk.length tk.length)) (by kernel_rfl) hS7 (fun hS=>?_)
        refine wpAnyH_take (i:=0) (v:=.pointer (some ⟨R.r,0,none⟩)) rfl (by kernel_rfl) (by kernel_rfl) (by kernel_rfl) (fun _ _ _ h=>h) (Or.inl ⟨by rfl,fun w hS=>by go_simp⟩) hS ?_
        simp only [Act.put,List.getElem_toArray,List.getElem_cons_zero,List.getElem_cons_succ,List.setIfInBounds_toArray,List.set_cons_zero,List.set_cons_succ]
        refine wpAnyH_take (i:=1) (v:=.agg #[.int .i64 (kk:Nat),.slice ta tk.length tk.length]) rfl (by kernel_rfl) (by kernel_rfl) (by kernel_rfl) (fun _ _ _ h=>h) (Or.inl ⟨by rfl,fun w hS=>by obtain⟨e0,e1⟩:=hS.cells;go_simp⟩) hS ?_
        simp only [Act.put,List.getElem_toArray,List.getElem_cons_zero,List.getElem_cons_succ,List.setIfInBounds_toArray,List.set_cons_zero,List.set_cons_succ]
        refine wpAnyH_take (i:=2) (v:=.slice aa ar.length ac) rfl (by kernel_rfl) (by kernel_rfl) (by kernel_rfl) (fun _ _ _ h=>h) (Or.inl ⟨by rfl,fun w hS=>by go_simp⟩) hS ?_
        simp only [Act.put,List.getElem_toArray,List.getElem_cons_zero,List.getElem_cons_succ,List.setIfInBounds_toArray,List.set_cons_zero,List.set_cons_succ]
        refine wpAnyH_take (i:=3) (v:=.pointer (some ⟨p,1,none⟩)) rfl (by kernel_rfl) (by kernel_rfl) (by kernel_rfl) (fun _ _ _ h=>h) (Or.inl ⟨by rfl,fun w hS=>by go_simp⟩) hS ?_
        simp only [Act.put,List.getElem_toArray,List.getElem_cons_zero,List.getElem_cons_succ,List.setIfInBounds_toArray,List.set_cons_zero,List.set_cons_succ]
        refine wpAnyH_take (i:=4) (v:=.slice ta tk.length tk.length) rfl (by kernel_rfl) (by kernel_rfl) (by kernel_rfl) (fun _ _ _ h=>h) (Or.inl ⟨by rfl,fun w hS=>by obtain⟨e0,e1⟩:=hS.cells;go_simp⟩) hS ?_
        simp only [Act.put,List.getElem_toArray,List.getElem_cons_zero,List.getElem_cons_succ,List.setIfInBounds_toArray,List.set_cons_zero,List.set_cons_succ]
        refine wpAnyH_take (i:=5) (v:=.int .i64 (tk.length:Nat)) rfl (by kernel_rfl) (by kernel_rfl) (by kernel_rfl) (fun _ _ _ h=>h) (Or.inl ⟨by rfl,fun w hS=>by go_simp⟩) hS ?_
        simp only [Act.put,List.getElem_toArray,List.getElem_cons_zero,List.getElem_cons_succ,List.setIfInBounds_toArray,List.set_cons_zero,List.set_cons_succ]
        refine wpAnyH_take (i:=6) (v:=.slice aa tk.length ac) rfl (by kernel_rfl) (by kernel_rfl) (by kernel_rfl) (fun _ _ _ h=>h) (Or.inl ⟨by rfl,fun w hS=>by go_simp⟩) hS ?_
        simp only [Act.put,List.getElem_toArray,List.getElem_cons_zero,List.getElem_cons_succ,List.setIfInBounds_toArray,List.set_cons_zero,List.set_cons_succ]
        refine wpAnyH_ready (rs:=[7]) (by kernel_rfl) (by simp) ?_
        refine ready_cons rfl (fun KK hKK=>?_) AllReadyH.nil
        refine⟨?_⟩
        go_simp
        refine (cC.out w7.drew rfl rfl rfl rfl).mono ?_
        rintro e wq ⟨kn8,hE⟩
        obtain⟨hw7,t7,s7,F7,Q7,h7,hs7,hxx⟩:=H7.out
        clear hw7 hxx
        have kn8:Kn (fun g=>No g∨(s≤g∧g<w7.heap.size)) w7 wq:=(Kn.drewR _ w7).trans kn8
        obtain⟨r8,h8r⟩:∃ r8,r8=callR term σ kk tk (ar.take tk.length) []:=⟨_,rfl⟩
        rw [← h8r] at HR hE
        clear h8r
        cases r8 with
        | none=>exact absurd HR.out hr
        | some yy =>
          cases yy with
          | inl p =>
            have hRR:Hid (r=some (.inl p)):=HR.out
            obtain rfl:e=_:=hE
            refine⟨rfl,(Kn.of_below Q7).trans (kn8.sub fun g hg=>.inl hg),?_⟩
            rw [hRR.out]
            rfl
          | inr a =>
            have HRa:Hid (r=restR term σ (ar.drop tk.length) a):=HR.out
            obtain⟨vT,rfl,ok,n8,hTm,hok8,h8,hn8,hs8⟩:=hE
            have hok8:∀ g,ok g→w7.heap.size≤g∧g<wq.heap.size:=hok8
            obtain⟨ra,rc,qa,qc,sa,sc,rfl,_⟩:=hTm.form
            have tx8:=t7.kn kn8 (.inr (by omega))
            have t9:=tx8.put (.int .i64 (a.kind:Nat)) (.int .i64 (a.n:Nat)) (.string (bs a.name)) (.slice ra a.r.length rc) (.slice qa a.kids.length qc) (.slice sa a.sys.length sc)
            have k9:Kn (fun g=>g≠x) wq (pu6 wq x (.int .i64 (a.kind:Nat)) (.int .i64 (a.n:Nat)) (.string (bs a.name)) (.slice ra a.r.length rc) (.slice qa a.kids.length qc) (.slice sa a.sys.length sc)):=pu6_kn
            obtain⟨h9,hs9⟩:=h8.off hs8 (x:=x) (.inl (.inr (by omega))) hbv k9
            have hT9:=hTm.kn k9 fun g hg=>by have:w7.heap.size≤g:=(hok8 g hg).1;omega
            have I9:ApI R σ n8 w7.heap.size x (fun g=>No g∨(s≤g∧g<w7.heap.size)) w7 a ra qa sa rc qc sc ok (pu6 wq x (.int .i64 (a.kind:Nat)) (.int .i64 (a.n:Nat)) (.string (bs a.name)) (.slice ra a.r.length rc) (.slice qa a.kids.length qc) (.slice sa a.sys.length sc)):=⟨t9,hT9,fun g hg=>⟨(hok8 g hg).1,by have:=(hok8 g hg).2;have:=k9.size;omega⟩,h9,hs9,(kn8.sub fun g hg=>hg.1).trans (k9.sub fun g hg=>hg.2)⟩
            have wxq:=F7.wx.kn kn8 (.inr (by have:=F7.lt;omega))
            have wx9:=wxq.kn k9 (by omega)
            obtain⟨c0,c1,c2,c3,c4,c5⟩:=tx8.cells
            have g0:=tx8.cold 0
            have g1:=tx8.cold 1
            have g2:=tx8.cold 2
            have g3:=tx8.cold 3
            have g4:=tx8.cold 4
            have g5:=tx8.cold 5
            have H9:Hid (ApI R σ n8 w7.heap.size x (fun g=>No g∨(s≤g∧g<w7.heap.size)) w7 a ra qa sa rc qc sc ok (pu6 wq x (.int .i64 (a.kind:Nat)) (.int .i64 (a.n:Nat)) (.string (bs a.name)) (.slice ra a.r.length rc) (.slice qa a.kids.length qc) (.slice sa a.sys.length sc))):=I9
            have HW9:Hid (Wx (pu6 wq x (.int .i64 (a.kind:Nat)) (.int .i64 (a.n:Nat)) (.string (bs a.name)) (.slice ra a.r.length rc) (.slice qa a.kids.length qc) (.slice sa a.sys.length sc)) p kk (.slice ta tk.length tk.length)):=wx9
            have HF:Hid (ApF m s z p R.bw R.bv kk t hd ar tk ka na fka fna aa ta kc nc fkc fnc w7∧Below w.heap.size w w7∧w7.heap.size=x+1∧R.In w7 σ n):=⟨F7,Q7,s7,h7⟩
            have hn8:n8+cA (ar.drop tk.length)≤n+c:=by have:=cA_app (ar.take tk.length) (ar.drop tk.length);rw [List.take_append_drop] at this;omega
            clear I9 hT9 t9 k9 h9 hs9 tx8 hTm h8 hs8 kn8 hok8 t7 HR wx9 F7 Q7 s7 h7 hs7 hS hS7 H7 cC hrc
            refine hKK.out _ _ wxq (fun hS=>?_)
            clear hKK KK wxq
            try simp only [Act.put,List.getElem_toArray,List.getElem_cons_zero,List.getElem_cons_succ,List.setIfInBounds_toArray,List.set_cons_zero,List.set_cons_succ]
            refine wpAnyH_ready (rs:=[8]) (by kernel_rfl) (by simp) ?_
            refine ready_cons rfl (fun KK hKK=>?_) AllReadyH.nil
            refine⟨?_⟩
            go_simp
            unfold pu6 at H9 HW9
            obtain⟨w9,hw9⟩:∃ w9,w9=(((((wq.setCell ⟨x,0,none⟩ (.int .i64 (a.kind:Nat))).setCell ⟨x,1,none⟩ (.int .i64 (a.n:Nat))).setCell ⟨x,2,none⟩ (.string (bs a.name))).setCell ⟨x,3,none⟩ (.slice ra a.r.length rc)).setCell ⟨x,4,none⟩ (.slice qa a.kids.length qc)).setCell ⟨x,5,none⟩ (.slice sa a.sys.length sc):=⟨_,rfl⟩
            rw [← hw9] at H9 HW9 ⊢
            refine hKK.out _ _ HW9.out (fun hS=>?_)
            clear hKK KK hw9 hS c0 c1 c2 c3 c4 c5 g0 g1 g2 g3 g4 g5
            try simp only [Act.put,List.getElem_toArray,List.getElem_cons_zero,List.getElem_cons_succ,List.setIfInBounds_toArray,List.set_cons_zero,List.set_cons_succ]
            refine wpAnyH_done (by kernel_rfl) ?_ _
            obtain⟨p0,p1⟩:=HW9.out.cells
            clear p0 HW9
            by_cases hcap:ac=tk.length
            · subst hcap
              have HLh:Hid ((0:Nat)=ar.length - tk.length):=(by omega:(0:Nat)=ar.length - tk.length)
              go_wp2_with fail
              go_loopw [71] (fun i wr=>∃ (k:Nat) (a:Tm) (ra qa sa:Option Addr) (rc qc sc:Nat) (ok:Nat→Prop) (nr:Nat),k≤0∧i=.int .i64 k∧ApI R σ nr w7.heap.size x (fun g=>No g∨(s≤g∧g<w7.heap.size)) w7 a ra qa sa rc qc sc ok wr∧nr+cA ((ar.drop tk.length).drop k)≤n+c∧Hid (r=restR term σ ((ar.drop tk.length).drop k) a)) (fun i _=>0 - (intOf i).toNat)
              case atStart=>exact⟨0,a,ra,qa,sa,rc,qc,sc,ok,n8,Nat.zero_le _,rfl,H9.out,hn8,HRa⟩
              case round =>
                clear HRa H9 p1 hn8
                obtain⟨k,a,ra,qa,sa,rc,qc,sc,ok,nr,hk,rfl,I,hnr,HRa⟩:=hrel
                obtain⟨F7,Q7,s7,h7⟩:=HF.out
                by_cases hlt:k<0
                · exact absurd hlt (by have:=HLh.out;omega)
                · have HRf:Hid (r=some (.inr a)):=by
                    have:=HRa.out
                    rw [List.drop_of_length_le (by first | omega | (simp only [List.length_drop];have:=HLh.out;omega))] at this
                    exact this
                  have FR:=F7.kn I.kn (fun g hg=>hg.elim (fun hg=>⟨.inl (hs.old g hg),by omega⟩) (fun hg=>⟨.inr (by have:=F7.lt;omega),by omega⟩))
                  have hl7:=F7.lt
                  have tx8:=FR.tx
                  have t8:=tx8.put (.int .i64 (a.kind:Nat)) (.int .i64 (a.n:Nat)) (.string (bs a.name)) (.slice ra a.r.length rc) (.slice qa a.kids.length qc) (.slice sa a.sys.length sc)
                  have k8:Kn (fun g=>g≠s+1) wr (pu6 wr (s+1) (.int .i64 (a.kind:Nat)) (.int .i64 (a.n:Nat)) (.string (bs a.name)) (.slice ra a.r.length rc) (.slice qa a.kids.length qc) (.slice sa a.sys.length sc)):=pu6_kn
                  obtain⟨h8,hs8⟩:=I.rin.off I.sh (x:=s+1) (.inl (.inr (by omega))) (by omega) k8
                  have hT8:=I.tm.kn k8 fun g hg=>by have:=(I.okb g hg).1;omega
                  have kn8:Kn No w (pu6 wr (s+1) (.int .i64 (a.kind:Nat)) (.int .i64 (a.n:Nat)) (.string (bs a.name)) (.slice ra a.r.length rc) (.slice qa a.kids.length qc) (.slice sa a.sys.length sc)):=((Kn.of_below Q7).trans (I.kn.sub fun g hg=>⟨.inl hg,fun e=>by have:=hs.lt g hg;have:=Hsz.out;omega⟩)).trans ⟨k8.os,k8.tape,k8.output,k8.size,fun g hg hgl=>k8.block g (fun e=>by have:=hs.lt g hg;have:=Hsz.out;omega) hgl⟩
                  have hok8:∀ g,ok g→w.heap.size≤g∧g<((pu6 wr (s+1) (.int .i64 (a.kind:Nat)) (.int .i64 (a.n:Nat)) (.string (bs a.name)) (.slice ra a.r.length rc) (.slice qa a.kids.length qc) (.slice sa a.sys.length sc))).heap.size:=fun g hg=>by have:=I.okb g hg;have:=k8.size;have:=Hsz.out;omega
                  have hnr2:nr≤n+c:=by omega
                  obtain⟨i0,i1,i2,i3,i4,i5⟩:=I.tx.cells
                  obtain⟨c0,c1,c2,c3,c4,c5⟩:=tx8.cells
                  have g0:=tx8.cold 0
                  have g1:=tx8.cold 1
                  have g2:=tx8.cold 2
                  have g3:=tx8.cold 3
                  have g4:=tx8.cold 4
                  have g5:=tx8.cold 5
                  have H8:Hid (Tx (pu6 wr (s+1) (.int .i64 (a.kind:Nat)) (.int .i64 (a.n:Nat)) (.string (bs a.name)) (.slice ra a.r.length rc) (.slice qa a.kids.length qc) (.slice sa a.sys.length sc)) (s+1) _ _ _ _ _ _∧R.In (pu6 wr (s+1) (.int .i64 (a.kind:Nat)) (.int .i64 (a.n:Nat)) (.string (bs a.name)) (.slice ra a.r.length rc) (.slice qa a.kids.length qc) (.slice sa a.sys.length sc)) σ nr∧R.Sh (pu6 wr (s+1) (.int .i64 (a.kind:Nat)) (.int .i64 (a.n:Nat)) (.string (bs a.name)) (.slice ra a.r.length rc) (.slice qa a.kids.length qc) (.slice sa a.sys.length sc)) (fun g=>(No g∨(s≤g∧g<w7.heap.size))∨ok g)∧TmIn ok (pu6 wr (s+1) (.int .i64 (a.kind:Nat)) (.int .i64 (a.n:Nat)) (.string (bs a.name)) (.slice ra a.r.length rc) (.slice qa a.kids.length qc) (.slice sa a.sys.length sc)) a _∧Kn No w (pu6 wr (s+1) (.int .i64 (a.kind:Nat)) (.int .i64 (a.n:Nat)) (.string (bs a.name)) (.slice ra a.r.length rc) (.slice qa a.kids.length qc) (.slice sa a.sys.length sc))∧(∀ g,ok g→w.heap.size≤g∧g<((pu6 wr (s+1) (.int .i64 (a.kind:Nat)) (.int .i64 (a.n:Nat)) (.string (bs a.name)) (.slice ra a.r.length rc) (.slice qa a.kids.length qc) (.slice sa a.sys.length sc))).heap.size)):=⟨t8,h8,hs8,hT8,kn8,hok8⟩
                  clear t8 h8 hs8 hT8 kn8 hok8 k8 tx8 FR F7 Q7 s7 h7 I hnr HRa hl7 HF
                  go_wp2
                  obtain⟨t8,h8,hs8,hT8,kn8,hok8⟩:=H8.out
                  unfold pu6 at t8 h8 hs8 hT8 kn8 hok8
                  obtain⟨d0,d1,d2,d3,d4,d5⟩:=t8.cells
                  refine⟨rfl,.agg #[.int .i64 (a.kind:Nat),.int .i64 (a.n:Nat),.string (bs a.name),.slice ra a.r.length rc,.slice qa a.kids.length qc,.slice sa a.sys.length sc],by simp only [results,Tryz.results44];simp [go_sem,d0,d1,d2,d3,d4,d5],kn8,?_⟩
                  rw [HRf.out]
                  exact⟨_,rfl,ok,nr,hT8,hok8,h8,hnr2,hs8.sub (fun g hg=>hg.elim (fun h=>.inl (.inl h)) .inr) (fun g hg=>.inl (hs.old g hg))⟩
            · obtain⟨ab,hab⟩:∃ ab,ab=aa.map fun x=>x.add (tk.length*5):=⟨_,rfl⟩
              have Hab:Hid (ab=aa.map fun x=>x.add (tk.length*5)):=hab
              obtain⟨L,hL⟩:∃ L,L=ar.length - tk.length:=⟨_,rfl⟩
              have HLh:Hid (L=ar.length - tk.length):=hL
              have hL6:L≤1000000:=by omega
              go_wp2_with fail
              simp only [← hL,← hab]
              clear hL hab
              go_loopw [71] (fun i wr=>∃ (k:Nat) (a:Tm) (ra qa sa:Option Addr) (rc qc sc:Nat) (ok:Nat→Prop) (nr:Nat),k≤L∧i=.int .i64 k∧ApI R σ nr w7.heap.size x (fun g=>No g∨(s≤g∧g<w7.heap.size)) w7 a ra qa sa rc qc sc ok wr∧nr+cA ((ar.drop tk.length).drop k)≤n+c∧Hid (r=restR term σ ((ar.drop tk.length).drop k) a)) (fun i _=>L - (intOf i).toNat)
              case atStart=>exact⟨0,a,ra,qa,sa,rc,qc,sc,ok,n8,Nat.zero_le _,rfl,H9.out,hn8,HRa⟩
              case round =>
                clear HRa H9 p1 hn8
                obtain⟨k,a,ra,qa,sa,rc,qc,sc,ok,nr,hk,rfl,I,hnr,HRa⟩:=hrel
                obtain⟨F7,Q7,s7,h7⟩:=HF.out
                by_cases hlt:k<L
                ·
                  obtain⟨y,hy⟩:∃ y,(ar.drop tk.length)[k]? = some y:=⟨_,List.getElem?_eq_getElem (by rw [List.length_drop];have:=HLh.out;omega)⟩
                  have hdr:(ar.drop tk.length).drop k=y :: (ar.drop tk.length).drop (k+1):=by
                    obtain⟨hlt2,e⟩:=List.getElem?_eq_some_iff.1 hy
                    rw [List.drop_eq_getElem_cons hlt2,e]
                  have hymem:y∈ar:=List.mem_of_mem_drop (List.mem_of_getElem? hy)
                  have FR:=F7.kn I.kn (fun g hg=>hg.elim (fun hg=>⟨.inl (hs.old g hg),by omega⟩) (fun hg=>⟨.inr (by have:=F7.lt;omega),by omega⟩))
                  obtain⟨g,off,yka,ykc,yna,ync,hea,hg1,hg2,hSy,y0,y1,y2,y3,y4⟩:=FR.ar (tk.length+k) y (by rw [List.getElem?_drop] at hy;exact hy)
                  have hab2:ab=some ⟨g,off+tk.length*5,none⟩:=by rw [Hab.out,hea,Option.map_some,Addr.add_lit]
                  clear Hab
                  subst hab2
                  subst hea
                  have e5:off+(tk.length+k) * 5=off+tk.length*5+k*5:=by omega
                  rw [e5] at y0 y1 y2 y3 y4
                  clear e5
                  obtain⟨b,hb⟩:∃ b,b=wr.heap.size:=⟨_,rfl⟩
                  obtain⟨w1,hw1⟩:∃ w1,w1=wr.alloc (.cells #[.int .i64 y.kind,.string (bs y.name),.slice yka y.kids.length ykc,.slice yna y.names.length ync,.int .i64 y.at_] 26):=⟨_,rfl⟩
                  have qa1:Below wr.heap.size wr w1:=by rw [hw1];exact below_alloc _ _
                  have by1:Bx w1 wr.heap.size (.int .i64 y.kind) (.string (bs y.name)) (.slice yka y.kids.length ykc) (.slice yna y.names.length ync) (.int .i64 y.at_):=by rw [hw1];exact bx_new _ _ _ _ _ _
                  have sb1:w1.heap.size=wr.heap.size+1:=by rw [hw1];simp
                  have hmr:m≤wr.heap.size:=by have:=FR.lt;omega
                  have tx1:=I.tx.blw qa1
                  have in1:=I.rin.keep qa1
                  have sh1:R.Sh w1 (fun g=>(No g∨(s≤g∧g<w7.heap.size))∨ok g∨g=b):=(I.sh.more (ok:=fun g=>g=b) I.rin qa1 (fun g hg=>by omega)).sub (fun g hg=>hg.elim (fun h=>.inl (.inl h)) (fun h=>h.elim (fun h=>.inl (.inr h)) .inr)) (fun g hg=>.inl (.inl (hs.old g hg)))
                  have sy1:=hSy.keep (qa1.mono hmr)
                  have tm1:=I.tm.blw qa1
                  have hcy:2*blk y+cA ((ar.drop tk.length).drop (k+1))=cA ((ar.drop tk.length).drop k):=by rw [hdr];rfl
                  have HRb:Hid (r=(term σ y).bnd fun v=>restR term σ ((ar.drop tk.length).drop (k+1)) (tmK 6 [a,v])):=by have:=HRa.out;rw [hdr] at this;exact this
                  have hry:term σ y≠none:=fun e=>hr (by rw [HRb.out,e];rfl)
                  have hcyc:cA ((ar.drop tk.length).drop k)≤c:=by have:=cA_app ((ar.drop tk.length).take k) ((ar.drop tk.length).drop k);rw [List.take_append_drop] at this;have:=cA_app (ar.take tk.length) (ar.drop tk.length);rw [List.take_append_drop] at this;omega
                  have cT:Hid (∀ w4,w4.heap=w1.heap→w4.os=w1.os→w4.tape=w1.tape→w4.output=w1.output→Calls Tryz.prog 26 #[R.ptr,.agg #[.int .i64 y.kind,.string (bs y.name),.slice yka y.kids.length ykc,.slice yna y.names.length ync,.int .i64 y.at_]] w4 (OutT R σ nr (fun g=>(No g∨(s≤g∧g<w7.heap.size))∨ok g∨g=b) (2*blk y) (term σ y) w4)):=by
                    intro w4 e1 e2 e3 e4
                    have hbl:Below w1.heap.size w1 w4:=⟨e2,e3,e4,by rw [e1];exact Nat.le_refl _,fun k _=>by rw [e1]⟩
                    exact hAr2 y hymem σ nr m _ _ w4 (in1.keep hbl) (sh1.keep in1 hbl) (sy1.keep (hbl.mono (by omega))) hm (by omega) (by omega) (by omega) hry
                  rw [← hb] at by1 sb1
                  have hS1:Tx w1 x (.int .i64 (a.kind:Nat)) (.int .i64 (a.n:Nat)) (.string (bs a.name)) (.slice ra a.r.length rc) (.slice qa a.kids.length qc) (.slice sa a.sys.length sc)∧Bx w1 b (.int .i64 y.kind) (.string (bs y.name)) (.slice yka y.kids.length ykc) (.slice yna y.names.length ync) (.int .i64 y.at_):=⟨tx1,by1⟩
                  have H1:Hid (w1=_∧Below wr.heap.size wr w1∧w1.heap.size=b+1∧TmIn ok w1 a _∧b=wr.heap.size):=⟨hw1,qa1,sb1,tm1,hb⟩
                  have HI:Hid (ApI R σ nr w7.heap.size x (fun g=>No g∨(s≤g∧g<w7.heap.size)) w7 a ra qa sa rc qc sc ok wr):=I
                  have Hy:Hid (nr+cA ((ar.drop tk.length).drop k)≤n+c∧2*blk y+cA ((ar.drop tk.length).drop (k+1))=cA ((ar.drop tk.length).drop k)∧term σ y≠none∧w7.heap.size=x+1∧Below w.heap.size w w7):=⟨hnr,hcy,hry,s7,Q7⟩
                  clear hw1 qa1 sb1 tm1 I hnr hcy hry HRa by1 tx1 in1 sh1 sy1 hSy FR F7 Q7 s7 h7 hdr hy hymem hcyc hmr hb
                  try simp only [Nat.zero_add,Nat.add_zero] at y0 y1 y2 y3 y4
                  go_wp2_with fail
                  obtain⟨hw1,_,_,_,hb⟩:=H1.out
                  rw [← hw1]
                  simp only [← hb]
                  clear hw1 hb y0 y1 y2 y3 y4
                  refine wp_region_held_drew (S:=fun w9=>Bx w9 b (.int .i64 y.kind) (.string (bs y.name)) (.slice yka y.kids.length ykc) (.slice yna y.names.length ync) (.int .i64 y.at_)) (by kernel_rfl) hS1.2 (fun hS=>?_)
                  refine wpAnyH_take (i:=1) (v:=.pointer (some ⟨R.r,0,none⟩)) rfl (by kernel_rfl) (by kernel_rfl) (by kernel_rfl) (fun _ _ _ h=>h) (Or.inl ⟨by rfl,fun w hS=>by go_simp⟩) hS ?_
                  simp only [Act.put,List.getElem_toArray,List.getElem_cons_zero,List.getElem_cons_succ,List.setIfInBounds_toArray,List.set_cons_zero,List.set_cons_succ]
                  refine wpAnyH_take (i:=2) (v:=.agg #[.int .i64 y.kind,.string (bs y.name),.slice yka y.kids.length ykc,.slice yna y.names.length ync,.int .i64 y.at_]) rfl (by kernel_rfl) (by kernel_rfl) (by kernel_rfl) (fun _ _ _ h=>h) (Or.inl ⟨by rfl,fun w hS=>by obtain⟨e0,e1,e2,e3,e4⟩:=hS.cells;go_simp⟩) hS ?_
                  simp only [Act.put,List.getElem_toArray,List.getElem_cons_zero,List.getElem_cons_succ,List.setIfInBounds_toArray,List.set_cons_zero,List.set_cons_succ]
                  refine wpAnyH_ready (rs:=[0,3]) (by kernel_rfl) (by simp) ?_
                  refine ready_cons rfl (fun KK hKK=>?_) (ready_cons rfl (fun KK hKK=>?_) AllReadyH.nil)
                  · refine⟨?_⟩
                    obtain⟨e0,e1,e2,e3,e4,e5⟩:=hS1.1.cells
                    go_simp
                    clear e0 e1 e2 e3 e4 e5
                    refine hKK.out _ _ hS (fun hS=>?_)
                    clear hKK KK
                    try simp only [Act.put,List.getElem_toArray,List.getElem_cons_zero,List.getElem_cons_succ,List.setIfInBounds_toArray,List.set_cons_zero,List.set_cons_succ]
                    refine wpAnyH_ready (rs:=[3]) (by kernel_rfl) (by simp) ?_
                    refine ready_cons rfl (fun KK hKK=>?_) AllReadyH.nil
                    refine⟨?_⟩
                    go_simp
                    refine (cT.out w1.drew rfl rfl rfl rfl).mono ?_
                    rintro e w4 ⟨hk4,hE⟩
                    obtain⟨hnr,hcy,hry,s7,Q7⟩:=Hy.out
                    obtain⟨hw1,qa1,sb1,tm1,hb⟩:=H1.out
                    have I:=HI.out
                    have kn4:Kn No w w4:=(Kn.of_below Q7).trans ((I.kn.sub fun g hg=>⟨.inl hg,fun e=>by have:=hs.lt g hg;have:=Hsz.out;omega⟩).trans ((Kn.of_below qa1).trans ((Kn.drewR No w1).trans (hk4.sub fun g hg=>.inl (.inl hg)))))
                    obtain⟨ry,hry2⟩:∃ ry,ry=term σ y:=⟨_,rfl⟩
                    rw [← hry2] at HRb hE hry
                    clear hry2
                    cases ry with
                    | none=>exact absurd rfl hry
                    | some yy =>
                      cases yy with
                      | inl p =>
                        have hRR:Hid (r=some (.inl p)):=HRb.out
                        obtain rfl:e=_:=hE
                        refine⟨rfl,kn4,?_⟩
                        rw [hRR.out]
                        rfl
                      | inr d =>
                        have HRd:Hid (r=restR term σ ((ar.drop tk.length).drop (k+1)) (tmK 6 [a,d])):=HRb.out
                        obtain⟨vT,rfl,ok2,n4,hTm,hok4,h4,hn4,hs4⟩:=hE
                        have tx4:Tx w4 x (.int .i64 (a.kind:Nat)) (.int .i64 (a.n:Nat)) (.string (bs a.name)) (.slice ra a.r.length rc) (.slice qa a.kids.length qc) (.slice sa a.sys.length sc):=Tx.kn (w:=w1.drew) hS1.1 hk4 (.inl (.inr (by omega)))
                        have by4:Bx w4 b (.int .i64 y.kind) (.string (bs y.name)) (.slice yka y.kids.length ykc) (.slice yna y.names.length ync) (.int .i64 y.at_):=Bx.kn (w:=w1.drew) hS1.2 hk4 (.inr (.inr rfl))
                        have sz4:w1.heap.size≤w4.heap.size:=hk4.size
                        have tma:TmIn (fun g=>ok g∨g=b∨ok2 g) w4 a _:=(TmIn.kn (w:=w1.drew) tm1 hk4 (fun g hg=>.inr (.inl hg))).up fun g hg=>.inl hg
                        have tmd:TmIn (fun g=>ok g∨g=b∨ok2 g) w4 d vT:=hTm.up fun g hg=>.inr (.inr hg)
                        have c2:=twoS_any 6 a d _ vT (fun g=>ok g∨g=b∨ok2 g) w4 tma tmd
                        obtain⟨u0,u1,u2,u3,u4,u5,rfl,o0,o1,o2,o3,o4,o5⟩:=tmd.six
                        have hok2:∀ g,(ok g∨g=b∨ok2 g)→w7.heap.size≤g∧g<w4.heap.size:=fun g hg=>by
                          have hz7:=I.kn.size
                          rcases hg with hg|hg|hg
                          · have:=I.okb g hg;have:=qa1.size;omega
                          · omega
                          · have hq:w1.heap.size≤g∧g<w4.heap.size:=hok4 g hg
                            omega
                        have sh4:R.Sh w4 (fun g=>(No g∨(s≤g∧g<w7.heap.size))∨(ok g∨g=b∨ok2 g)):=hs4.sub (fun g hg=>hg.elim (fun h=>.inl (.inl h)) (fun h=>h.elim (fun h=>.inl (.inr (.inl h))) (fun h=>h.elim (fun h=>.inl (.inr (.inr h))) .inr))) (fun g hg=>.inl (.inl (hs.old g hg)))
                        have kn47:Kn (fun g=>(No g∨(s≤g∧g<w7.heap.size))∧g≠x) w7 w4:=I.kn.trans ((Kn.of_below qa1).trans ((Kn.drewR _ w1).trans (hk4.sub fun g hg=>.inl hg.1)))
                        have H4:Hid (R.In w4 σ n4∧n4≤nr+2*blk y∧R.Sh w4 (fun g=>(No g∨(s≤g∧g<w7.heap.size))∨(ok g∨g=b∨ok2 g))∧(∀ g,(ok g∨g=b∨ok2 g)→w7.heap.size≤g∧g<w4.heap.size)∧Kn (fun g=>(No g∨(s≤g∧g<w7.heap.size))∧g≠x) w7 w4):=⟨h4,hn4,sh4,hok2,kn47⟩
                        clear h4 hn4 sh4 hok2 kn47 hs4 hok4 hTm tma tmd kn4 hk4 I hw1 qa1 tm1 HI H1 cT hS hS1 hry HRb
                        refine hKK.out _ _ by4 (fun hS=>?_)
                        clear hKK KK
                        try simp only [Act.put,List.getElem_toArray,List.getElem_cons_zero,List.getElem_cons_succ,List.setIfInBounds_toArray,List.set_cons_zero,List.set_cons_succ]
                        refine wpAnyH_ready (rs:=[4]) (by kernel_rfl) (by simp) ?_
                        refine ready_cons rfl (fun KK hKK=>?_) AllReadyH.nil
                        refine⟨?_⟩
                        go_simp
                        refine c2.mono ?_
                        rintro e w5 ⟨vW,rfl,hTW,hb5⟩
                        obtain⟨ra2,rc2,qa2,qc2,sa2,sc2,rfl,_⟩:=hTW.form
                        obtain⟨h4,hn4,sh4,hok2,kn47⟩:=H4.out
                        have tx5:=tx4.blw hb5
                        have by5:=by4.blw hb5
                        have in5:=h4.keep hb5
                        have sh5:=sh4.more (ok:=fun g=>w4.heap.size≤g∧g<w5.heap.size) h4 hb5 (fun g hg=>hg)
                        have t8:=tx5.put (.int .i64 ((tmK 6 [a,d]).kind:Nat)) (.int .i64 ((tmK 6 [a,d]).n:Nat)) (.string (bs (tmK 6 [a,d]).name)) (.slice ra2 (tmK 6 [a,d]).r.length rc2) (.slice qa2 (tmK 6 [a,d]).kids.length qc2) (.slice sa2 (tmK 6 [a,d]).sys.length sc2)
                        have k8:Kn (fun g=>g≠x) w5 (pu6 w5 x (.int .i64 ((tmK 6 [a,d]).kind:Nat)) (.int .i64 ((tmK 6 [a,d]).n:Nat)) (.string (bs (tmK 6 [a,d]).name)) (.slice ra2 (tmK 6 [a,d]).r.length rc2) (.slice qa2 (tmK 6 [a,d]).kids.length qc2) (.slice sa2 (tmK 6 [a,d]).sys.length sc2)):=pu6_kn
                        obtain⟨h8,hs8⟩:=in5.off sh5 (x:=x) (.inl (.inl (.inr (by omega)))) hbv k8
                        have hz5:w7.heap.size≤w4.heap.size:=kn47.size
                        have hbx:b≠x:=by have:=(hok2 b (.inr (.inl rfl))).1;omega
                        have by8:=by5.kn k8 hbx
                        have hT8:=hTW.kn k8 fun g hg=>by
                          rcases hg with hg|hg
                          · have:=(hok2 g hg).1;omega
                          · omega
                        have I8:ApI R σ n4 w7.heap.size x (fun g=>No g∨(s≤g∧g<w7.heap.size)) w7 (tmK 6 [a,d]) ra2 qa2 sa2 rc2 qc2 sc2 (fun g=>(ok g∨g=b∨ok2 g)∨(w4.heap.size≤g∧g<w5.heap.size)) (pu6 w5 x (.int .i64 ((tmK 6 [a,d]).kind:Nat)) (.int .i64 ((tmK 6 [a,d]).n:Nat)) (.string (bs (tmK 6 [a,d]).name)) (.slice ra2 (tmK 6 [a,d]).r.length rc2) (.slice qa2 (tmK 6 [a,d]).kids.length qc2) (.slice sa2 (tmK 6 [a,d]).sys.length sc2)):=by
                          refine⟨t8,hT8,fun g hg=>?_,h8,hs8.sub (fun g hg=>hg.elim (fun h=>.inl (.inl h)) (fun h=>h.elim (fun h=>.inl (.inr h)) .inr)) (fun g hg=>.inl (.inl (hs.old g hg))),(kn47.trans ((Kn.of_below hb5))).trans (k8.sub fun g hg=>hg.2)⟩
                          have:=k8.size
                          have:=hb5.size
                          rcases hg with hg|hg
                          · have:=hok2 g hg;omega
                          · omega
                        obtain⟨c0,c1,c2,c3,c4,c5⟩:=tx5.cells
                        have g0:=tx5.cold 0
                        have g1:=tx5.cold 1
                        have g2:=tx5.cold 2
                        have g3:=tx5.cold 3
                        have g4:=tx5.cold 4
                        have g5:=tx5.cold 5
                        obtain⟨dm,hdm⟩:∃ dm,dm=tmK 6 [a,d]:=⟨_,rfl⟩
                        rw [← hdm] at I8 HRd hTW by8
                        simp only [← hdm]
                        have H8:Hid (ApI R σ n4 w7.heap.size x (fun g=>No g∨(s≤g∧g<w7.heap.size)) w7 dm ra2 qa2 sa2 rc2 qc2 sc2 _ _∧n4+cA ((ar.drop tk.length).drop (k+1))≤n+c∧Bx _ b (.int .i64 y.kind) (.string (bs y.name)) (.slice yka y.kids.length ykc) (.slice yna y.names.length ync) (.int .i64 y.at_)):=⟨I8,by omega,by8⟩
                        clear I8 t8 k8 h8 hs8 hT8 in5 sh5 hTW hdm h4 hn4 sh4 hok2 kn47 H4 hz5 tx5 hS tx4 by4 by8
                        refine hKK.out _ _ by5 (fun hS=>?_)
                        clear hKK KK
                        try simp only [Act.put,List.getElem_toArray,List.getElem_cons_zero,List.getElem_cons_succ,List.setIfInBounds_toArray,List.set_cons_zero,List.set_cons_succ]
                        refine wpAnyH_ready (rs:=[5]) (by kernel_rfl) (by simp) ?_
                        refine ready_cons rfl (fun KK hKK=>?_) AllReadyH.nil
                        refine⟨?_⟩
                        go_simp
                        unfold pu6 at H8
                        obtain⟨w8,hw8⟩:∃ w8,w8=(((((w5.setCell ⟨x,0,none⟩ (.int .i64 (dm.kind:Nat))).setCell ⟨x,1,none⟩ (.int .i64 (dm.n:Nat))).setCell ⟨x,2,none⟩ (.string (bs dm.name))).setCell ⟨x,3,none⟩ (.slice ra2 dm.r.length rc2)).setCell ⟨x,4,none⟩ (.slice qa2 dm.kids.length qc2)).setCell ⟨x,5,none⟩ (.slice sa2 dm.sys.length sc2):=⟨_,rfl⟩
                        rw [← hw8] at H8 ⊢
                        refine hKK.out _ _ H8.out.2.2 (fun hS=>?_)
                        clear hKK KK hw8 by5 hS c0 c1 c2 c3 c4 c5 g0 g1 g2 g3 g4 g5
                        try simp only [Act.put,List.getElem_toArray,List.getElem_cons_zero,List.getElem_cons_succ,List.setIfInBounds_toArray,List.set_cons_zero,List.set_cons_succ]
                        refine wpAnyH_done (by kernel_rfl) ?_ _
                        go_wp2_with fail
                        go_roundw
                        case rel=>exact⟨k+1,dm,ra2,qa2,sa2,rc2,qc2,sc2,_,n4,by omega,by go_num,H8.out.1,H8.out.2.1,HRd⟩
                        case measure=>simp [intOf];omega
                  · refine⟨?_⟩
                    go_simp
                    refine (cT.out w1.drew rfl rfl rfl rfl).mono ?_
                    rintro e w4 ⟨hk4,hE⟩
                    obtain⟨hnr,hcy,hry,s7,Q7⟩:=Hy.out
                    obtain⟨hw1,qa1,sb1,tm1,hb⟩:=H1.out
                    have I:=HI.out
                    have kn4:Kn No w w4:=(Kn.of_below Q7).trans ((I.kn.sub fun g hg=>⟨.inl hg,fun e=>by have:=hs.lt g hg;have:=Hsz.out;omega⟩).trans ((Kn.of_below qa1).trans ((Kn.drewR No w1).trans (hk4.sub fun g hg=>.inl (.inl hg)))))
                    obtain⟨ry,hry2⟩:∃ ry,ry=term σ y:=⟨_,rfl⟩
                    rw [← hry2] at HRb hE hry
                    clear hry2
                    cases ry with
                    | none=>exact absurd rfl hry
                    | some yy =>
                      cases yy with
                      | inl p =>
                        have hRR:Hid (r=some (.inl p)):=HRb.out
                        obtain rfl:e=_:=hE
                        refine⟨rfl,kn4,?_⟩
                        rw [hRR.out]
                        rfl
                      | inr d =>
                        have HRd:Hid (r=restR term σ ((ar.drop tk.length).drop (k+1)) (tmK 6 [a,d])):=HRb.out
                        obtain⟨vT,rfl,ok2,n4,hTm,hok4,h4,hn4,hs4⟩:=hE
                        have tx4:Tx w4 x (.int .i64 (a.kind:Nat)) (.int .i64 (a.n:Nat)) (.string (bs a.name)) (.slice ra a.r.length rc) (.slice qa a.kids.length qc) (.slice sa a.sys.length sc):=Tx.kn (w:=w1.drew) hS1.1 hk4 (.inl (.inr (by omega)))
                        have by4:Bx w4 b (.int .i64 y.kind) (.string (bs y.name)) (.slice yka y.kids.length ykc) (.slice yna y.names.length ync) (.int .i64 y.at_):=Bx.kn (w:=w1.drew) hS1.2 hk4 (.inr (.inr rfl))
                        have sz4:w1.heap.size≤w4.heap.size:=hk4.size
                        have tma:TmIn (fun g=>ok g∨g=b∨ok2 g) w4 a _:=(TmIn.kn (w:=w1.drew) tm1 hk4 (fun g hg=>.inr (.inl hg))).up fun g hg=>.inl hg
                        have tmd:TmIn (fun g=>ok g∨g=b∨ok2 g) w4 d vT:=hTm.up fun g hg=>.inr (.inr hg)
                        have c2:=twoS_any 6 a d _ vT (fun g=>ok g∨g=b∨ok2 g) w4 tma tmd
                        obtain⟨u0,u1,u2,u3,u4,u5,rfl,o0,o1,o2,o3,o4,o5⟩:=tmd.six
                        have hok2:∀ g,(ok g∨g=b∨ok2 g)→w7.heap.size≤g∧g<w4.heap.size:=fun g hg=>by
                          have hz7:=I.kn.size
                          rcases hg with hg|hg|hg
                          · have:=I.okb g hg;have:=qa1.size;omega
                          · omega
                          · have hq:w1.heap.size≤g∧g<w4.heap.size:=hok4 g hg
                            omega
                        have sh4:R.Sh w4 (fun g=>(No g∨(s≤g∧g<w7.heap.size))∨(ok g∨g=b∨ok2 g)):=hs4.sub (fun g hg=>hg.elim (fun h=>.inl (.inl h)) (fun h=>h.elim (fun h=>.inl (.inr (.inl h))) (fun h=>h.elim (fun h=>.inl (.inr (.inr h))) .inr))) (fun g hg=>.inl (.inl (hs.old g hg)))
                        have kn47:Kn (fun g=>(No g∨(s≤g∧g<w7.heap.size))∧g≠x) w7 w4:=I.kn.trans ((Kn.of_below qa1).trans ((Kn.drewR _ w1).trans (hk4.sub fun g hg=>.inl hg.1)))
                        have H4:Hid (R.In w4 σ n4∧n4≤nr+2*blk y∧R.Sh w4 (fun g=>(No g∨(s≤g∧g<w7.heap.size))∨(ok g∨g=b∨ok2 g))∧(∀ g,(ok g∨g=b∨ok2 g)→w7.heap.size≤g∧g<w4.heap.size)∧Kn (fun g=>(No g∨(s≤g∧g<w7.heap.size))∧g≠x) w7 w4):=⟨h4,hn4,sh4,hok2,kn47⟩
                        clear h4 hn4 sh4 hok2 kn47 hs4 hok4 hTm tma tmd kn4 hk4 I hw1 qa1 tm1 HI H1 cT hS hS1 hry HRb
                        refine hKK.out _ _ by4 (fun hS=>?_)
                        clear hKK KK
                        try simp only [Act.put,List.getElem_toArray,List.getElem_cons_zero,List.getElem_cons_succ,List.setIfInBounds_toArray,List.set_cons_zero,List.set_cons_succ]
                        refine wpAnyH_ready (rs:=[0]) (by kernel_rfl) (by simp) ?_
                        refine ready_cons rfl (fun KK hKK=>?_) AllReadyH.nil
                        refine⟨?_⟩
                        obtain⟨e0,e1,e2,e3,e4,e5⟩:=tx4.cells
                        go_simp
                        clear e0 e1 e2 e3 e4 e5
                        refine hKK.out _ _ hS (fun hS=>?_)
                        clear hKK KK
                        try simp only [Act.put,List.getElem_toArray,List.getElem_cons_zero,List.getElem_cons_succ,List.setIfInBounds_toArray,List.set_cons_zero,List.set_cons_succ]
                        refine wpAnyH_ready (rs:=[4]) (by kernel_rfl) (by simp) ?_
                        refine ready_cons rfl (fun KK hKK=>?_) AllReadyH.nil
                        refine⟨?_⟩
                        go_simp
                        refine c2.mono ?_
                        rintro e w5 ⟨vW,rfl,hTW,hb5⟩
                        obtain⟨ra2,rc2,qa2,qc2,sa2,sc2,rfl,_⟩:=hTW.form
                        obtain⟨h4,hn4,sh4,hok2,kn47⟩:=H4.out
                        have tx5:=tx4.blw hb5
                        have by5:=by4.blw hb5
                        have in5:=h4.keep hb5
                        have sh5:=sh4.more (ok:=fun g=>w4.heap.size≤g∧g<w5.heap.size) h4 hb5 (fun g hg=>hg)
                        have t8:=tx5.put (.int .i64 ((tmK 6 [a,d]).kind:Nat)) (.int .i64 ((tmK 6 [a,d]).n:Nat)) (.string (bs (tmK 6 [a,d]).name)) (.slice ra2 (tmK 6 [a,d]).r.length rc2) (.slice qa2 (tmK 6 [a,d]).kids.length qc2) (.slice sa2 (tmK 6 [a,d]).sys.length sc2)
                        have k8:Kn (fun g=>g≠x) w5 (pu6 w5 x (.int .i64 ((tmK 6 [a,d]).kind:Nat)) (.int .i64 ((tmK 6 [a,d]).n:Nat)) (.string (bs (tmK 6 [a,d]).name)) (.slice ra2 (tmK 6 [a,d]).r.length rc2) (.slice qa2 (tmK 6 [a,d]).kids.length qc2) (.slice sa2 (tmK 6 [a,d]).sys.length sc2)):=pu6_kn
                        obtain⟨h8,hs8⟩:=in5.off sh5 (x:=x) (.inl (.inl (.inr (by omega)))) hbv k8
                        have hz5:w7.heap.size≤w4.heap.size:=kn47.size
                        have hbx:b≠x:=by have:=(hok2 b (.inr (.inl rfl))).1;omega
                        have by8:=by5.kn k8 hbx
                        have hT8:=hTW.kn k8 fun g hg=>by
                          rcases hg with hg|hg
                          · have:=(hok2 g hg).1;omega
                          · omega
                        have I8:ApI R σ n4 w7.heap.size x (fun g=>No g∨(s≤g∧g<w7.heap.size)) w7 (tmK 6 [a,d]) ra2 qa2 sa2 rc2 qc2 sc2 (fun g=>(ok g∨g=b∨ok2 g)∨(w4.heap.size≤g∧g<w5.heap.size)) (pu6 w5 x (.int .i64 ((tmK 6 [a,d]).kind:Nat)) (.int .i64 ((tmK 6 [a,d]).n:Nat)) (.string (bs (tmK 6 [a,d]).name)) (.slice ra2 (tmK 6 [a,d]).r.length rc2) (.slice qa2 (tmK 6 [a,d]).kids.length qc2) (.slice sa2 (tmK 6 [a,d]).sys.length sc2)):=by
                          refine⟨t8,hT8,fun g hg=>?_,h8,hs8.sub (fun g hg=>hg.elim (fun h=>.inl (.inl h)) (fun h=>h.elim (fun h=>.inl (.inr h)) .inr)) (fun g hg=>.inl (.inl (hs.old g hg))),(kn47.trans ((Kn.of_below hb5))).trans (k8.sub fun g hg=>hg.2)⟩
                          have:=k8.size
                          have:=hb5.size
                          rcases hg with hg|hg
                          · have:=hok2 g hg;omega
                          · omega
                        obtain⟨c0,c1,c2,c3,c4,c5⟩:=tx5.cells
                        have g0:=tx5.cold 0
                        have g1:=tx5.cold 1
                        have g2:=tx5.cold 2
                        have g3:=tx5.cold 3
                        have g4:=tx5.cold 4
                        have g5:=tx5.cold 5
                        obtain⟨dm,hdm⟩:∃ dm,dm=tmK 6 [a,d]:=⟨_,rfl⟩
                        rw [← hdm] at I8 HRd hTW by8
                        simp only [← hdm]
                        have H8:Hid (ApI R σ n4 w7.heap.size x (fun g=>No g∨(s≤g∧g<w7.heap.size)) w7 dm ra2 qa2 sa2 rc2 qc2 sc2 _ _∧n4+cA ((ar.drop tk.length).drop (k+1))≤n+c∧Bx _ b (.int .i64 y.kind) (.string (bs y.name)) (.slice yka y.kids.length ykc) (.slice yna y.names.length ync) (.int .i64 y.at_)):=⟨I8,by omega,by8⟩
                        clear I8 t8 k8 h8 hs8 hT8 in5 sh5 hTW hdm h4 hn4 sh4 hok2 kn47 H4 hz5 tx5 hS tx4 by4 by8
                        refine hKK.out _ _ by5 (fun hS=>?_)
                        clear hKK KK
                        try simp only [Act.put,List.getElem_toArray,List.getElem_cons_zero,List.getElem_cons_succ,List.setIfInBounds_toArray,List.set_cons_zero,List.set_cons_succ]
                        refine wpAnyH_ready (rs:=[5]) (by kernel_rfl) (by simp) ?_
                        refine ready_cons rfl (fun KK hKK=>?_) AllReadyH.nil
                        refine⟨?_⟩
                        go_simp
                        unfold pu6 at H8
                        obtain⟨w8,hw8⟩:∃ w8,w8=(((((w5.setCell ⟨x,0,none⟩ (.int .i64 (dm.kind:Nat))).setCell ⟨x,1,none⟩ (.int .i64 (dm.n:Nat))).setCell ⟨x,2,none⟩ (.string (bs dm.name))).setCell ⟨x,3,none⟩ (.slice ra2 dm.r.length rc2)).setCell ⟨x,4,none⟩ (.slice qa2 dm.kids.length qc2)).setCell ⟨x,5,none⟩ (.slice sa2 dm.sys.length sc2):=⟨_,rfl⟩
                        rw [← hw8] at H8 ⊢
                        refine hKK.out _ _ H8.out.2.2 (fun hS=>?_)
                        clear hKK KK hw8 by5 hS c0 c1 c2 c3 c4 c5 g0 g1 g2 g3 g4 g5
                        try simp only [Act.put,List.getElem_toArray,List.getElem_cons_zero,List.getElem_cons_succ,List.setIfInBounds_toArray,List.set_cons_zero,List.set_cons_succ]
                        refine wpAnyH_done (by kernel_rfl) ?_ _
                        go_wp2_with fail
                        go_roundw
                        case rel=>exact⟨k+1,dm,ra2,qa2,sa2,rc2,qc2,sc2,_,n4,by omega,by go_num,H8.out.1,H8.out.2.1,HRd⟩
                        case measure=>simp [intOf];omega
                · have HRf:Hid (r=some (.inr a)):=by
                    have:=HRa.out
                    rw [List.drop_of_length_le (by first | omega | (simp only [List.length_drop];have:=HLh.out;omega))] at this
                    exact this
                  have FR:=F7.kn I.kn (fun g hg=>hg.elim (fun hg=>⟨.inl (hs.old g hg),by omega⟩) (fun hg=>⟨.inr (by have:=F7.lt;omega),by omega⟩))
                  have hl7:=F7.lt
                  have tx8:=FR.tx
                  have t8:=tx8.put (.int .i64 (a.kind:Nat)) (.int .i64 (a.n:Nat)) (.string (bs a.name)) (.slice ra a.r.length rc) (.slice qa a.kids.length qc) (.slice sa a.sys.length sc)
                  have k8:Kn (fun g=>g≠s+1) wr (pu6 wr (s+1) (.int .i64 (a.kind:Nat)) (.int .i64 (a.n:Nat)) (.string (bs a.name)) (.slice ra a.r.length rc) (.slice qa a.kids.length qc) (.slice sa a.sys.length sc)):=pu6_kn
                  obtain⟨h8,hs8⟩:=I.rin.off I.sh (x:=s+1) (.inl (.inr (by omega))) (by omega) k8
                  have hT8:=I.tm.kn k8 fun g hg=>by have:=(I.okb g hg).1;omega
                  have kn8:Kn No w (pu6 wr (s+1) (.int .i64 (a.kind:Nat)) (.int .i64 (a.n:Nat)) (.string (bs a.name)) (.slice ra a.r.length rc) (.slice qa a.kids.length qc) (.slice sa a.sys.length sc)):=((Kn.of_below Q7).trans (I.kn.sub fun g hg=>⟨.inl hg,fun e=>by have:=hs.lt g hg;have:=Hsz.out;omega⟩)).trans ⟨k8.os,k8.tape,k8.output,k8.size,fun g hg hgl=>k8.block g (fun e=>by have:=hs.lt g hg;have:=Hsz.out;omega) hgl⟩
                  have hok8:∀ g,ok g→w.heap.size≤g∧g<((pu6 wr (s+1) (.int .i64 (a.kind:Nat)) (.int .i64 (a.n:Nat)) (.string (bs a.name)) (.slice ra a.r.length rc) (.slice qa a.kids.length qc) (.slice sa a.sys.length sc))).heap.size:=fun g hg=>by have:=I.okb g hg;have:=k8.size;have:=Hsz.out;omega
                  have hnr2:nr≤n+c:=by omega
                  obtain⟨i0,i1,i2,i3,i4,i5⟩:=I.tx.cells
                  obtain⟨c0,c1,c2,c3,c4,c5⟩:=tx8.cells
                  have g0:=tx8.cold 0
                  have g1:=tx8.cold 1
                  have g2:=tx8.cold 2
                  have g3:=tx8.cold 3
                  have g4:=tx8.cold 4
                  have g5:=tx8.cold 5
                  have H8:Hid (Tx (pu6 wr (s+1) (.int .i64 (a.kind:Nat)) (.int .i64 (a.n:Nat)) (.string (bs a.name)) (.slice ra a.r.length rc) (.slice qa a.kids.length qc) (.slice sa a.sys.length sc)) (s+1) _ _ _ _ _ _∧R.In (pu6 wr (s+1) (.int .i64 (a.kind:Nat)) (.int .i64 (a.n:Nat)) (.string (bs a.name)) (.slice ra a.r.length rc) (.slice qa a.kids.length qc) (.slice sa a.sys.length sc)) σ nr∧R.Sh (pu6 wr (s+1) (.int .i64 (a.kind:Nat)) (.int .i64 (a.n:Nat)) (.string (bs a.name)) (.slice ra a.r.length rc) (.slice qa a.kids.length qc) (.slice sa a.sys.length sc)) (fun g=>(No g∨(s≤g∧g<w7.heap.size))∨ok g)∧TmIn ok (pu6 wr (s+1) (.int .i64 (a.kind:Nat)) (.int .i64 (a.n:Nat)) (.string (bs a.name)) (.slice ra a.r.length rc) (.slice qa a.kids.length qc) (.slice sa a.sys.length sc)) a _∧Kn No w (pu6 wr (s+1) (.int .i64 (a.kind:Nat)) (.int .i64 (a.n:Nat)) (.string (bs a.name)) (.slice ra a.r.length rc) (.slice qa a.kids.length qc) (.slice sa a.sys.length sc))∧(∀ g,ok g→w.heap.size≤g∧g<((pu6 wr (s+1) (.int .i64 (a.kind:Nat)) (.int .i64 (a.n:Nat)) (.string (bs a.name)) (.slice ra a.r.length rc) (.slice qa a.kids.length qc) (.slice sa a.sys.length sc))).heap.size)):=⟨t8,h8,hs8,hT8,kn8,hok8⟩
                  clear t8 h8 hs8 hT8 kn8 hok8 k8 tx8 FR F7 Q7 s7 h7 I hnr HRa hl7 HF
                  go_wp2
                  obtain⟨t8,h8,hs8,hT8,kn8,hok8⟩:=H8.out
                  unfold pu6 at t8 h8 hs8 hT8 kn8 hok8
                  obtain⟨d0,d1,d2,d3,d4,d5⟩:=t8.cells
                  refine⟨rfl,.agg #[.int .i64 (a.kind:Nat),.int .i64 (a.n:Nat),.string (bs a.name),.slice ra a.r.length rc,.slice qa a.kids.length qc,.slice sa a.sys.length sc],by simp only [results,Tryz.results44];simp [go_sem,d0,d1,d2,d3,d4,d5],kn8,?_⟩
                  rw [HRf.out]
                  exact⟨_,rfl,ok,nr,hT8,hok8,h8,hnr2,hs8.sub (fun g hg=>hg.elim (fun h=>.inl (.inl h)) .inr) (fun g hg=>.inl (hs.old g hg))⟩
end Go.Proofs.YtahnbigkdfmpbaaGreatDoor
