/- Which term a tree is: by the depth. -/
import Derived.Test.YtahnbigkdfmpbaaGreatDoorIZAt
import Derived.Test.YtahnbigkdfmpbaaGreatDoorIZI
set_option linter.unusedVariables false
set_option linter.unusedSimpArgs false
namespace Go.Proofs.YtahnbigkdfmpbaaGreatDoor
open Go.RowKit Go.Maps Go.WideMaps
set_option maxRecDepth 100000 in
set_option maxHeartbeats 4000000 in
theorem termN_any (R:Rsv) (σ:Sg) (n m c:Nat) (No:Nat→Prop) (t:Sx) (v:Value) (w:World) (r:Rz Tm) (h:R.In w σ n) (hs:R.Sh w No) (ht:SxIn m w t v) (hm:m≤R.bv) (hk:t.kind=1) (hr:r≠none)
  (hC:∀ (No:Nat→Prop) (v:Value) (w:World),R.In w σ n→R.Sh w No→SxIn m w t v→Calls Tryz.prog 44 #[R.ptr,v] w (OutT R σ n No c r w)) :
  Calls Tryz.prog 26 #[R.ptr,v] w (OutT R σ n No c r w):=by
 obtain⟨ka,kc,na,nc,rfl,hN,hK⟩:=ht.form
 have hmw:m≤w.heap.size:=by have:=h.lt;have:=h.rlt;omega
 have hbvs:R.bv≤w.heap.size:=by have:=h.lt;have:=h.rlt;omega
 rw [hk] at ht ⊢
 obtain⟨w1,hw1⟩:∃ w1,w1=w.alloc (.cells #[.int .i64 1,.string (bs t.name),.slice ka t.kids.length kc,.slice na t.names.length nc,.int .i64 t.at_] 26):=⟨_,rfl⟩
 have q:Below w.heap.size w w1:=by rw [hw1];exact below_alloc _ _
 have bx:Bx w1 w.heap.size (.int .i64 1) (.string (bs t.name)) (.slice ka t.kids.length kc) (.slice na t.names.length nc) (.int .i64 t.at_):=by rw [hw1];exact bx_new _ _ _ _ _ _
 have s1:w1.heap.size=w.heap.size+1:=by rw [hw1];simp
 obtain⟨w2,hw2⟩:∃ w2,w2=w1.alloc (.cells #[.int .i64 0,.int .i64 0,.string ⟨#[]⟩,.slice none 0 0,.slice none 0 0,.slice none 0 0] 37):=⟨_,rfl⟩
 have q2:Below w1.heap.size w1 w2:=by rw [hw2];exact below_alloc _ _
 have tx:Tx w2 (w.heap.size+1) (.int .i64 0) (.int .i64 0) (.string ⟨#[]⟩) (.slice none 0 0) (.slice none 0 0) (.slice none 0 0):=by rw [hw2,← s1];exact tx_new _ _ _ _ _ _ _
 have s2:w2.heap.size=w.heap.size+2:=by rw [hw2];simp [s1]
 have qq:Below w.heap.size w w2:=q.trans (q2.mono q.size)
 have bx2:=bx.blw q2
 rw [hw1] at hw2
 obtain⟨h2,hs2⟩:=Rsv.two (w2:=w2) h hs qq (by omega)
 have ht2:=ht.keep (qq.mono hmw)
 have cT:=hC _ _ w2 h2 hs2 (by rw [← hk] at ht2;exact ht2)
 rw [hk] at cT
 obtain⟨x0,x1,x2,x3,x4⟩:=bx2.cells
 have Hs:Hid (w2=_∧Tx w2 (w.heap.size+1) _ _ _ _ _ _∧Below w.heap.size w w2):=⟨hw2,tx,qq⟩
 rw [hw2] at cT x0 x1 x2 x3 x4
 have Hc:Hid (w2.heap.size=w.heap.size+2):=s2
 unfold Rsv.ptr at cT ⊢
 clear q bx s1 hw1 q2 tx s2 qq bx2 h2 hs2 hw2 ht2 hk hC
 go_enter Tryz.func26,Tryz.ntmps26
 go_wp2_with fail
 refine cT.mono ?_
 rintro e w3 ⟨hk3,hE⟩
 obtain⟨hw2,tx,qq⟩:=Hs.out
 rw [← hw2] at hk3 hE
 have kn3:Kn No w w3:=(Kn.of_below qq).trans (hk3.sub fun g hg=>.inl hg)
 have tx3:=tx.kn hk3 (.inr (.inr rfl))
 have s2:=Hc.out
 obtain⟨s,hsz⟩:∃ s,s=w.heap.size:=⟨_,rfl⟩
 have Hsz:Hid (s=w.heap.size):=hsz
 rw [← hsz] at tx3 s2 hk3 hE
 simp only [← hsz]
 clear x0 x1 x2 x3 x4 hw2 Hs tx qq cT Hc hsz
 cases r with
 | none=>exact absurd rfl hr
 | some y =>
  cases y with
  | inl p =>
   obtain rfl:e=_:=hE
   exact⟨rfl,kn3,rfl⟩
  | inr a =>
   obtain⟨vT,rfl,ok,n3,hTm,hok3,h3,hn3,hs3⟩:=hE
   obtain⟨ra,rc,qa,qc,sa,sc,rfl,_⟩:=hTm.form
   have t8:=tx3.put (.int .i64 (a.kind:Nat)) (.int .i64 (a.n:Nat)) (.string (bs a.name)) (.slice ra a.r.length rc) (.slice qa a.kids.length qc) (.slice sa a.sys.length sc)
   have k8:Kn (fun g=>g≠s+1) w3 (pu6 w3 (s+1) (.int .i64 (a.kind:Nat)) (.int .i64 (a.n:Nat)) (.string (bs a.name)) (.slice ra a.r.length rc) (.slice qa a.kids.length qc) (.slice sa a.sys.length sc)):=pu6_kn
   obtain⟨h8,hs8⟩:=h3.off hs3 (x:=s+1) (.inl (.inr (.inr rfl))) (by have:=Hsz.out;omega) k8
   have hT8:=hTm.kn k8 fun g hg=>by have:=(hok3 g hg).1;omega
   have kn8:Kn No w (pu6 w3 (s+1) (.int .i64 (a.kind:Nat)) (.int .i64 (a.n:Nat)) (.string (bs a.name)) (.slice ra a.r.length rc) (.slice qa a.kids.length qc) (.slice sa a.sys.length sc)):=kn3.trans ⟨k8.os,k8.tape,k8.output,k8.size,fun g hg hgl=>k8.block g (fun e=>by have:=hs.lt g hg;have:=Hsz.out;omega) hgl⟩
   have hok8:∀ g,ok g→w.heap.size≤g∧g<((pu6 w3 (s+1) (.int .i64 (a.kind:Nat)) (.int .i64 (a.n:Nat)) (.string (bs a.name)) (.slice ra a.r.length rc) (.slice qa a.kids.length qc) (.slice sa a.sys.length sc))).heap.size:=fun g hg=>by have:=hok3 g hg;have:=k8.size;have:=Hsz.out;omega
   obtain⟨c0,c1,c2,c3,c4,c5⟩:=tx3.cells
   have g0:=tx3.cold 0
   have g1:=tx3.cold 1
   have g2:=tx3.cold 2
   have g3:=tx3.cold 3
   have g4:=tx3.cold 4
   have g5:=tx3.cold 5
   have H8:Hid (Tx (pu6 w3 (s+1) (.int .i64 (a.kind:Nat)) (.int .i64 (a.n:Nat)) (.string (bs a.name)) (.slice ra a.r.length rc) (.slice qa a.kids.length qc) (.slice sa a.sys.length sc)) (s+1) _ _ _ _ _ _∧R.In (pu6 w3 (s+1) (.int .i64 (a.kind:Nat)) (.int .i64 (a.n:Nat)) (.string (bs a.name)) (.slice ra a.r.length rc) (.slice qa a.kids.length qc) (.slice sa a.sys.length sc)) σ n3∧R.Sh (pu6 w3 (s+1) (.int .i64 (a.kind:Nat)) (.int .i64 (a.n:Nat)) (.string (bs a.name)) (.slice ra a.r.length rc) (.slice qa a.kids.length qc) (.slice sa a.sys.length sc)) _∧TmIn ok (pu6 w3 (s+1) (.int .i64 (a.kind:Nat)) (.int .i64 (a.n:Nat)) (.string (bs a.name)) (.slice ra a.r.length rc) (.slice qa a.kids.length qc) (.slice sa a.sys.length sc)) a _∧Kn No w (pu6 w3 (s+1) (.int .i64 (a.kind:Nat)) (.int .i64 (a.n:Nat)) (.string (bs a.name)) (.slice ra a.r.length rc) (.slice qa a.kids.length qc) (.slice sa a.sys.length sc))∧(∀ g,ok g→w.heap.size≤g∧g<((pu6 w3 (s+1) (.int .i64 (a.kind:Nat)) (.int .i64 (a.n:Nat)) (.string (bs a.name)) (.slice ra a.r.length rc) (.slice qa a.kids.length qc) (.slice sa a.sys.length sc))).heap.size)):=⟨t8,h8,hs8,hT8,kn8,hok8⟩
   clear t8 h8 hs8 hT8 kn8 hok8 k8 hTm h3 hs3 hok3
   clear hk3 kn3 tx3
   go_wp2
   obtain⟨t8,h8,hs8,hT8,kn8,hok8⟩:=H8.out
   unfold pu6 at t8 h8 hs8 hT8 kn8 hok8
   obtain⟨d0,d1,d2,d3,d4,d5⟩:=t8.cells
   refine⟨rfl,.agg #[.int .i64 (a.kind:Nat),.int .i64 (a.n:Nat),.string (bs a.name),.slice ra a.r.length rc,.slice qa a.kids.length qc,.slice sa a.sys.length sc],by simp only [results,Tryz.results26];simp [go_sem,d0,d1,d2,d3,d4,d5],kn8,?_⟩
   exact⟨_,rfl,ok,n3,hT8,hok8,h8,hn3,hs8.sub (fun g hg=>hg.elim (fun h=>.inl (.inl h)) .inr) (fun g hg=>.inl (hs.old g hg))⟩
set_option maxRecDepth 100000 in
set_option maxHeartbeats 4000000 in
theorem termApp_any (R:Rsv) (σ:Sg) (n m c:Nat) (No:Nat→Prop) (t:Sx) (v:Value) (w:World) (r:Rz Tm) (h:R.In w σ n) (hs:R.Sh w No) (ht:SxIn m w t v) (hm:m≤R.bv) (hk:t.kind=6) (hr:r≠none)
  (hC:∀ (No:Nat→Prop) (v:Value) (w:World),R.In w σ n→R.Sh w No→SxIn m w t v→Calls Tryz.prog 44 #[R.ptr,v] w (OutT R σ n No c r w)) :
  Calls Tryz.prog 26 #[R.ptr,v] w (OutT R σ n No c r w):=by
 obtain⟨ka,kc,na,nc,rfl,hN,hK⟩:=ht.form
 have hmw:m≤w.heap.size:=by have:=h.lt;have:=h.rlt;omega
 have hbvs:R.bv≤w.heap.size:=by have:=h.lt;have:=h.rlt;omega
 rw [hk] at ht ⊢
 obtain⟨w1,hw1⟩:∃ w1,w1=w.alloc (.cells #[.int .i64 6,.string (bs t.name),.slice ka t.kids.length kc,.slice na t.names.length nc,.int .i64 t.at_] 26):=⟨_,rfl⟩
 have q:Below w.heap.size w w1:=by rw [hw1];exact below_alloc _ _
 have bx:Bx w1 w.heap.size (.int .i64 6) (.string (bs t.name)) (.slice ka t.kids.length kc) (.slice na t.names.length nc) (.int .i64 t.at_):=by rw [hw1];exact bx_new _ _ _ _ _ _
 have s1:w1.heap.size=w.heap.size+1:=by rw [hw1];simp
 obtain⟨w2,hw2⟩:∃ w2,w2=w1.alloc (.cells #[.int .i64 0,.int .i64 0,.string ⟨#[]⟩,.slice none 0 0,.slice none 0 0,.slice none 0 0] 37):=⟨_,rfl⟩
 have q2:Below w1.heap.size w1 w2:=by rw [hw2];exact below_alloc _ _
 have tx:Tx w2 (w.heap.size+1) (.int .i64 0) (.int .i64 0) (.string ⟨#[]⟩) (.slice none 0 0) (.slice none 0 0) (.slice none 0 0):=by rw [hw2,← s1];exact tx_new _ _ _ _ _ _ _
 have s2:w2.heap.size=w.heap.size+2:=by rw [hw2];simp [s1]
 have qq:Below w.heap.size w w2:=q.trans (q2.mono q.size)
 have bx2:=bx.blw q2
 rw [hw1] at hw2
 obtain⟨h2,hs2⟩:=Rsv.two (w2:=w2) h hs qq (by omega)
 have ht2:=ht.keep (qq.mono hmw)
 have cT:=hC _ _ w2 h2 hs2 (by rw [← hk] at ht2;exact ht2)
 rw [hk] at cT
 obtain⟨x0,x1,x2,x3,x4⟩:=bx2.cells
 have Hs:Hid (w2=_∧Tx w2 (w.heap.size+1) _ _ _ _ _ _∧Below w.heap.size w w2):=⟨hw2,tx,qq⟩
 rw [hw2] at cT x0 x1 x2 x3 x4
 have Hc:Hid (w2.heap.size=w.heap.size+2):=s2
 unfold Rsv.ptr at cT ⊢
 clear q bx s1 hw1 q2 tx s2 qq bx2 h2 hs2 hw2 ht2 hk hC
 go_enter Tryz.func26,Tryz.ntmps26
 go_wp2_with fail
 refine cT.mono ?_
 rintro e w3 ⟨hk3,hE⟩
 obtain⟨hw2,tx,qq⟩:=Hs.out
 rw [← hw2] at hk3 hE
 have kn3:Kn No w w3:=(Kn.of_below qq).trans (hk3.sub fun g hg=>.inl hg)
 have tx3:=tx.kn hk3 (.inr (.inr rfl))
 have s2:=Hc.out
 obtain⟨s,hsz⟩:∃ s,s=w.heap.size:=⟨_,rfl⟩
 have Hsz:Hid (s=w.heap.size):=hsz
 rw [← hsz] at tx3 s2 hk3 hE
 simp only [← hsz]
 clear x0 x1 x2 x3 x4 hw2 Hs tx qq cT Hc hsz
 cases r with
 | none=>exact absurd rfl hr
 | some y =>
  cases y with
  | inl p =>
   obtain rfl:e=_:=hE
   exact⟨rfl,kn3,rfl⟩
  | inr a =>
   obtain⟨vT,rfl,ok,n3,hTm,hok3,h3,hn3,hs3⟩:=hE
   obtain⟨ra,rc,qa,qc,sa,sc,rfl,_⟩:=hTm.form
   have t8:=tx3.put (.int .i64 (a.kind:Nat)) (.int .i64 (a.n:Nat)) (.string (bs a.name)) (.slice ra a.r.length rc) (.slice qa a.kids.length qc) (.slice sa a.sys.length sc)
   have k8:Kn (fun g=>g≠s+1) w3 (pu6 w3 (s+1) (.int .i64 (a.kind:Nat)) (.int .i64 (a.n:Nat)) (.string (bs a.name)) (.slice ra a.r.length rc) (.slice qa a.kids.length qc) (.slice sa a.sys.length sc)):=pu6_kn
   obtain⟨h8,hs8⟩:=h3.off hs3 (x:=s+1) (.inl (.inr (.inr rfl))) (by have:=Hsz.out;omega) k8
   have hT8:=hTm.kn k8 fun g hg=>by have:=(hok3 g hg).1;omega
   have kn8:Kn No w (pu6 w3 (s+1) (.int .i64 (a.kind:Nat)) (.int .i64 (a.n:Nat)) (.string (bs a.name)) (.slice ra a.r.length rc) (.slice qa a.kids.length qc) (.slice sa a.sys.length sc)):=kn3.trans ⟨k8.os,k8.tape,k8.output,k8.size,fun g hg hgl=>k8.block g (fun e=>by have:=hs.lt g hg;have:=Hsz.out;omega) hgl⟩
   have hok8:∀ g,ok g→w.heap.size≤g∧g<((pu6 w3 (s+1) (.int .i64 (a.kind:Nat)) (.int .i64 (a.n:Nat)) (.string (bs a.name)) (.slice ra a.r.length rc) (.slice qa a.kids.length qc) (.slice sa a.sys.length sc))).heap.size:=fun g hg=>by have:=hok3 g hg;have:=k8.size;have:=Hsz.out;omega
   obtain⟨c0,c1,c2,c3,c4,c5⟩:=tx3.cells
   have g0:=tx3.cold 0
   have g1:=tx3.cold 1
   have g2:=tx3.cold 2
   have g3:=tx3.cold 3
   have g4:=tx3.cold 4
   have g5:=tx3.cold 5
   have H8:Hid (Tx (pu6 w3 (s+1) (.int .i64 (a.kind:Nat)) (.int .i64 (a.n:Nat)) (.string (bs a.name)) (.slice ra a.r.length rc) (.slice qa a.kids.length qc) (.slice sa a.sys.length sc)) (s+1) _ _ _ _ _ _∧R.In (pu6 w3 (s+1) (.int .i64 (a.kind:Nat)) (.int .i64 (a.n:Nat)) (.string (bs a.name)) (.slice ra a.r.length rc) (.slice qa a.kids.length qc) (.slice sa a.sys.length sc)) σ n3∧R.Sh (pu6 w3 (s+1) (.int .i64 (a.kind:Nat)) (.int .i64 (a.n:Nat)) (.string (bs a.name)) (.slice ra a.r.length rc) (.slice qa a.kids.length qc) (.slice sa a.sys.length sc)) _∧TmIn ok (pu6 w3 (s+1) (.int .i64 (a.kind:Nat)) (.int .i64 (a.n:Nat)) (.string (bs a.name)) (.slice ra a.r.length rc) (.slice qa a.kids.length qc) (.slice sa a.sys.length sc)) a _∧Kn No w (pu6 w3 (s+1) (.int .i64 (a.kind:Nat)) (.int .i64 (a.n:Nat)) (.string (bs a.name)) (.slice ra a.r.length rc) (.slice qa a.kids.length qc) (.slice sa a.sys.length sc))∧(∀ g,ok g→w.heap.size≤g∧g<((pu6 w3 (s+1) (.int .i64 (a.kind:Nat)) (.int .i64 (a.n:Nat)) (.string (bs a.name)) (.slice ra a.r.length rc) (.slice qa a.kids.length qc) (.slice sa a.sys.length sc))).heap.size)):=⟨t8,h8,hs8,hT8,kn8,hok8⟩
   clear t8 h8 hs8 hT8 kn8 hok8 k8 hTm h3 hs3 hok3
   clear hk3 kn3 tx3
   go_wp2
   obtain⟨t8,h8,hs8,hT8,kn8,hok8⟩:=H8.out
   unfold pu6 at t8 h8 hs8 hT8 kn8 hok8
   obtain⟨d0,d1,d2,d3,d4,d5⟩:=t8.cells
   refine⟨rfl,.agg #[.int .i64 (a.kind:Nat),.int .i64 (a.n:Nat),.string (bs a.name),.slice ra a.r.length rc,.slice qa a.kids.length qc,.slice sa a.sys.length sc],by simp only [results,Tryz.results26];simp [go_sem,d0,d1,d2,d3,d4,d5],kn8,?_⟩
   exact⟨_,rfl,ok,n3,hT8,hok8,h8,hn3,hs8.sub (fun g hg=>hg.elim (fun h=>.inl (.inl h)) .inr) (fun g hg=>.inl (hs.old g hg))⟩
set_option maxRecDepth 100000 in
set_option maxHeartbeats 4000000 in
theorem termAt_any (R:Rsv) (σ:Sg) (n m c:Nat) (No:Nat→Prop) (t:Sx) (v:Value) (w:World) (r:Rz Tm) (h:R.In w σ n) (hs:R.Sh w No) (ht:SxIn m w t v) (hm:m≤R.bv) (hk:t.kind=7) (hr:r≠none)
  (hC:∀ (No:Nat→Prop) (v:Value) (w:World),R.In w σ n→R.Sh w No→SxIn m w t v→Calls Tryz.prog 48 #[R.ptr,v] w (OutT R σ n No c r w)) :
  Calls Tryz.prog 26 #[R.ptr,v] w (OutT R σ n No c r w):=by
 obtain⟨ka,kc,na,nc,rfl,hN,hK⟩:=ht.form
 have hmw:m≤w.heap.size:=by have:=h.lt;have:=h.rlt;omega
 have hbvs:R.bv≤w.heap.size:=by have:=h.lt;have:=h.rlt;omega
 rw [hk] at ht ⊢
 obtain⟨w1,hw1⟩:∃ w1,w1=w.alloc (.cells #[.int .i64 7,.string (bs t.name),.slice ka t.kids.length kc,.slice na t.names.length nc,.int .i64 t.at_] 26):=⟨_,rfl⟩
 have q:Below w.heap.size w w1:=by rw [hw1];exact below_alloc _ _
 have bx:Bx w1 w.heap.size (.int .i64 7) (.string (bs t.name)) (.slice ka t.kids.length kc) (.slice na t.names.length nc) (.int .i64 t.at_):=by rw [hw1];exact bx_new _ _ _ _ _ _
 have s1:w1.heap.size=w.heap.size+1:=by rw [hw1];simp
 obtain⟨w2,hw2⟩:∃ w2,w2=w1.alloc (.cells #[.int .i64 0,.int .i64 0,.string ⟨#[]⟩,.slice none 0 0,.slice none 0 0,.slice none 0 0] 37):=⟨_,rfl⟩
 have q2:Below w1.heap.size w1 w2:=by rw [hw2];exact below_alloc _ _
 have tx:Tx w2 (w.heap.size+1) (.int .i64 0) (.int .i64 0) (.string ⟨#[]⟩) (.slice none 0 0) (.slice none 0 0) (.slice none 0 0):=by rw [hw2,← s1];exact tx_new _ _ _ _ _ _ _
 have s2:w2.heap.size=w.heap.size+2:=by rw [hw2];simp [s1]
 have qq:Below w.heap.size w w2:=q.trans (q2.mono q.size)
 have bx2:=bx.blw q2
 rw [hw1] at hw2
 obtain⟨h2,hs2⟩:=Rsv.two (w2:=w2) h hs qq (by omega)
 have ht2:=ht.keep (qq.mono hmw)
 have cT:=hC _ _ w2 h2 hs2 (by rw [← hk] at ht2;exact ht2)
 rw [hk] at cT
 obtain⟨x0,x1,x2,x3,x4⟩:=bx2.cells
 have Hs:Hid (w2=_∧Tx w2 (w.heap.size+1) _ _ _ _ _ _∧Below w.heap.size w w2):=⟨hw2,tx,qq⟩
 rw [hw2] at cT x0 x1 x2 x3 x4
 have Hc:Hid (w2.heap.size=w.heap.size+2):=s2
 unfold Rsv.ptr at cT ⊢
 clear q bx s1 hw1 q2 tx s2 qq bx2 h2 hs2 hw2 ht2 hk hC
 go_enter Tryz.func26,Tryz.ntmps26
 go_wp2_with fail
 refine cT.mono ?_
 rintro e w3 ⟨hk3,hE⟩
 obtain⟨hw2,tx,qq⟩:=Hs.out
 rw [← hw2] at hk3 hE
 have kn3:Kn No w w3:=(Kn.of_below qq).trans (hk3.sub fun g hg=>.inl hg)
 have tx3:=tx.kn hk3 (.inr (.inr rfl))
 have s2:=Hc.out
 obtain⟨s,hsz⟩:∃ s,s=w.heap.size:=⟨_,rfl⟩
 have Hsz:Hid (s=w.heap.size):=hsz
 rw [← hsz] at tx3 s2 hk3 hE
 simp only [← hsz]
 clear x0 x1 x2 x3 x4 hw2 Hs tx qq cT Hc hsz
 cases r with
 | none=>exact absurd rfl hr
 | some y =>
  cases y with
  | inl p =>
   obtain rfl:e=_:=hE
   exact⟨rfl,kn3,rfl⟩
  | inr a =>
   obtain⟨vT,rfl,ok,n3,hTm,hok3,h3,hn3,hs3⟩:=hE
   obtain⟨ra,rc,qa,qc,sa,sc,rfl,_⟩:=hTm.form
   have t8:=tx3.put (.int .i64 (a.kind:Nat)) (.int .i64 (a.n:Nat)) (.string (bs a.name)) (.slice ra a.r.length rc) (.slice qa a.kids.length qc) (.slice sa a.sys.length sc)
   have k8:Kn (fun g=>g≠s+1) w3 (pu6 w3 (s+1) (.int .i64 (a.kind:Nat)) (.int .i64 (a.n:Nat)) (.string (bs a.name)) (.slice ra a.r.length rc) (.slice qa a.kids.length qc) (.slice sa a.sys.length sc)):=pu6_kn
   obtain⟨h8,hs8⟩:=h3.off hs3 (x:=s+1) (.inl (.inr (.inr rfl))) (by have:=Hsz.out;omega) k8
   have hT8:=hTm.kn k8 fun g hg=>by have:=(hok3 g hg).1;omega
   have kn8:Kn No w (pu6 w3 (s+1) (.int .i64 (a.kind:Nat)) (.int .i64 (a.n:Nat)) (.string (bs a.name)) (.slice ra a.r.length rc) (.slice qa a.kids.length qc) (.slice sa a.sys.length sc)):=kn3.trans ⟨k8.os,k8.tape,k8.output,k8.size,fun g hg hgl=>k8.block g (fun e=>by have:=hs.lt g hg;have:=Hsz.out;omega) hgl⟩
   have hok8:∀ g,ok g→w.heap.size≤g∧g<((pu6 w3 (s+1) (.int .i64 (a.kind:Nat)) (.int .i64 (a.n:Nat)) (.string (bs a.name)) (.slice ra a.r.length rc) (.slice qa a.kids.length qc) (.slice sa a.sys.length sc))).heap.size:=fun g hg=>by have:=hok3 g hg;have:=k8.size;have:=Hsz.out;omega
   obtain⟨c0,c1,c2,c3,c4,c5⟩:=tx3.cells
   have g0:=tx3.cold 0
   have g1:=tx3.cold 1
   have g2:=tx3.cold 2
   have g3:=tx3.cold 3
   have g4:=tx3.cold 4
   have g5:=tx3.cold 5
   have H8:Hid (Tx (pu6 w3 (s+1) (.int .i64 (a.kind:Nat)) (.int .i64 (a.n:Nat)) (.string (bs a.name)) (.slice ra a.r.length rc) (.slice qa a.kids.length qc) (.slice sa a.sys.length sc)) (s+1) _ _ _ _ _ _∧R.In (pu6 w3 (s+1) (.int .i64 (a.kind:Nat)) (.int .i64 (a.n:Nat)) (.string (bs a.name)) (.slice ra a.r.length rc) (.slice qa a.kids.length qc) (.slice sa a.sys.length sc)) σ n3∧R.Sh (pu6 w3 (s+1) (.int .i64 (a.kind:Nat)) (.int .i64 (a.n:Nat)) (.string (bs a.name)) (.slice ra a.r.length rc) (.slice qa a.kids.length qc) (.slice sa a.sys.length sc)) _∧TmIn ok (pu6 w3 (s+1) (.int .i64 (a.kind:Nat)) (.int .i64 (a.n:Nat)) (.string (bs a.name)) (.slice ra a.r.length rc) (.slice qa a.kids.length qc) (.slice sa a.sys.length sc)) a _∧Kn No w (pu6 w3 (s+1) (.int .i64 (a.kind:Nat)) (.int .i64 (a.n:Nat)) (.string (bs a.name)) (.slice ra a.r.length rc) (.slice qa a.kids.length qc) (.slice sa a.sys.length sc))∧(∀ g,ok g→w.heap.size≤g∧g<((pu6 w3 (s+1) (.int .i64 (a.kind:Nat)) (.int .i64 (a.n:Nat)) (.string (bs a.name)) (.slice ra a.r.length rc) (.slice qa a.kids.length qc) (.slice sa a.sys.length sc))).heap.size)):=⟨t8,h8,hs8,hT8,kn8,hok8⟩
   clear t8 h8 hs8 hT8 kn8 hok8 k8 hTm h3 hs3 hok3
   clear hk3 kn3 tx3
   go_wp2
   obtain⟨t8,h8,hs8,hT8,kn8,hok8⟩:=H8.out
   unfold pu6 at t8 h8 hs8 hT8 kn8 hok8
   obtain⟨d0,d1,d2,d3,d4,d5⟩:=t8.cells
   refine⟨rfl,.agg #[.int .i64 (a.kind:Nat),.int .i64 (a.n:Nat),.string (bs a.name),.slice ra a.r.length rc,.slice qa a.kids.length qc,.slice sa a.sys.length sc],by simp only [results,Tryz.results26];simp [go_sem,d0,d1,d2,d3,d4,d5],kn8,?_⟩
   exact⟨_,rfl,ok,n3,hT8,hok8,h8,hn3,hs8.sub (fun g hg=>hg.elim (fun h=>.inl (.inl h)) .inr) (fun g hg=>.inl (hs.old g hg))⟩
set_option maxRecDepth 100000 in
set_option maxHeartbeats 4000000 in
theorem termLam_any (R:Rsv) (σ:Sg) (n m c:Nat) (No:Nat→Prop) (t:Sx) (v:Value) (w:World) (r0 r:Rz Tm) (h:R.In w σ n) (hs:R.Sh w No) (ht:SxIn m w t v) (hm:m≤R.bv) (hk:t.kind=2) (hnl:t.names.length≤1000000) (hrr:r=r0.bnd fun a=>some (.inr (inAllF 5 t.names.length a))) (hr:r≠none)
  (hC:∀ (No:Nat→Prop) (v:Value) (w:World),R.In w σ n→R.Sh w No→SxIn m w t v→Calls Tryz.prog 46 #[R.ptr,v] w (OutT R σ n No c r0 w)) :
  Calls Tryz.prog 26 #[R.ptr,v] w (OutT R σ n No c r w):=by
 obtain⟨ka,kc,na,nc,rfl,hN,hK⟩:=ht.form
 have hmw:m≤w.heap.size:=by have:=h.lt;have:=h.rlt;omega
 have hbvs:R.bv≤w.heap.size:=by have:=h.lt;have:=h.rlt;omega
 rw [hk] at ht ⊢
 obtain⟨w1,hw1⟩:∃ w1,w1=w.alloc (.cells #[.int .i64 2,.string (bs t.name),.slice ka t.kids.length kc,.slice na t.names.length nc,.int .i64 t.at_] 26):=⟨_,rfl⟩
 have q:Below w.heap.size w w1:=by rw [hw1];exact below_alloc _ _
 have bx:Bx w1 w.heap.size (.int .i64 2) (.string (bs t.name)) (.slice ka t.kids.length kc) (.slice na t.names.length nc) (.int .i64 t.at_):=by rw [hw1];exact bx_new _ _ _ _ _ _
 have s1:w1.heap.size=w.heap.size+1:=by rw [hw1];simp
 obtain⟨w2,hw2⟩:∃ w2,w2=w1.alloc (.cells #[.int .i64 0,.int .i64 0,.string ⟨#[]⟩,.slice none 0 0,.slice none 0 0,.slice none 0 0] 37):=⟨_,rfl⟩
 have q2:Below w1.heap.size w1 w2:=by rw [hw2];exact below_alloc _ _
 have tx:Tx w2 (w.heap.size+1) (.int .i64 0) (.int .i64 0) (.string ⟨#[]⟩) (.slice none 0 0) (.slice none 0 0) (.slice none 0 0):=by rw [hw2,← s1];exact tx_new _ _ _ _ _ _ _
 have s2:w2.heap.size=w.heap.size+2:=by rw [hw2];simp [s1]
 have qq:Below w.heap.size w w2:=q.trans (q2.mono q.size)
 have bx2:=bx.blw q2
 rw [hw1] at hw2
 obtain⟨h2,hs2⟩:=Rsv.two (w2:=w2) h hs qq (by omega)
 have ht2:=ht.keep (qq.mono hmw)
 have cT:Hid (∀ w4,w4.heap=w2.heap→w4.os=w2.os→w4.tape=w2.tape→w4.output=w2.output→Calls Tryz.prog 46 #[R.ptr,.agg #[.int .i64 2,.string (bs t.name),.slice ka t.kids.length kc,.slice na t.names.length nc,.int .i64 t.at_]] w4 (OutT R σ n (fun g=>No g∨(g=w.heap.size∨g=w.heap.size+1)) c r0 w4)):=by
  intro w4 e1 e2 e3 e4
  have hbl:Below w2.heap.size w2 w4:=⟨e2,e3,e4,by rw [e1];exact Nat.le_refl _,fun k _=>by rw [e1]⟩
  exact hC _ _ w4 (h2.keep hbl) (hs2.keep h2 hbl) (by rw [← hk] at ht2 ⊢; exact ht2.keep (hbl.mono (by omega)))
 obtain⟨x0,x1,x2,x3,x4⟩:=bx2.cells
 have Hs:Hid (w2=_∧Tx w2 (w.heap.size+1) _ _ _ _ _ _∧Below w.heap.size w w2∧Bx w2 w.heap.size _ _ _ _ _∧w2.heap.size=w.heap.size+2):=⟨hw2,tx,qq,bx2,s2⟩
 rw [hw2] at x0 x1 x2 x3 x4
 have HRR:Hid (r=r0.bnd fun a=>some (.inr (inAllF 5 t.names.length a))):=hrr
 obtain⟨L,hL⟩:∃ L,L=t.names.length:=⟨_,rfl⟩
 rw [← hL] at HRR hnl cT x3 Hs ⊢
 unfold Rsv.ptr at cT ⊢
 clear q bx s1 hw1 q2 tx s2 qq bx2 h2 hs2 hw2 ht2 hk hC hrr ht hN hL
 go_enter Tryz.func26,Tryz.ntmps26
 go_wp2_with fail
 obtain⟨hw2,tx,qq,bx2,s2⟩:=Hs.out
 rw [← hw2]
 obtain⟨s,hsz⟩:∃ s,s=w.heap.size:=⟨_,rfl⟩
 have Hsz:Hid (s=w.heap.size):=hsz
 rw [← hsz] at tx s2 cT bx2
 simp only [← hsz]
 have Hs2:Hid (Tx w2 (s+1) _ _ _ _ _ _∧Below w.heap.size w w2∧w2.heap.size=s+2):=⟨tx,qq,s2⟩
 have hS2:=bx2
 clear x0 x1 x2 x3 x4 hw2 Hs tx qq s2 bx2 hsz
 refine wp_region_held_drew (S:=fun w9=>Bx w9 s (.int .i64 2) (.string (bs t.name)) (.slice ka t.kids.length kc) (.slice na L nc) (.int .i64 t.at_)) (by kernel_rfl) hS2 (fun hS=>?_)
 refine wpAnyH_take (i:=0) (v:=.pointer (some ⟨s,3,none⟩)) rfl (by kernel_rfl) (by kernel_rfl) (by kernel_rfl) (fun _ _ _ h=>h) (Or.inl ⟨by rfl,fun w hS=>by go_simp⟩) hS ?_
 simp only [Act.put,List.getElem_toArray,List.getElem_cons_zero,List.getElem_cons_succ,List.setIfInBounds_toArray,List.set_cons_zero,List.set_cons_succ]
 refine wpAnyH_take (i:=1) (v:=.slice na L nc) rfl (by kernel_rfl) (by kernel_rfl) (by kernel_rfl) (fun _ _ _ h=>h) (Or.inl ⟨by rfl,fun w hS=>by obtain⟨e0,e1,e2,e3,e4⟩:=hS.cells;go_simp⟩) hS ?_
 simp only [Act.put,List.getElem_toArray,List.getElem_cons_zero,List.getElem_cons_succ,List.setIfInBounds_toArray,List.set_cons_zero,List.set_cons_succ]
 refine wpAnyH_take (i:=2) (v:=.int .i64 (L:Nat)) rfl (by kernel_rfl) (by kernel_rfl) (by kernel_rfl) (fun _ _ _ h=>h) (Or.inl ⟨by rfl,fun w hS=>by go_simp⟩) hS ?_
 simp only [Act.put,List.getElem_toArray,List.getElem_cons_zero,List.getElem_cons_succ,List.setIfInBounds_toArray,List.set_cons_zero,List.set_cons_succ]
 refine wpAnyH_take (i:=3) (v:=.pointer (some ⟨R.r,0,none⟩)) rfl (by kernel_rfl) (by kernel_rfl) (by kernel_rfl) (fun _ _ _ h=>h) (Or.inl ⟨by rfl,fun w hS=>by go_simp⟩) hS ?_
 simp only [Act.put,List.getElem_toArray,List.getElem_cons_zero,List.getElem_cons_succ,List.setIfInBounds_toArray,List.set_cons_zero,List.set_cons_succ]
 refine wpAnyH_take (i:=4) (v:=.agg #[.int .i64 2,.string (bs t.name),.slice ka t.kids.length kc,.slice na L nc,.int .i64 t.at_]) rfl (by kernel_rfl) (by kernel_rfl) (by kernel_rfl) (fun _ _ _ h=>h) (Or.inl ⟨by rfl,fun w hS=>by obtain⟨e0,e1,e2,e3,e4⟩:=hS.cells;go_simp⟩) hS ?_
 simp only [Act.put,List.getElem_toArray,List.getElem_cons_zero,List.getElem_cons_succ,List.setIfInBounds_toArray,List.set_cons_zero,List.set_cons_succ]
 refine wpAnyH_ready (rs:=[5]) (by kernel_rfl) (by simp) ?_
 refine ready_cons rfl (fun KK hKK=>?_) AllReadyH.nil
 refine⟨?_⟩
 go_simp
 refine (cT.out w2.drew rfl rfl rfl rfl).mono ?_
 rintro e w4 ⟨hk4,hE⟩
 obtain⟨tx,qq,s2⟩:=Hs2.out
 have kn4:Kn No w w4:=(Kn.of_below qq).trans ((Kn.drewR No w2).trans (hk4.sub fun g hg=>.inl hg))
 cases r0 with
 | none=>exact absurd HRR.out hr
 | some y =>
  cases y with
  | inl p =>
   have hRR:Hid (r=some (.inl p)):=HRR.out
   obtain rfl:e=_:=hE
   refine⟨rfl,kn4,?_⟩
   rw [hRR.out]
   rfl
  | inr b =>
   have HRb:Hid (r=some (.inr (inAllF 5 L b))):=HRR.out
   obtain⟨vT,rfl,ok4,n4,hTm,hok4,h4,hn4,hs4⟩:=hE
   have tx4:Tx w4 (s+1) _ _ _ _ _ _:=Tx.kn (w:=w2.drew) tx hk4 (.inr (.inr rfl))
   have by4:Bx w4 s (.int .i64 2) (.string (bs t.name)) (.slice ka t.kids.length kc) (.slice na L nc) (.int .i64 t.at_):=Bx.kn (w:=w2.drew) hS2 hk4 (.inr (.inl rfl))
   have c2:=inAll_any 5 L b vT ok4 w4 hTm hnl
   obtain⟨u0,u1,u2,u3,u4,u5,rfl,o0,o1,o2,o3,o4,o5⟩:=hTm.six
   have hok4':∀ g,ok4 g→s+2≤g∧g<w4.heap.size:=fun g hg=>by have hq:w2.heap.size≤g∧g<w4.heap.size:=hok4 g hg;omega
   have sz4:w2.heap.size≤w4.heap.size:=hk4.size
   have H4:Hid (Tx w4 (s+1) _ _ _ _ _ _∧R.In w4 σ n4∧n4≤n+c∧R.Sh w4 (fun g=>(No g∨(g=s∨g=s+1))∨ok4 g)∧(∀ g,ok4 g→s+2≤g∧g<w4.heap.size)∧Kn No w w4∧s+2≤w4.heap.size):=⟨tx4,h4,hn4,hs4,hok4',kn4,by omega⟩
   clear tx4 h4 hn4 hs4 hok4 hok4' kn4 hk4 hTm hS tx qq s2 HRR cT
   refine hKK.out _ _ by4 (fun hS=>?_)
   clear hKK KK
   try simp only [Act.put,List.getElem_toArray,List.getElem_cons_zero,List.getElem_cons_succ,List.setIfInBounds_toArray,List.set_cons_zero,List.set_cons_succ]
   refine wpAnyH_ready (rs:=[6]) (by kernel_rfl) (by simp) ?_
   refine ready_cons rfl (fun KK hKK=>?_) AllReadyH.nil
   refine⟨?_⟩
   go_simp
   refine c2.mono ?_
   rintro e w5 ⟨vW,rfl,hTW,hb5⟩
   obtain⟨tx4,h4,hn4,hs4,hok4',kn4,sz4⟩:=H4.out
   obtain⟨a,ha⟩:∃ a,a=inAllF 5 L b:=⟨_,rfl⟩
   rw [← ha] at hTW HRb
   clear ha c2
   obtain⟨ra,rc,qa,qc,sa,sc,rfl,_⟩:=hTW.form
   have tx3:=tx4.blw hb5
   have by5:=by4.blw hb5
   have h3:=h4.keep hb5
   have n3e:∃ n3,n3=n4:=⟨_,rfl⟩
   obtain⟨n3,hn3e⟩:=n3e
   rw [← hn3e] at h3 hn4
   have hn3:=hn4
   obtain⟨ok,hoke⟩:∃ ok:Nat→Prop,ok=fun g=>ok4 g∨(w4.heap.size≤g∧g<w5.heap.size):=⟨_,rfl⟩
   have hs3:R.Sh w5 (fun g=>(No g∨(g=s∨g=s+1))∨ok g):=by
    rw [hoke]
    exact (hs4.more (ok:=fun g=>w4.heap.size≤g∧g<w5.heap.size) h4 hb5 (fun g hg=>hg)).sub (fun g hg=>hg.elim (fun h=>.inl (.inl h)) (fun h=>h.elim (fun h=>.inl (.inr h)) .inr)) (fun g hg=>.inl (.inl (hs.old g hg)))
   have hTm:TmIn ok w5 a (.agg #[.int .i64 (a.kind:Nat),.int .i64 (a.n:Nat),.string (bs a.name),.slice ra a.r.length rc,.slice qa a.kids.length qc,.slice sa a.sys.length sc]):=by rw [hoke];exact hTW
   have hok3:∀ g,ok g→s+2≤g∧g<w5.heap.size:=by
    rw [hoke]
    intro g hg
    have:=hb5.size
    rcases hg with hg|hg
    ·have:=hok4' g hg;omega
    ·omega
   have kn5:Kn No w w5:=kn4.trans (Kn.of_below hb5)
   have HRf:Hid (r=some (.inr a)):=HRb
   clear hTW h4 hs4 hok4' kn4 tx4 hn4 hn3e hoke H4 by4
   have t8:=tx3.put (.int .i64 (a.kind:Nat)) (.int .i64 (a.n:Nat)) (.string (bs a.name)) (.slice ra a.r.length rc) (.slice qa a.kids.length qc) (.slice sa a.sys.length sc)
   have k8:Kn (fun g=>g≠s+1) w5 (pu6 w5 (s+1) (.int .i64 (a.kind:Nat)) (.int .i64 (a.n:Nat)) (.string (bs a.name)) (.slice ra a.r.length rc) (.slice qa a.kids.length qc) (.slice sa a.sys.length sc)):=pu6_kn
   obtain⟨h8,hs8⟩:=h3.off hs3 (x:=s+1) (.inl (.inr (.inr rfl))) (by have:=Hsz.out;omega) k8
   have hT8:=hTm.kn k8 fun g hg=>by have:=(hok3 g hg).1;omega
   have kn8:Kn No w (pu6 w5 (s+1) (.int .i64 (a.kind:Nat)) (.int .i64 (a.n:Nat)) (.string (bs a.name)) (.slice ra a.r.length rc) (.slice qa a.kids.length qc) (.slice sa a.sys.length sc)):=kn5.trans ⟨k8.os,k8.tape,k8.output,k8.size,fun g hg hgl=>k8.block g (fun e=>by have:=hs.lt g hg;have:=Hsz.out;omega) hgl⟩
   have hok8:∀ g,ok g→w.heap.size≤g∧g<((pu6 w5 (s+1) (.int .i64 (a.kind:Nat)) (.int .i64 (a.n:Nat)) (.string (bs a.name)) (.slice ra a.r.length rc) (.slice qa a.kids.length qc) (.slice sa a.sys.length sc))).heap.size:=fun g hg=>by have:=hok3 g hg;have:=k8.size;have:=Hsz.out;omega
   obtain⟨c0,c1,c2,c3,c4,c5⟩:=tx3.cells
   have g0:=tx3.cold 0
   have g1:=tx3.cold 1
   have g2:=tx3.cold 2
   have g3:=tx3.cold 3
   have g4:=tx3.cold 4
   have g5:=tx3.cold 5
   have H8:Hid (Tx (pu6 w5 (s+1) (.int .i64 (a.kind:Nat)) (.int .i64 (a.n:Nat)) (.string (bs a.name)) (.slice ra a.r.length rc) (.slice qa a.kids.length qc) (.slice sa a.sys.length sc)) (s+1) _ _ _ _ _ _∧R.In (pu6 w5 (s+1) (.int .i64 (a.kind:Nat)) (.int .i64 (a.n:Nat)) (.string (bs a.name)) (.slice ra a.r.length rc) (.slice qa a.kids.length qc) (.slice sa a.sys.length sc)) σ n3∧R.Sh (pu6 w5 (s+1) (.int .i64 (a.kind:Nat)) (.int .i64 (a.n:Nat)) (.string (bs a.name)) (.slice ra a.r.length rc) (.slice qa a.kids.length qc) (.slice sa a.sys.length sc)) _∧TmIn ok (pu6 w5 (s+1) (.int .i64 (a.kind:Nat)) (.int .i64 (a.n:Nat)) (.string (bs a.name)) (.slice ra a.r.length rc) (.slice qa a.kids.length qc) (.slice sa a.sys.length sc)) a _∧Kn No w (pu6 w5 (s+1) (.int .i64 (a.kind:Nat)) (.int .i64 (a.n:Nat)) (.string (bs a.name)) (.slice ra a.r.length rc) (.slice qa a.kids.length qc) (.slice sa a.sys.length sc))∧(∀ g,ok g→w.heap.size≤g∧g<((pu6 w5 (s+1) (.int .i64 (a.kind:Nat)) (.int .i64 (a.n:Nat)) (.string (bs a.name)) (.slice ra a.r.length rc) (.slice qa a.kids.length qc) (.slice sa a.sys.length sc))).heap.size)):=⟨t8,h8,hs8,hT8,kn8,hok8⟩
   clear t8 h8 hs8 hT8 kn8 hok8 k8 hTm h3 hs3 hok3
   have by8:Bx (pu6 w5 (s+1) (.int .i64 (a.kind:Nat)) (.int .i64 (a.n:Nat)) (.string (bs a.name)) (.slice ra a.r.length rc) (.slice qa a.kids.length qc) (.slice sa a.sys.length sc)) s _ _ _ _ _:=by5.kn (No:=fun g=>g≠s+1) pu6_kn (by omega)
   have HB8:Hid (Bx (pu6 w5 (s+1) (.int .i64 (a.kind:Nat)) (.int .i64 (a.n:Nat)) (.string (bs a.name)) (.slice ra a.r.length rc) (.slice qa a.kids.length qc) (.slice sa a.sys.length sc)) s (.int .i64 2) (.string (bs t.name)) (.slice ka t.kids.length kc) (.slice na L nc) (.int .i64 t.at_)):=by8
   clear hS by8 kn5 tx3
   refine hKK.out _ _ by5 (fun hS=>?_)
   clear hKK KK
   try simp only [Act.put,List.getElem_toArray,List.getElem_cons_zero,List.getElem_cons_succ,List.setIfInBounds_toArray,List.set_cons_zero,List.set_cons_succ]
   refine wpAnyH_ready (rs:=[7]) (by kernel_rfl) (by simp) ?_
   refine ready_cons rfl (fun KK hKK=>?_) AllReadyH.nil
   refine⟨?_⟩
   go_simp
   unfold pu6 at H8 HB8
   obtain⟨w8,hw8⟩:∃ w8,w8=(((((w5.setCell ⟨s+1,0,none⟩ (.int .i64 (a.kind:Nat))).setCell ⟨s+1,1,none⟩ (.int .i64 (a.n:Nat))).setCell ⟨s+1,2,none⟩ (.string (bs a.name))).setCell ⟨s+1,3,none⟩ (.slice ra a.r.length rc)).setCell ⟨s+1,4,none⟩ (.slice qa a.kids.length qc)).setCell ⟨s+1,5,none⟩ (.slice sa a.sys.length sc):=⟨_,rfl⟩
   rw [← hw8] at H8 HB8 ⊢
   refine hKK.out _ _ HB8.out (fun hS=>?_)
   clear hKK KK hw8 by5 hS c0 c1 c2 c3 c4 c5 g0 g1 g2 g3 g4 g5
   try simp only [Act.put,List.getElem_toArray,List.getElem_cons_zero,List.getElem_cons_succ,List.setIfInBounds_toArray,List.set_cons_zero,List.set_cons_succ]
   refine wpAnyH_done (by kernel_rfl) ?_ _
   go_wp2
   obtain⟨t8,h8,hs8,hT8,kn8,hok8⟩:=H8.out
   obtain⟨d0,d1,d2,d3,d4,d5⟩:=t8.cells
   refine⟨rfl,.agg #[.int .i64 (a.kind:Nat),.int .i64 (a.n:Nat),.string (bs a.name),.slice ra a.r.length rc,.slice qa a.kids.length qc,.slice sa a.sys.length sc],by simp only [results,Tryz.results26];simp [go_sem,d0,d1,d2,d3,d4,d5],kn8,?_⟩
   rw [HRf.out]
   exact⟨_,rfl,ok,n3,hT8,hok8,h8,hn3,hs8.sub (fun g hg=>hg.elim (fun h=>.inl (.inl h)) .inr) (fun g hg=>.inl (hs.old g hg))⟩
set_option maxRecDepth 100000 in
set_option maxHeartbeats 4000000 in
theorem termPLam_any (R:Rsv) (σ:Sg) (n m c:Nat) (No:Nat→Prop) (t:Sx) (v:Value) (w:World) (r0 r:Rz Tm) (h:R.In w σ n) (hs:R.Sh w No) (ht:SxIn m w t v) (hm:m≤R.bv) (hk:t.kind=3) (hnl:t.names.length≤1000000) (hrr:r=r0.bnd fun a=>some (.inr (inAllF 12 t.names.length a))) (hr:r≠none)
  (hC:∀ (No:Nat→Prop) (v:Value) (w:World),R.In w σ n→R.Sh w No→SxIn m w t v→Calls Tryz.prog 46 #[R.ptr,v] w (OutT R σ n No c r0 w)) :
  Calls Tryz.prog 26 #[R.ptr,v] w (OutT R σ n No c r w):=by
 obtain⟨ka,kc,na,nc,rfl,hN,hK⟩:=ht.form
 have hmw:m≤w.heap.size:=by have:=h.lt;have:=h.rlt;omega
 have hbvs:R.bv≤w.heap.size:=by have:=h.lt;have:=h.rlt;omega
 rw [hk] at ht ⊢
 obtain⟨w1,hw1⟩:∃ w1,w1=w.alloc (.cells #[.int .i64 3,.string (bs t.name),.slice ka t.kids.length kc,.slice na t.names.length nc,.int .i64 t.at_] 26):=⟨_,rfl⟩
 have q:Below w.heap.size w w1:=by rw [hw1];exact below_alloc _ _
 have bx:Bx w1 w.heap.size (.int .i64 3) (.string (bs t.name)) (.slice ka t.kids.length kc) (.slice na t.names.length nc) (.int .i64 t.at_):=by rw [hw1];exact bx_new _ _ _ _ _ _
 have s1:w1.heap.size=w.heap.size+1:=by rw [hw1];simp
 obtain⟨w2,hw2⟩:∃ w2,w2=w1.alloc (.cells #[.int .i64 0,.int .i64 0,.string ⟨#[]⟩,.slice none 0 0,.slice none 0 0,.slice none 0 0] 37):=⟨_,rfl⟩
 have q2:Below w1.heap.size w1 w2:=by rw [hw2];exact below_alloc _ _
 have tx:Tx w2 (w.heap.size+1) (.int .i64 0) (.int .i64 0) (.string ⟨#[]⟩) (.slice none 0 0) (.slice none 0 0) (.slice none 0 0):=by rw [hw2,← s1];exact tx_new _ _ _ _ _ _ _
 have s2:w2.heap.size=w.heap.size+2:=by rw [hw2];simp [s1]
 have qq:Below w.heap.size w w2:=q.trans (q2.mono q.size)
 have bx2:=bx.blw q2
 rw [hw1] at hw2
 obtain⟨h2,hs2⟩:=Rsv.two (w2:=w2) h hs qq (by omega)
 have ht2:=ht.keep (qq.mono hmw)
 have cT:Hid (∀ w4,w4.heap=w2.heap→w4.os=w2.os→w4.tape=w2.tape→w4.output=w2.output→Calls Tryz.prog 46 #[R.ptr,.agg #[.int .i64 3,.string (bs t.name),.slice ka t.kids.length kc,.slice na t.names.length nc,.int .i64 t.at_]] w4 (OutT R σ n (fun g=>No g∨(g=w.heap.size∨g=w.heap.size+1)) c r0 w4)):=by
  intro w4 e1 e2 e3 e4
  have hbl:Below w2.heap.size w2 w4:=⟨e2,e3,e4,by rw [e1];exact Nat.le_refl _,fun k _=>by rw [e1]⟩
  exact hC _ _ w4 (h2.keep hbl) (hs2.keep h2 hbl) (by rw [← hk] at ht2 ⊢; exact ht2.keep (hbl.mono (by omega)))
 obtain⟨x0,x1,x2,x3,x4⟩:=bx2.cells
 have Hs:Hid (w2=_∧Tx w2 (w.heap.size+1) _ _ _ _ _ _∧Below w.heap.size w w2∧Bx w2 w.heap.size _ _ _ _ _∧w2.heap.size=w.heap.size+2):=⟨hw2,tx,qq,bx2,s2⟩
 rw [hw2] at x0 x1 x2 x3 x4
 have HRR:Hid (r=r0.bnd fun a=>some (.inr (inAllF 12 t.names.length a))):=hrr
 obtain⟨L,hL⟩:∃ L,L=t.names.length:=⟨_,rfl⟩
 rw [← hL] at HRR hnl cT x3 Hs ⊢
 unfold Rsv.ptr at cT ⊢
 clear q bx s1 hw1 q2 tx s2 qq bx2 h2 hs2 hw2 ht2 hk hC hrr ht hN hL
 go_enter Tryz.func26,Tryz.ntmps26
 go_wp2_with fail
 obtain⟨hw2,tx,qq,bx2,s2⟩:=Hs.out
 rw [← hw2]
 obtain⟨s,hsz⟩:∃ s,s=w.heap.size:=⟨_,rfl⟩
 have Hsz:Hid (s=w.heap.size):=hsz
 rw [← hsz] at tx s2 cT bx2
 simp only [← hsz]
 have Hs2:Hid (Tx w2 (s+1) _ _ _ _ _ _∧Below w.heap.size w w2∧w2.heap.size=s+2):=⟨tx,qq,s2⟩
 have hS2:=bx2
 clear x0 x1 x2 x3 x4 hw2 Hs tx qq s2 bx2 hsz
 refine wp_region_held_drew (S:=fun w9=>Bx w9 s (.int .i64 3) (.string (bs t.name)) (.slice ka t.kids.length kc) (.slice na L nc) (.int .i64 t.at_)) (by kernel_rfl) hS2 (fun hS=>?_)
 refine wpAnyH_take (i:=0) (v:=.pointer (some ⟨s,3,none⟩)) rfl (by kernel_rfl) (by kernel_rfl) (by kernel_rfl) (fun _ _ _ h=>h) (Or.inl ⟨by rfl,fun w hS=>by go_simp⟩) hS ?_
 simp only [Act.put,List.getElem_toArray,List.getElem_cons_zero,List.getElem_cons_succ,List.setIfInBounds_toArray,List.set_cons_zero,List.set_cons_succ]
 refine wpAnyH_take (i:=1) (v:=.slice na L nc) rfl (by kernel_rfl) (by kernel_rfl) (by kernel_rfl) (fun _ _ _ h=>h) (Or.inl ⟨by rfl,fun w hS=>by obtain⟨e0,e1,e2,e3,e4⟩:=hS.cells;go_simp⟩) hS ?_
 simp only [Act.put,List.getElem_toArray,List.getElem_cons_zero,List.getElem_cons_succ,List.setIfInBounds_toArray,List.set_cons_zero,List.set_cons_succ]
 refine wpAnyH_take (i:=2) (v:=.int .i64 (L:Nat)) rfl (by kernel_rfl) (by kernel_rfl) (by kernel_rfl) (fun _ _ _ h=>h) (Or.inl ⟨by rfl,fun w hS=>by go_simp⟩) hS ?_
 simp only [Act.put,List.getElem_toArray,List.getElem_cons_zero,List.getElem_cons_succ,List.setIfInBounds_toArray,List.set_cons_zero,List.set_cons_succ]
 refine wpAnyH_take (i:=3) (v:=.pointer (some ⟨R.r,0,none⟩)) rfl (by kernel_rfl) (by kernel_rfl) (by kernel_rfl) (fun _ _ _ h=>h) (Or.inl ⟨by rfl,fun w hS=>by go_simp⟩) hS ?_
 simp only [Act.put,List.getElem_toArray,List.getElem_cons_zero,List.getElem_cons_succ,List.setIfInBounds_toArray,List.set_cons_zero,List.set_cons_succ]
 refine wpAnyH_take (i:=4) (v:=.agg #[.int .i64 3,.string (bs t.name),.slice ka t.kids.length kc,.slice na L nc,.int .i64 t.at_]) rfl (by kernel_rfl) (by kernel_rfl) (by kernel_rfl) (fun _ _ _ h=>h) (Or.inl ⟨by rfl,fun w hS=>by obtain⟨e0,e1,e2,e3,e4⟩:=hS.cells;go_simp⟩) hS ?_
 simp only [Act.put,List.getElem_toArray,List.getElem_cons_zero,List.getElem_cons_succ,List.setIfInBounds_toArray,List.set_cons_zero,List.set_cons_succ]
 refine wpAnyH_ready (rs:=[5]) (by kernel_rfl) (by simp) ?_
 refine ready_cons rfl (fun KK hKK=>?_) AllReadyH.nil
 refine⟨?_⟩
 go_simp
 refine (cT.out w2.drew rfl rfl rfl rfl).mono ?_
 rintro e w4 ⟨hk4,hE⟩
 obtain⟨tx,qq,s2⟩:=Hs2.out
 have kn4:Kn No w w4:=(Kn.of_below qq).trans ((Kn.drewR No w2).trans (hk4.sub fun g hg=>.inl hg))
 cases r0 with
 | none=>exact absurd HRR.out hr
 | some y =>
  cases y with
  | inl p =>
   have hRR:Hid (r=some (.inl p)):=HRR.out
   obtain rfl:e=_:=hE
   refine⟨rfl,kn4,?_⟩
   rw [hRR.out]
   rfl
  | inr b =>
   have HRb:Hid (r=some (.inr (inAllF 12 L b))):=HRR.out
   obtain⟨vT,rfl,ok4,n4,hTm,hok4,h4,hn4,hs4⟩:=hE
   have tx4:Tx w4 (s+1) _ _ _ _ _ _:=Tx.kn (w:=w2.drew) tx hk4 (.inr (.inr rfl))
   have by4:Bx w4 s (.int .i64 3) (.string (bs t.name)) (.slice ka t.kids.length kc) (.slice na L nc) (.int .i64 t.at_):=Bx.kn (w:=w2.drew) hS2 hk4 (.inr (.inl rfl))
   have c2:=inAll_any 12 L b vT ok4 w4 hTm hnl
   obtain⟨u0,u1,u2,u3,u4,u5,rfl,o0,o1,o2,o3,o4,o5⟩:=hTm.six
   have hok4':∀ g,ok4 g→s+2≤g∧g<w4.heap.size:=fun g hg=>by have hq:w2.heap.size≤g∧g<w4.heap.size:=hok4 g hg;omega
   have sz4:w2.heap.size≤w4.heap.size:=hk4.size
   have H4:Hid (Tx w4 (s+1) _ _ _ _ _ _∧R.In w4 σ n4∧n4≤n+c∧R.Sh w4 (fun g=>(No g∨(g=s∨g=s+1))∨ok4 g)∧(∀ g,ok4 g→s+2≤g∧g<w4.heap.size)∧Kn No w w4∧s+2≤w4.heap.size):=⟨tx4,h4,hn4,hs4,hok4',kn4,by omega⟩
   clear tx4 h4 hn4 hs4 hok4 hok4' kn4 hk4 hTm hS tx qq s2 HRR cT
   refine hKK.out _ _ by4 (fun hS=>?_)
   clear hKK KK
   try simp only [Act.put,List.getElem_toArray,List.getElem_cons_zero,List.getElem_cons_succ,List.setIfInBounds_toArray,List.set_cons_zero,List.set_cons_succ]
   refine wpAnyH_ready (rs:=[6]) (by kernel_rfl) (by simp) ?_
   refine ready_cons rfl (fun KK hKK=>?_) AllReadyH.nil
   refine⟨?_⟩
   go_simp
   refine c2.mono ?_
   rintro e w5 ⟨vW,rfl,hTW,hb5⟩
   obtain⟨tx4,h4,hn4,hs4,hok4',kn4,sz4⟩:=H4.out
   obtain⟨a,ha⟩:∃ a,a=inAllF 12 L b:=⟨_,rfl⟩
   rw [← ha] at hTW HRb
   clear ha c2
   obtain⟨ra,rc,qa,qc,sa,sc,rfl,_⟩:=hTW.form
   have tx3:=tx4.blw hb5
   have by5:=by4.blw hb5
   have h3:=h4.keep hb5
   have n3e:∃ n3,n3=n4:=⟨_,rfl⟩
   obtain⟨n3,hn3e⟩:=n3e
   rw [← hn3e] at h3 hn4
   have hn3:=hn4
   obtain⟨ok,hoke⟩:∃ ok:Nat→Prop,ok=fun g=>ok4 g∨(w4.heap.size≤g∧g<w5.heap.size):=⟨_,rfl⟩
   have hs3:R.Sh w5 (fun g=>(No g∨(g=s∨g=s+1))∨ok g):=by
    rw [hoke]
    exact (hs4.more (ok:=fun g=>w4.heap.size≤g∧g<w5.heap.size) h4 hb5 (fun g hg=>hg)).sub (fun g hg=>hg.elim (fun h=>.inl (.inl h)) (fun h=>h.elim (fun h=>.inl (.inr h)) .inr)) (fun g hg=>.inl (.inl (hs.old g hg)))
   have hTm:TmIn ok w5 a (.agg #[.int .i64 (a.kind:Nat),.int .i64 (a.n:Nat),.string (bs a.name),.slice ra a.r.length rc,.slice qa a.kids.length qc,.slice sa a.sys.length sc]):=by rw [hoke];exact hTW
   have hok3:∀ g,ok g→s+2≤g∧g<w5.heap.size:=by
    rw [hoke]
    intro g hg
    have:=hb5.size
    rcases hg with hg|hg
    ·have:=hok4' g hg;omega
    ·omega
   have kn5:Kn No w w5:=kn4.trans (Kn.of_below hb5)
   have HRf:Hid (r=some (.inr a)):=HRb
   clear hTW h4 hs4 hok4' kn4 tx4 hn4 hn3e hoke H4 by4
   have t8:=tx3.put (.int .i64 (a.kind:Nat)) (.int .i64 (a.n:Nat)) (.string (bs a.name)) (.slice ra a.r.length rc) (.slice qa a.kids.length qc) (.slice sa a.sys.length sc)
   have k8:Kn (fun g=>g≠s+1) w5 (pu6 w5 (s+1) (.int .i64 (a.kind:Nat)) (.int .i64 (a.n:Nat)) (.string (bs a.name)) (.slice ra a.r.length rc) (.slice qa a.kids.length qc) (.slice sa a.sys.length sc)):=pu6_kn
   obtain⟨h8,hs8⟩:=h3.off hs3 (x:=s+1) (.inl (.inr (.inr rfl))) (by have:=Hsz.out;omega) k8
   have hT8:=hTm.kn k8 fun g hg=>by have:=(hok3 g hg).1;omega
   have kn8:Kn No w (pu6 w5 (s+1) (.int .i64 (a.kind:Nat)) (.int .i64 (a.n:Nat)) (.string (bs a.name)) (.slice ra a.r.length rc) (.slice qa a.kids.length qc) (.slice sa a.sys.length sc)):=kn5.trans ⟨k8.os,k8.tape,k8.output,k8.size,fun g hg hgl=>k8.block g (fun e=>by have:=hs.lt g hg;have:=Hsz.out;omega) hgl⟩
   have hok8:∀ g,ok g→w.heap.size≤g∧g<((pu6 w5 (s+1) (.int .i64 (a.kind:Nat)) (.int .i64 (a.n:Nat)) (.string (bs a.name)) (.slice ra a.r.length rc) (.slice qa a.kids.length qc) (.slice sa a.sys.length sc))).heap.size:=fun g hg=>by have:=hok3 g hg;have:=k8.size;have:=Hsz.out;omega
   obtain⟨c0,c1,c2,c3,c4,c5⟩:=tx3.cells
   have g0:=tx3.cold 0
   have g1:=tx3.cold 1
   have g2:=tx3.cold 2
   have g3:=tx3.cold 3
   have g4:=tx3.cold 4
   have g5:=tx3.cold 5
   have H8:Hid (Tx (pu6 w5 (s+1) (.int .i64 (a.kind:Nat)) (.int .i64 (a.n:Nat)) (.string (bs a.name)) (.slice ra a.r.length rc) (.slice qa a.kids.length qc) (.slice sa a.sys.length sc)) (s+1) _ _ _ _ _ _∧R.In (pu6 w5 (s+1) (.int .i64 (a.kind:Nat)) (.int .i64 (a.n:Nat)) (.string (bs a.name)) (.slice ra a.r.length rc) (.slice qa a.kids.length qc) (.slice sa a.sys.length sc)) σ n3∧R.Sh (pu6 w5 (s+1) (.int .i64 (a.kind:Nat)) (.int .i64 (a.n:Nat)) (.string (bs a.name)) (.slice ra a.r.length rc) (.slice qa a.kids.length qc) (.slice sa a.sys.length sc)) _∧TmIn ok (pu6 w5 (s+1) (.int .i64 (a.kind:Nat)) (.int .i64 (a.n:Nat)) (.string (bs a.name)) (.slice ra a.r.length rc) (.slice qa a.kids.length qc) (.slice sa a.sys.length sc)) a _∧Kn No w (pu6 w5 (s+1) (.int .i64 (a.kind:Nat)) (.int .i64 (a.n:Nat)) (.string (bs a.name)) (.slice ra a.r.length rc) (.slice qa a.kids.length qc) (.slice sa a.sys.length sc))∧(∀ g,ok g→w.heap.size≤g∧g<((pu6 w5 (s+1) (.int .i64 (a.kind:Nat)) (.int .i64 (a.n:Nat)) (.string (bs a.name)) (.slice ra a.r.length rc) (.slice qa a.kids.length qc) (.slice sa a.sys.length sc))).heap.size)):=⟨t8,h8,hs8,hT8,kn8,hok8⟩
   clear t8 h8 hs8 hT8 kn8 hok8 k8 hTm h3 hs3 hok3
   have by8:Bx (pu6 w5 (s+1) (.int .i64 (a.kind:Nat)) (.int .i64 (a.n:Nat)) (.string (bs a.name)) (.slice ra a.r.length rc) (.slice qa a.kids.length qc) (.slice sa a.sys.length sc)) s _ _ _ _ _:=by5.kn (No:=fun g=>g≠s+1) pu6_kn (by omega)
   have HB8:Hid (Bx (pu6 w5 (s+1) (.int .i64 (a.kind:Nat)) (.int .i64 (a.n:Nat)) (.string (bs a.name)) (.slice ra a.r.length rc) (.slice qa a.kids.length qc) (.slice sa a.sys.length sc)) s (.int .i64 3) (.string (bs t.name)) (.slice ka t.kids.length kc) (.slice na L nc) (.int .i64 t.at_)):=by8
   clear hS by8 kn5 tx3
   refine hKK.out _ _ by5 (fun hS=>?_)
   clear hKK KK
   try simp only [Act.put,List.getElem_toArray,List.getElem_cons_zero,List.getElem_cons_succ,List.setIfInBounds_toArray,List.set_cons_zero,List.set_cons_succ]
   refine wpAnyH_ready (rs:=[7]) (by kernel_rfl) (by simp) ?_
   refine ready_cons rfl (fun KK hKK=>?_) AllReadyH.nil
   refine⟨?_⟩
   go_simp
   unfold pu6 at H8 HB8
   obtain⟨w8,hw8⟩:∃ w8,w8=(((((w5.setCell ⟨s+1,0,none⟩ (.int .i64 (a.kind:Nat))).setCell ⟨s+1,1,none⟩ (.int .i64 (a.n:Nat))).setCell ⟨s+1,2,none⟩ (.string (bs a.name))).setCell ⟨s+1,3,none⟩ (.slice ra a.r.length rc)).setCell ⟨s+1,4,none⟩ (.slice qa a.kids.length qc)).setCell ⟨s+1,5,none⟩ (.slice sa a.sys.length sc):=⟨_,rfl⟩
   rw [← hw8] at H8 HB8 ⊢
   refine hKK.out _ _ HB8.out (fun hS=>?_)
   clear hKK KK hw8 by5 hS c0 c1 c2 c3 c4 c5 g0 g1 g2 g3 g4 g5
   try simp only [Act.put,List.getElem_toArray,List.getElem_cons_zero,List.getElem_cons_succ,List.setIfInBounds_toArray,List.set_cons_zero,List.set_cons_succ]
   refine wpAnyH_done (by kernel_rfl) ?_ _
   go_wp2
   obtain⟨t8,h8,hs8,hT8,kn8,hok8⟩:=H8.out
   obtain⟨d0,d1,d2,d3,d4,d5⟩:=t8.cells
   refine⟨rfl,.agg #[.int .i64 (a.kind:Nat),.int .i64 (a.n:Nat),.string (bs a.name),.slice ra a.r.length rc,.slice qa a.kids.length qc,.slice sa a.sys.length sc],by simp only [results,Tryz.results26];simp [go_sem,d0,d1,d2,d3,d4,d5],kn8,?_⟩
   rw [HRf.out]
   exact⟨_,rfl,ok,n3,hT8,hok8,h8,hn3,hs8.sub (fun g hg=>hg.elim (fun h=>.inl (.inl h)) .inr) (fun g hg=>.inl (hs.old g hg))⟩
end Go.Proofs.YtahnbigkdfmpbaaGreatDoor
