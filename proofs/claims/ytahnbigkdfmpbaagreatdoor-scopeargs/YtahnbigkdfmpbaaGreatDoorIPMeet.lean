/- Dims: meet, join. -/
import Derived.Deep.RegionWith
import Derived.Test.YtahnbigkdfmpbaaGreatDoorIPB
import Derived.Test.YtahnbigkdfmpbaaGreatDoorIPRow
set_option linter.unusedVariables false
set_option linter.unusedSimpArgs false
namespace Go.Proofs.YtahnbigkdfmpbaaGreatDoor
open Go.RowKit
set_option maxRecDepth 100000 in
set_option maxHeartbeats 4000000 in
theorem meet_step (r:Rdr) (hwf:r.wf) (f:Nat) (ihd:∀ g,g≤f→RuleC r 64 (dimP r.e g)):RuleC r 107 (meetP r.e (f+1)):=by
 intro l R w hl hR hNF
 obtain⟨X,hX⟩:∃ X,meetP r.e (f+1) l R=X:=⟨_,rfl⟩
 rw [hX] at hNF ⊢
 rw [meetP_s] at hX
 have HX:Hid (_=X):=hX
 clear hX
 have hlt:=hR.lt.2
 obtain⟨w1,hw1⟩:∃ w1,w1=w.alloc (.cells #[.int .i64 0,.string ⟨#[]⟩,.slice none 0 0,.slice none 0 0,.int .i64 0] 26):=⟨_,rfl⟩
 have hB1:Below w.heap.size w w1:=by rw [hw1];exact below_alloc _ _
 have hh1:Hole w1 w.heap.size:=by rw [hw1];exact hole_new w
 have hn1:w.heap.size<w1.heap.size:=by rw [hw1];simp
 have hI1:=hR.below hB1
 have hK1:=Kp.refl r.b w1
 have Hw1:Hid (_=_):=hw1
 clear hw1
 go_enter Tryz.func107,Tryz.ntmps107
 go_wp2_with fail
 rw [← Hw1.out]
 clear Hw1
 have hN2:NF (dimP r.e f l (R)):=NF.left (by have h:=hNF;rw [← HX.out] at h;exact h)
 have c:=ihd f (Nat.le_refl _) l (R) w1 (by omega) hI1 hN2
 cases hq:dimP r.e f l (R) using Rs.cs with
 | bad p x =>
  rw [hq] at c HX
  go_wp2_with fail
  refine c.mono ?_
  rintro e w2 ⟨rfl,hb⟩
  exact⟨rfl,rule_bad HX.out.symm hB1 hK1 hlt hb⟩
 | ok t2 R2 =>
  rw [hq] at c HX
  rw [bnd_ok] at HX
  go_wp2_with fail
  refine c.mono ?_
  rintro e w2 ⟨v2,rfl,ht2,hI2,hk2⟩
  have hK2:=hK1.trans hk2
  clear c hq
  replace ht2:=TrIn.from ht2 hK1.size
  obtain⟨vk2,vn2,rfl,hf2,ka2,kc2,rfl⟩:=TrIn.form ht2
  obtain⟨na2,nc2,rfl⟩:=hf2.form
  clear hf2
  go_wp2_with fail
  have hal:=below_alloc w2 (.cells #[.int .i64 (t2.kind:Nat),.string (bs t2.name),.slice ka2 t2.kids.length kc2,.slice na2 t2.names.length nc2,.int .i64 (t2.at_:Nat)] 26)
  have hv0:TVar w1.heap.size w2.heap.size (w2.alloc (.cells #[.int .i64 (t2.kind:Nat),.string (bs t2.name),.slice ka2 t2.kids.length kc2,.slice na2 t2.names.length nc2,.int .i64 (t2.at_:Nat)] 26)) t2:=⟨ka2,kc2,na2,nc2,blk_new _ _ _ _ _ _,TrIn.ahead ht2 (Nat.le_refl _) hal⟩
  have hsz2:=hK2.size
  go_loopg [] f (fun k wr=>∃ t R',TVar w1.heap.size w2.heap.size wr t∧r.In wr R'∧Kp r.b w1 wr∧Hid (k≤f∧meetL r.e k l t R'=X))
  case atStart=>exact⟨t2,R2,hv0,hI2.below hal,chainK hK2 hal,⟨Nat.le_refl _,HX.out⟩⟩
  case round =>
   obtain⟨t,R',hv,hI3,hK3,HK⟩:=hrel
   clear hv0 hal ht2 HX hI2 hK2 hk2
   generalize w2.heap.size=x at *
   cases gk with
   | zero=>exact absurd HK.out.2 (fun h=>by rw [meetL_z] at h;exact hNF 0 h.symm)
   | succ k =>
    have HX:Hid (_=X):=HK.out.2
    have HF:Hid (k+1≤f):=HK.out.1
    rw [meetL_s] at HX
    clear HK
    obtain⟨w3,hw3⟩:∃ w0,w0=wr:=⟨_,rfl⟩
    subst hw3
    cases hq:sees [47,92] (R') with
    | true =>
     have c:=take_any [47,92] (by simp) r w3 (R') hI3 hwf
     rw [hq] at c
     simp only [if_true,Bool.false_eq_true,if_false] at c
     rw [if_pos hq] at HX
     go_wp2_with fail
     refine c.mono ?_
     rintro e w4 ⟨rfl,hI4,hk4⟩
     have hK4:=hK3.trans hk4
     clear c hq
     replace hv:=hv.kp hk4 (by omega) (by omega)
     go_wp2_with fail
     obtain⟨w5,hw5⟩:∃ w0,w0=w4.drew:=⟨_,rfl⟩
     have hB5:Below w4.heap.size w4 w5:=by rw [hw5];exact Below.drew (Below.refl _ _)
     have hI5:=hI4.below hB5
     have hK5:=chainK hK4 hB5
     refine wp_region_any (by kernel_rfl) ?_
     change wpAny _ _ _ _ _ _ _ (World.drew _)
     rw [← hw5]
     clear hw5
     obtain⟨ka,kc,na,nc,hbx,ht⟩:=hv.kp (Kp.of_below (b:=r.b) hB5) (by omega) (by omega)
     clear hv
     have hN:NF (dimP r.e k l ((R').tail)):=NF.left (by have h:=hNF;rw [← HX.out] at h;exact h)
     have c:=ihd k (by have:=HF.out;omega) l ((R').tail) w5 hl hI5 hN
     obtain⟨p0,p1,p2,p3,p4,_⟩:=hbx.cells
     refine wpAny_take (i:=1) (v:=r.ptr) rfl (by kernel_rfl) (by kernel_rfl) (by kernel_rfl) (fun _ _ _ h=>h) (Or.inl ⟨by rfl,fun w=>by go_simp⟩) ?_
     simp only [Act.put,List.setIfInBounds_toArray,List.set_cons_zero,List.set_cons_succ]
     refine wpAny_take (i:=2) (v:=.int .i64 (l:Nat)) rfl (by kernel_rfl) (by kernel_rfl) (by kernel_rfl) (fun _ _ _ h=>h) (Or.inl ⟨by rfl,fun w=>by go_simp⟩) ?_
     simp only [Act.put,List.setIfInBounds_toArray,List.set_cons_zero,List.set_cons_succ]
     refine wpAny_ready (rs:=[0,3]) (by kernel_rfl) (by simp) ?_
     refine AllReady.cons rfl (fun K hK=>?_) (AllReady.cons rfl (fun K hK=>?_) AllReady.nil)
     ·skip
      go_simp
      refine hK _ _ ?_
      clear hK K
      refine wpAny_ready (rs:=[3]) (by kernel_rfl) (by simp) ?_
      refine AllReady.cons rfl (fun K hK=>?_) AllReady.nil
      go_simp
      cases hq:dimP r.e k l ((R').tail) using Rs.cs with
      | bad p y =>
       rw [hq] at c HX
       refine c.mono ?_
       rintro e w6 ⟨rfl,hb⟩
       exact⟨rfl,rule_bad HX.out.symm hB1 hK5 hlt hb⟩
      | ok t6 R6 =>
       rw [hq] at c HX
       rw [bnd_ok] at HX
       refine c.mono ?_
       rintro e w6 ⟨v6,rfl,ht6,hI6,hk6⟩
       have hK6:=hK5.trans hk6
       clear c hq
       refine hK _ _ ?_
       clear hK K
       obtain⟨d0,d1,d2,d3,d4,_⟩:=(hbx.kp hk6 hbx.lt (by omega)).cells
       refine wpAny_ready (rs:=[4]) (by kernel_rfl) (by simp) ?_
       refine AllReady.cons rfl (fun K hK=>?_) AllReady.nil
       go_simp
       refine (two_any 15 t t6 _ _ (But w1.heap.size x) w6 (TrIn.kpB ht (hk6) (by omega)) (TrIn.toB ht6 (by have:=hK5.size;omega) (by have:=hbx.lt;omega)) (fun y hy=>⟨by have:=hK6.size;omega,by have:=(hbx.kp hk6 hbx.lt (by omega)).lt;omega⟩)).mono ?_
       rintro e w7 ⟨v7,rfl,hT,hb7⟩
       have hI7:=hI6.below hb7
       have hK7:=chainK hK6 hb7
       obtain⟨T,hTe⟩:∃ T,T=two 15 t t6:=⟨_,rfl⟩
       rw [← hTe] at hT HX
       clear hTe
       obtain⟨vkT,vnT,rfl,hfT,kaT,kcT,rfl⟩:=TrIn.form hT
       obtain⟨naT,ncT,rfl⟩:=hfT.form
       clear hfT
       have hbX:=Blk.blw (hbx.kp hk6 hbx.lt (by omega)) hb7 (hbx.kp hk6 hbx.lt (by omega)).lt
       obtain⟨s0,s1,s2,s3,s4,f0,f1,f2,f3,f4⟩:=hbX.cells
       refine hK _ _ ?_
       clear hK K
       refine wpAny_ready (rs:=[5]) (by kernel_rfl) (by simp) ?_
       refine AllReady.cons rfl (fun K hK=>?_) AllReady.nil
       go_simp
       refine hK _ _ ?_
       clear hK K
       refine wpAny_done (by kernel_rfl) ?_ _
       go_wp2_with fail
       go_roundg k
       case measure=>omega
       case rel=>exact⟨T,R6,TVar.put hbX hT,(hI7.put5 (by omega) _ _ _ _ _),(hK7.put5 (by omega) _ _ _ _ _),⟨by have:=HF.out;omega,HX.out⟩⟩
     ·skip
      go_simp
      cases hq:dimP r.e k l ((R').tail) using Rs.cs with
      | bad p y =>
       rw [hq] at c HX
       refine c.mono ?_
       rintro e w8 ⟨rfl,hb⟩
       exact⟨rfl,rule_bad HX.out.symm hB1 hK5 hlt hb⟩
      | ok t8 R8 =>
       rw [hq] at c HX
       rw [bnd_ok] at HX
       refine c.mono ?_
       rintro e w8 ⟨v8,rfl,ht8,hI8,hk8⟩
       have hK8:=hK5.trans hk8
       clear c hq
       refine hK _ _ ?_
       clear hK K
       obtain⟨d0,d1,d2,d3,d4,_⟩:=(hbx.kp hk8 hbx.lt (by omega)).cells
       refine wpAny_ready (rs:=[0]) (by kernel_rfl) (by simp) ?_
       refine AllReady.cons rfl (fun K hK=>?_) AllReady.nil
       go_simp
       refine hK _ _ ?_
       clear hK K
       refine wpAny_ready (rs:=[4]) (by kernel_rfl) (by simp) ?_
       refine AllReady.cons rfl (fun K hK=>?_) AllReady.nil
       go_simp
       refine (two_any 15 t t8 _ _ (But w1.heap.size x) w8 (TrIn.kpB ht (hk8) (by omega)) (TrIn.toB ht8 (by have:=hK5.size;omega) (by have:=hbx.lt;omega)) (fun y hy=>⟨by have:=hK8.size;omega,by have:=(hbx.kp hk8 hbx.lt (by omega)).lt;omega⟩)).mono ?_
       rintro e w9 ⟨v9,rfl,hT,hb9⟩
       have hI9:=hI8.below hb9
       have hK9:=chainK hK8 hb9
       obtain⟨T,hTe⟩:∃ T,T=two 15 t t8:=⟨_,rfl⟩
       rw [← hTe] at hT HX
       clear hTe
       obtain⟨vkT,vnT,rfl,hfT,kaT,kcT,rfl⟩:=TrIn.form hT
       obtain⟨naT,ncT,rfl⟩:=hfT.form
       clear hfT
       have hbX:=Blk.blw (hbx.kp hk8 hbx.lt (by omega)) hb9 (hbx.kp hk8 hbx.lt (by omega)).lt
       obtain⟨s0,s1,s2,s3,s4,f0,f1,f2,f3,f4⟩:=hbX.cells
       refine hK _ _ ?_
       clear hK K
       refine wpAny_ready (rs:=[5]) (by kernel_rfl) (by simp) ?_
       refine AllReady.cons rfl (fun K hK=>?_) AllReady.nil
       go_simp
       refine hK _ _ ?_
       clear hK K
       refine wpAny_done (by kernel_rfl) ?_ _
       go_wp2_with fail
       go_roundg k
       case measure=>omega
       case rel=>exact⟨T,R8,TVar.put hbX hT,(hI9.put5 (by omega) _ _ _ _ _),(hK9.put5 (by omega) _ _ _ _ _),⟨by have:=HF.out;omega,HX.out⟩⟩
    | false =>
     have c:=take_any [47,92] (by simp) r w3 (R') hI3 hwf
     rw [hq] at c
     simp only [if_true,Bool.false_eq_true,if_false] at c
     rw [if_neg (neT hq)] at HX
     go_wp2_with fail
     refine c.mono ?_
     rintro e w10 ⟨rfl,hI10,hk10⟩
     have hK10:=hK3.trans hk10
     clear c hq
     obtain⟨ka,kc,na,nc,hb,ht⟩:=hv.kp hk10 (by omega) (by omega)
     clear hv
     obtain⟨p0,p1,p2,p3,p4,_⟩:=hb.cells
     obtain⟨o0,o1,o2,o3,o4,z0,z1,z2,z3,z4⟩:=Blk.cells ((hh1.kp hK10 hn1 hlt))
     go_wp2_with fail
     exact⟨rfl,.agg #[.int .i64 (t.kind:Nat),.string (bs t.name),.slice ka t.kids.length kc,.slice na t.names.length nc,.int .i64 (t.at_:Nat)],by simp [results,Tryz.results107,go_sem, *],rule_end (n:=w.heap.size) HX.out.symm hB1 rfl hn1 hI10 hlt hK10 ht.fromB _ _ _ _ _⟩
set_option maxRecDepth 100000 in
set_option maxHeartbeats 4000000 in
theorem join_step (r:Rdr) (hwf:r.wf) (f:Nat) (ihd:∀ g,g≤f→RuleC r 107 (meetP r.e g)):RuleC r 88 (joinP r.e (f+1)):=by
 intro l R w hl hR hNF
 obtain⟨X,hX⟩:∃ X,joinP r.e (f+1) l R=X:=⟨_,rfl⟩
 rw [hX] at hNF ⊢
 rw [joinP_s] at hX
 have HX:Hid (_=X):=hX
 clear hX
 have hlt:=hR.lt.2
 obtain⟨w1,hw1⟩:∃ w1,w1=w.alloc (.cells #[.int .i64 0,.string ⟨#[]⟩,.slice none 0 0,.slice none 0 0,.int .i64 0] 26):=⟨_,rfl⟩
 have hB1:Below w.heap.size w w1:=by rw [hw1];exact below_alloc _ _
 have hh1:Hole w1 w.heap.size:=by rw [hw1];exact hole_new w
 have hn1:w.heap.size<w1.heap.size:=by rw [hw1];simp
 have hI1:=hR.below hB1
 have hK1:=Kp.refl r.b w1
 have Hw1:Hid (_=_):=hw1
 clear hw1
 go_enter Tryz.func88,Tryz.ntmps88
 go_wp2_with fail
 rw [← Hw1.out]
 clear Hw1
 have hN2:NF (meetP r.e f l (R)):=NF.left (by have h:=hNF;rw [← HX.out] at h;exact h)
 have c:=ihd f (Nat.le_refl _) l (R) w1 (by omega) hI1 hN2
 cases hq:meetP r.e f l (R) using Rs.cs with
 | bad p x =>
  rw [hq] at c HX
  go_wp2_with fail
  refine c.mono ?_
  rintro e w2 ⟨rfl,hb⟩
  exact⟨rfl,rule_bad HX.out.symm hB1 hK1 hlt hb⟩
 | ok t2 R2 =>
  rw [hq] at c HX
  rw [bnd_ok] at HX
  go_wp2_with fail
  refine c.mono ?_
  rintro e w2 ⟨v2,rfl,ht2,hI2,hk2⟩
  have hK2:=hK1.trans hk2
  clear c hq
  replace ht2:=TrIn.from ht2 hK1.size
  obtain⟨vk2,vn2,rfl,hf2,ka2,kc2,rfl⟩:=TrIn.form ht2
  obtain⟨na2,nc2,rfl⟩:=hf2.form
  clear hf2
  go_wp2_with fail
  have hal:=below_alloc w2 (.cells #[.int .i64 (t2.kind:Nat),.string (bs t2.name),.slice ka2 t2.kids.length kc2,.slice na2 t2.names.length nc2,.int .i64 (t2.at_:Nat)] 26)
  have hv0:TVar w1.heap.size w2.heap.size (w2.alloc (.cells #[.int .i64 (t2.kind:Nat),.string (bs t2.name),.slice ka2 t2.kids.length kc2,.slice na2 t2.names.length nc2,.int .i64 (t2.at_:Nat)] 26)) t2:=⟨ka2,kc2,na2,nc2,blk_new _ _ _ _ _ _,TrIn.ahead ht2 (Nat.le_refl _) hal⟩
  have hsz2:=hK2.size
  go_loopg [] f (fun k wr=>∃ t R',TVar w1.heap.size w2.heap.size wr t∧r.In wr R'∧Kp r.b w1 wr∧Hid (k≤f∧joinL r.e k l t R'=X))
  case atStart=>exact⟨t2,R2,hv0,hI2.below hal,chainK hK2 hal,⟨Nat.le_refl _,HX.out⟩⟩
  case round =>
   obtain⟨t,R',hv,hI3,hK3,HK⟩:=hrel
   clear hv0 hal ht2 HX hI2 hK2 hk2
   generalize w2.heap.size=x at *
   cases gk with
   | zero=>exact absurd HK.out.2 (fun h=>by rw [joinL_z] at h;exact hNF 0 h.symm)
   | succ k =>
    have HX:Hid (_=X):=HK.out.2
    have HF:Hid (k+1≤f):=HK.out.1
    rw [joinL_s] at HX
    clear HK
    obtain⟨w3,hw3⟩:∃ w0,w0=wr:=⟨_,rfl⟩
    subst hw3
    cases hq:sees [92,47] (R') with
    | true =>
     have c:=take_any [92,47] (by simp) r w3 (R') hI3 hwf
     rw [hq] at c
     simp only [if_true,Bool.false_eq_true,if_false] at c
     rw [if_pos hq] at HX
     go_wp2_with fail
     refine c.mono ?_
     rintro e w4 ⟨rfl,hI4,hk4⟩
     have hK4:=hK3.trans hk4
     clear c hq
     replace hv:=hv.kp hk4 (by omega) (by omega)
     go_wp2_with fail
     obtain⟨w5,hw5⟩:∃ w0,w0=w4.drew:=⟨_,rfl⟩
     have hB5:Below w4.heap.size w4 w5:=by rw [hw5];exact Below.drew (Below.refl _ _)
     have hI5:=hI4.below hB5
     have hK5:=chainK hK4 hB5
     refine wp_region_any (by kernel_rfl) ?_
     change wpAny _ _ _ _ _ _ _ (World.drew _)
     rw [← hw5]
     clear hw5
     obtain⟨ka,kc,na,nc,hbx,ht⟩:=hv.kp (Kp.of_below (b:=r.b) hB5) (by omega) (by omega)
     clear hv
     have hN:NF (meetP r.e k l ((R').tail)):=NF.left (by have h:=hNF;rw [← HX.out] at h;exact h)
     have c:=ihd k (by have:=HF.out;omega) l ((R').tail) w5 hl hI5 hN
     obtain⟨p0,p1,p2,p3,p4,_⟩:=hbx.cells
     refine wpAny_take (i:=1) (v:=r.ptr) rfl (by kernel_rfl) (by kernel_rfl) (by kernel_rfl) (fun _ _ _ h=>h) (Or.inl ⟨by rfl,fun w=>by go_simp⟩) ?_
     simp only [Act.put,List.setIfInBounds_toArray,List.set_cons_zero,List.set_cons_succ]
     refine wpAny_take (i:=2) (v:=.int .i64 (l:Nat)) rfl (by kernel_rfl) (by kernel_rfl) (by kernel_rfl) (fun _ _ _ h=>h) (Or.inl ⟨by rfl,fun w=>by go_simp⟩) ?_
     simp only [Act.put,List.setIfInBounds_toArray,List.set_cons_zero,List.set_cons_succ]
     refine wpAny_ready (rs:=[0,3]) (by kernel_rfl) (by simp) ?_
     refine AllReady.cons rfl (fun K hK=>?_) (AllReady.cons rfl (fun K hK=>?_) AllReady.nil)
     ·skip
      go_simp
      refine hK _ _ ?_
      clear hK K
      refine wpAny_ready (rs:=[3]) (by kernel_rfl) (by simp) ?_
      refine AllReady.cons rfl (fun K hK=>?_) AllReady.nil
      go_simp
      cases hq:meetP r.e k l ((R').tail) using Rs.cs with
      | bad p y =>
       rw [hq] at c HX
       refine c.mono ?_
       rintro e w6 ⟨rfl,hb⟩
       exact⟨rfl,rule_bad HX.out.symm hB1 hK5 hlt hb⟩
      | ok t6 R6 =>
       rw [hq] at c HX
       rw [bnd_ok] at HX
       refine c.mono ?_
       rintro e w6 ⟨v6,rfl,ht6,hI6,hk6⟩
       have hK6:=hK5.trans hk6
       clear c hq
       refine hK _ _ ?_
       clear hK K
       obtain⟨d0,d1,d2,d3,d4,_⟩:=(hbx.kp hk6 hbx.lt (by omega)).cells
       refine wpAny_ready (rs:=[4]) (by kernel_rfl) (by simp) ?_
       refine AllReady.cons rfl (fun K hK=>?_) AllReady.nil
       go_simp
       refine (two_any 14 t t6 _ _ (But w1.heap.size x) w6 (TrIn.kpB ht (hk6) (by omega)) (TrIn.toB ht6 (by have:=hK5.size;omega) (by have:=hbx.lt;omega)) (fun y hy=>⟨by have:=hK6.size;omega,by have:=(hbx.kp hk6 hbx.lt (by omega)).lt;omega⟩)).mono ?_
       rintro e w7 ⟨v7,rfl,hT,hb7⟩
       have hI7:=hI6.below hb7
       have hK7:=chainK hK6 hb7
       obtain⟨T,hTe⟩:∃ T,T=two 14 t t6:=⟨_,rfl⟩
       rw [← hTe] at hT HX
       clear hTe
       obtain⟨vkT,vnT,rfl,hfT,kaT,kcT,rfl⟩:=TrIn.form hT
       obtain⟨naT,ncT,rfl⟩:=hfT.form
       clear hfT
       have hbX:=Blk.blw (hbx.kp hk6 hbx.lt (by omega)) hb7 (hbx.kp hk6 hbx.lt (by omega)).lt
       obtain⟨s0,s1,s2,s3,s4,f0,f1,f2,f3,f4⟩:=hbX.cells
       refine hK _ _ ?_
       clear hK K
       refine wpAny_ready (rs:=[5]) (by kernel_rfl) (by simp) ?_
       refine AllReady.cons rfl (fun K hK=>?_) AllReady.nil
       go_simp
       refine hK _ _ ?_
       clear hK K
       refine wpAny_done (by kernel_rfl) ?_ _
       go_wp2_with fail
       go_roundg k
       case measure=>omega
       case rel=>exact⟨T,R6,TVar.put hbX hT,(hI7.put5 (by omega) _ _ _ _ _),(hK7.put5 (by omega) _ _ _ _ _),⟨by have:=HF.out;omega,HX.out⟩⟩
     ·skip
      go_simp
      cases hq:meetP r.e k l ((R').tail) using Rs.cs with
      | bad p y =>
       rw [hq] at c HX
       refine c.mono ?_
       rintro e w8 ⟨rfl,hb⟩
       exact⟨rfl,rule_bad HX.out.symm hB1 hK5 hlt hb⟩
      | ok t8 R8 =>
       rw [hq] at c HX
       rw [bnd_ok] at HX
       refine c.mono ?_
       rintro e w8 ⟨v8,rfl,ht8,hI8,hk8⟩
       have hK8:=hK5.trans hk8
       clear c hq
       refine hK _ _ ?_
       clear hK K
       obtain⟨d0,d1,d2,d3,d4,_⟩:=(hbx.kp hk8 hbx.lt (by omega)).cells
       refine wpAny_ready (rs:=[0]) (by kernel_rfl) (by simp) ?_
       refine AllReady.cons rfl (fun K hK=>?_) AllReady.nil
       go_simp
       refine hK _ _ ?_
       clear hK K
       refine wpAny_ready (rs:=[4]) (by kernel_rfl) (by simp) ?_
       refine AllReady.cons rfl (fun K hK=>?_) AllReady.nil
       go_simp
       refine (two_any 14 t t8 _ _ (But w1.heap.size x) w8 (TrIn.kpB ht (hk8) (by omega)) (TrIn.toB ht8 (by have:=hK5.size;omega) (by have:=hbx.lt;omega)) (fun y hy=>⟨by have:=hK8.size;omega,by have:=(hbx.kp hk8 hbx.lt (by omega)).lt;omega⟩)).mono ?_
       rintro e w9 ⟨v9,rfl,hT,hb9⟩
       have hI9:=hI8.below hb9
       have hK9:=chainK hK8 hb9
       obtain⟨T,hTe⟩:∃ T,T=two 14 t t8:=⟨_,rfl⟩
       rw [← hTe] at hT HX
       clear hTe
       obtain⟨vkT,vnT,rfl,hfT,kaT,kcT,rfl⟩:=TrIn.form hT
       obtain⟨naT,ncT,rfl⟩:=hfT.form
       clear hfT
       have hbX:=Blk.blw (hbx.kp hk8 hbx.lt (by omega)) hb9 (hbx.kp hk8 hbx.lt (by omega)).lt
       obtain⟨s0,s1,s2,s3,s4,f0,f1,f2,f3,f4⟩:=hbX.cells
       refine hK _ _ ?_
       clear hK K
       refine wpAny_ready (rs:=[5]) (by kernel_rfl) (by simp) ?_
       refine AllReady.cons rfl (fun K hK=>?_) AllReady.nil
       go_simp
       refine hK _ _ ?_
       clear hK K
       refine wpAny_done (by kernel_rfl) ?_ _
       go_wp2_with fail
       go_roundg k
       case measure=>omega
       case rel=>exact⟨T,R8,TVar.put hbX hT,(hI9.put5 (by omega) _ _ _ _ _),(hK9.put5 (by omega) _ _ _ _ _),⟨by have:=HF.out;omega,HX.out⟩⟩
    | false =>
     have c:=take_any [92,47] (by simp) r w3 (R') hI3 hwf
     rw [hq] at c
     simp only [if_true,Bool.false_eq_true,if_false] at c
     rw [if_neg (neT hq)] at HX
     go_wp2_with fail
     refine c.mono ?_
     rintro e w10 ⟨rfl,hI10,hk10⟩
     have hK10:=hK3.trans hk10
     clear c hq
     obtain⟨ka,kc,na,nc,hb,ht⟩:=hv.kp hk10 (by omega) (by omega)
     clear hv
     obtain⟨p0,p1,p2,p3,p4,_⟩:=hb.cells
     obtain⟨o0,o1,o2,o3,o4,z0,z1,z2,z3,z4⟩:=Blk.cells ((hh1.kp hK10 hn1 hlt))
     go_wp2_with fail
     exact⟨rfl,.agg #[.int .i64 (t.kind:Nat),.string (bs t.name),.slice ka t.kids.length kc,.slice na t.names.length nc,.int .i64 (t.at_:Nat)],by simp [results,Tryz.results88,go_sem, *],rule_end (n:=w.heap.size) HX.out.symm hB1 rfl hn1 hI10 hlt hK10 ht.fromB _ _ _ _ _⟩
end Go.Proofs.YtahnbigkdfmpbaaGreatDoor
