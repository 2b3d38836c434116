/- Terms. -/
import Derived.Deep.RegionWith
import Derived.Test.YtahnbigkdfmpbaaGreatDoorIPB
import Derived.Test.YtahnbigkdfmpbaaGreatDoorIPRow
set_option linter.unusedVariables false
set_option linter.unusedSimpArgs false
namespace Go.Proofs.YtahnbigkdfmpbaaGreatDoor
open Go.RowKit
set_option maxRecDepth 100000 in
set_option maxHeartbeats 4000000 in
theorem term_step (r:Rdr) (hwf:r.wf) (f:Nat) (ihb:BindsC r f) (ihn:BinderC r f) (iha:RuleD r 35 (appP r.e f)) (iht:RuleC r 18 (termP r.e f)):RuleC r 18 (termP r.e (f+1)):=by
 intro l R w hl hR hNF
 obtain⟨X,hX⟩:∃ X,termP r.e (f+1) l R=X:=⟨_,rfl⟩
 rw [hX] at hNF ⊢
 rw [termP_s,enterQ_eq] at hX
 have HX:Hid (_=X):=hX
 clear hX
 have hlt:=hR.lt.2
 obtain⟨w1,hw1⟩:∃ w1,w1=(w.alloc (.cells #[.int .i64 0,.string ⟨#[]⟩,.slice none 0 0,.slice none 0 0,.int .i64 0] 26)).alloc (.cells #[.string ⟨#[92]⟩,.string ⟨#[60]⟩,.string ⟨#[40]⟩,.string ⟨#[91]⟩] 9):=⟨_,rfl⟩
 have hB1:Below w.heap.size w w1:=by rw [hw1];exact chain (below_alloc _ _) (below_alloc _ _)
 have hh1:Hole w1 w.heap.size:=by rw [hw1];exact (hole_new w).blw (below_alloc _ _) (by simp)
 have hn1:w.heap.size<w1.heap.size:=by rw [hw1];simp;omega
 have hI1:=hR.below hB1
 have hK1:=Kp.refl r.b w1
 have cE:=enter_any [[92],[60],[40],[91]] l (w.heap.size+1) 4 r w1 R hI1 hwf (by omega) (by simp) (by rw [hw1];exact cells_signs4 _ [92] [60] [40] [91] _ (by simp)) (by rw [hw1];simp)
 have Hw1:Hid (_=_):=hw1
 clear hw1
 go_enter Tryz.func18,Tryz.ntmps18
 go_wp2_with fail
 rw [← Hw1.out]
 clear Hw1
 cases hq:enterU r.e l [[92],[60],[40],[91]] R using Rs.cs with
 | bad p x =>
  rw [hq] at cE HX
  refine cE.mono ?_
  rintro e w2 ⟨rfl,hb⟩
  exact⟨rfl,rule_bad HX.out.symm hB1 hK1 hlt hb⟩
 | ok a R' =>
  rw [hq] at cE HX
  obtain⟨rfl,hl2⟩:=enterU_ok hq
  rw [bnd_ok] at HX
  refine cE.mono ?_
  rintro e w2 ⟨v,rfl,rfl,hI2,hK2⟩
  clear cE hq
  have g1:IntKind.i64.wrap ((l:Int) + 1)=(l:Int) + 1:=wrap_in (by omega) (by omega)
  cases hq:sees [92] (R') with
  | true =>
   have c:=sees_any [92] r w2 (R') hI2 hwf
   rw [hq] at c
   rw [if_pos hq] at HX
   go_wp2_with fail
   refine (c).mono ?_
   rintro e w3 ⟨rfl,hb3⟩
   have hI3:=hI2.below hb3
   have hK3:=chainK hK2 hb3
   have hk3:=Kp.of_below (b:=r.b) hb3
   clear hb3 hk3
   have hqn:=hq
   clear c hq
   have c:=ihb 2 [92] [46] l R' w3 hl2 hI3 hqn (by simp) (by simp) (by have h:=hNF;rw [← HX.out] at h;exact h)
   cases hq:bindsP r.e f 2 [46] l R' using Rs.cs with
   | bad p y =>
    rw [hq] at c HX
    go_wp2_with fail
    refine c.mono ?_
    rintro e w4 ⟨rfl,hb⟩
    exact⟨rfl,rule_bad HX.out.symm hB1 hK3 hlt hb⟩
   | ok t4 R4 =>
    rw [hq] at c HX
    go_wp2_with fail
    refine c.mono ?_
    rintro e w4 ⟨v4,rfl,ht4,hI4,hk4⟩
    have hK4:=hK3.trans hk4
    clear c hq
    replace ht4:=TrIn.from ht4 hK3.size
    obtain⟨vk4,vn4,rfl,hf4,ka4,kc4,rfl⟩:=TrIn.form ht4
    obtain⟨na4,nc4,rfl⟩:=hf4.form
    clear hf4
    obtain⟨o0,o1,o2,o3,o4,z0,z1,z2,z3,z4⟩:=Blk.cells (hh1.kp hK4 hn1 hlt)
    go_wp2_with fail
    exact⟨rfl,.agg #[.int .i64 (t4.kind:Nat),.string (bs t4.name),.slice ka4 t4.kids.length kc4,.slice na4 t4.names.length nc4,.int .i64 (t4.at_:Nat)],by simp [results,Tryz.results18,go_sem, *],rule_end (n:=w.heap.size) HX.out.symm hB1 rfl hn1 hI4 hlt hK4 (ht4) _ _ _ _ _⟩
  | false =>
   have c:=sees_any [92] r w2 (R') hI2 hwf
   rw [hq] at c
   rw [if_neg (neT hq)] at HX
   go_wp2_with fail
   refine (c).mono ?_
   rintro e w5 ⟨rfl,hb5⟩
   have hI5:=hI2.below hb5
   have hK5:=chainK hK2 hb5
   have hk5:=Kp.of_below (b:=r.b) hb5
   clear hb5 hk5
   have hqn:=hq
   clear c hq
   cases hq:sees [60] (R') with
   | true =>
    have c:=sees_any [60] r w5 (R') hI5 hwf
    rw [hq] at c
    rw [if_pos hq] at HX
    go_wp2_with fail
    refine (c).mono ?_
    rintro e w6 ⟨rfl,hb6⟩
    have hI6:=hI5.below hb6
    have hK6:=chainK hK5 hb6
    have hk6:=Kp.of_below (b:=r.b) hb6
    clear hb6 hk6
    have hqn:=hq
    clear c hq
    have c:=ihb 3 [60] [62] l R' w6 hl2 hI6 hqn (by simp) (by simp) (by have h:=hNF;rw [← HX.out] at h;exact h)
    cases hq:bindsP r.e f 3 [62] l R' using Rs.cs with
    | bad p y =>
     rw [hq] at c HX
     go_wp2_with fail
     refine c.mono ?_
     rintro e w7 ⟨rfl,hb⟩
     exact⟨rfl,rule_bad HX.out.symm hB1 hK6 hlt hb⟩
    | ok t7 R7 =>
     rw [hq] at c HX
     go_wp2_with fail
     refine c.mono ?_
     rintro e w7 ⟨v7,rfl,ht7,hI7,hk7⟩
     have hK7:=hK6.trans hk7
     clear c hq
     replace ht7:=TrIn.from ht7 hK6.size
     obtain⟨vk7,vn7,rfl,hf7,ka7,kc7,rfl⟩:=TrIn.form ht7
     obtain⟨na7,nc7,rfl⟩:=hf7.form
     clear hf7
     obtain⟨o0,o1,o2,o3,o4,z0,z1,z2,z3,z4⟩:=Blk.cells (hh1.kp hK7 hn1 hlt)
     go_wp2_with fail
     exact⟨rfl,.agg #[.int .i64 (t7.kind:Nat),.string (bs t7.name),.slice ka7 t7.kids.length kc7,.slice na7 t7.names.length nc7,.int .i64 (t7.at_:Nat)],by simp [results,Tryz.results18,go_sem, *],rule_end (n:=w.heap.size) HX.out.symm hB1 rfl hn1 hI7 hlt hK7 (ht7) _ _ _ _ _⟩
   | false =>
    have c:=sees_any [60] r w5 (R') hI5 hwf
    rw [hq] at c
    rw [if_neg (neT hq)] at HX
    go_wp2_with fail
    refine (c).mono ?_
    rintro e w8 ⟨rfl,hb8⟩
    have hI8:=hI5.below hb8
    have hK8:=chainK hK5 hb8
    have hk8:=Kp.of_below (b:=r.b) hb8
    clear hb8 hk8
    have hqn:=hq
    clear c hq
    cases hq:binderQ R' with
    | true =>
     have c:=seesBinder_any r w8 (R') hI8 hwf
     rw [hq] at c
     rw [if_pos hq] at HX
     go_wp2_with fail
     refine (c).mono ?_
     rintro e w9 ⟨rfl,hb9⟩
     have hI9:=hI8.below hb9
     have hK9:=chainK hK8 hb9
     have hk9:=Kp.of_below (b:=r.b) hb9
     clear hb9 hk9
     have hqn:=hq
     clear c hq
     have c:=ihn l R' w9 hl2 hI9 (binderQ_open hqn) (by have h:=hNF;rw [← HX.out] at h;exact h)
     cases hq:binderP r.e f l R' using Rs.cs with
     | bad p y =>
      rw [hq] at c HX
      go_wp2_with fail
      refine c.mono ?_
      rintro e w10 ⟨rfl,hb⟩
      exact⟨rfl,rule_bad HX.out.symm hB1 hK9 hlt hb⟩
     | ok t10 R10 =>
      rw [hq] at c HX
      go_wp2_with fail
      refine c.mono ?_
      rintro e w10 ⟨v10,rfl,ht10,hI10,hk10⟩
      have hK10:=hK9.trans hk10
      clear c hq
      replace ht10:=TrIn.from ht10 hK9.size
      obtain⟨vk10,vn10,rfl,hf10,ka10,kc10,rfl⟩:=TrIn.form ht10
      obtain⟨na10,nc10,rfl⟩:=hf10.form
      clear hf10
      obtain⟨o0,o1,o2,o3,o4,z0,z1,z2,z3,z4⟩:=Blk.cells (hh1.kp hK10 hn1 hlt)
      go_wp2_with fail
      exact⟨rfl,.agg #[.int .i64 (t10.kind:Nat),.string (bs t10.name),.slice ka10 t10.kids.length kc10,.slice na10 t10.names.length nc10,.int .i64 (t10.at_:Nat)],by simp [results,Tryz.results18,go_sem, *],rule_end (n:=w.heap.size) HX.out.symm hB1 rfl hn1 hI10 hlt hK10 (ht10) _ _ _ _ _⟩
    | false =>
     have c:=seesBinder_any r w8 (R') hI8 hwf
     rw [hq] at c
     rw [if_neg (neT hq)] at HX
     go_wp2_with fail
     refine (c).mono ?_
     rintro e w11 ⟨rfl,hb11⟩
     have hI11:=hI8.below hb11
     have hK11:=chainK hK8 hb11
     have hk11:=Kp.of_below (b:=r.b) hb11
     clear hb11 hk11
     have hqn:=hq
     clear c hq
     have hN12:NF (appP r.e f l (R')):=NF.left (by have h:=hNF;rw [← HX.out] at h;exact h)
     have c:=iha l (R') w11 hl2 hI11 hN12
     cases hq:appP r.e f l (R') using Rs.cs with
     | bad p y =>
      rw [hq] at c HX
      go_wp2_with fail
      refine c.mono ?_
      rintro e w12 ⟨rfl,hb⟩
      exact⟨rfl,rule_bad HX.out.symm hB1 hK11 hlt hb⟩
     | ok t12 R12 =>
      rw [hq] at c HX
      rw [bnd_ok] at HX
      go_wp2_with fail
      refine c.mono ?_
      rintro e w12 ⟨v12,rfl,ht12,hI12,hk12⟩
      have hK12:=hK11.trans hk12
      clear c hq
      replace ht12:=TrIn.from ht12 hK11.size
      obtain⟨vk12,vn12,rfl,hf12,ka12,kc12,rfl⟩:=TrIn.form ht12
      obtain⟨na12,nc12,rfl⟩:=hf12.form
      clear hf12
      go_wp2_with fail
      have hal:=below_alloc w12 (.cells #[.int .i64 (t12.kind:Nat),.string (bs t12.name),.slice ka12 t12.kids.length kc12,.slice na12 t12.names.length nc12,.int .i64 (t12.at_:Nat)] 26)
      have hbx:=blk_new w12 (.int .i64 (t12.kind:Nat)) (.string (bs t12.name)) (.slice ka12 t12.kids.length kc12) (.slice na12 t12.names.length nc12) (.int .i64 (t12.at_:Nat))
      have hxge:=hK12.size
      obtain⟨w13,hw⟩:∃ w0,w0=w12.alloc (.cells #[.int .i64 (t12.kind:Nat),.string (bs t12.name),.slice ka12 t12.kids.length kc12,.slice na12 t12.names.length nc12,.int .i64 (t12.at_:Nat)] 26):=⟨_,rfl⟩
      rw [← hw] at hal hbx ⊢
      clear hw
      have hI13:=hI12.below hal
      have hK13:=chainK hK12 hal
      replace ht12:=TrIn.ahead ht12 (Nat.le_refl _) hal
      clear hal
      obtain⟨x,hx⟩:∃ x,x=w12.heap.size:=⟨_,rfl⟩
      rw [← hx] at ht12 hbx hxge ⊢
      clear hx
      obtain⟨t,het⟩:∃ t,t=t12:=⟨_,rfl⟩
      rw [← het] at hbx ht12 HX ⊢
      clear het
      have ht:=ht12
      clear ht12
      cases hq:arrB R12 with
      | true =>
       have hRr:arrR R12=(R12).tail:=by rw [arrR,if_pos hq]
       have c:=arrow_any r w13 (R12) hI13 hwf
       rw [hq,hRr] at c
       rw [if_pos hq] at HX
       go_wp2_with fail
       refine c.mono ?_
       rintro e w14 ⟨rfl,hI14,hk14⟩
       have hK14:=hK13.trans hk14
       clear c hq hRr
       replace hbx:=Blk.kp hbx hk14 hbx.lt (by omega)
       replace ht:=TrIn.kpB ht hk14 (by omega)
       go_wp2_with fail
       obtain⟨w15,hw15⟩:∃ w0,w0=w14.drew:=⟨_,rfl⟩
       have hB15:Below w14.heap.size w14 w15:=by rw [hw15];exact Below.drew (Below.refl _ _)
       have hI15:=hI14.below hB15
       have hK15:=chainK hK14 hB15
       have hk15:=Kp.of_below (b:=r.b) hB15
       refine wp_region_any (by kernel_rfl) ?_
       change wpAny _ _ _ _ _ _ _ (World.drew _)
       rw [← hw15]
       clear hw15
       replace hbx:=Blk.kp hbx hk15 hbx.lt (by omega)
       replace ht:=TrIn.kpB ht hk15 (by omega)
       clear hB15 hk15
       refine wpAny_take (i:=0) (v:=.int .i64 (arrK R12:Nat)) rfl (by kernel_rfl) (by kernel_rfl) (by kernel_rfl) (fun _ _ _ h=>h) (Or.inl ⟨by rfl,fun w=>by go_simp⟩) ?_
       simp only [Act.put,List.setIfInBounds_toArray,List.set_cons_zero,List.set_cons_succ]
       refine wpAny_take (i:=2) (v:=r.ptr) rfl (by kernel_rfl) (by kernel_rfl) (by kernel_rfl) (fun _ _ _ h=>h) (Or.inl ⟨by rfl,fun w=>by go_simp⟩) ?_
       simp only [Act.put,List.setIfInBounds_toArray,List.set_cons_zero,List.set_cons_succ]
       refine wpAny_take (i:=3) (v:=.int .i64 (l:Nat)) rfl (by kernel_rfl) (by kernel_rfl) (by kernel_rfl) (fun _ _ _ h=>h) (Or.inl ⟨by rfl,fun w=>by go_simp⟩) ?_
       simp only [Act.put,List.setIfInBounds_toArray,List.set_cons_zero,List.set_cons_succ]
       refine wpAny_take (i:=4) (v:=.int .i64 ((l:Int) + 1)) rfl (by kernel_rfl) (by kernel_rfl) (by kernel_rfl) (fun _ _ _ h=>h) (Or.inl ⟨by rfl,fun w=>by go_simp⟩) ?_
       simp only [Act.put,List.setIfInBounds_toArray,List.set_cons_zero,List.set_cons_succ]
       refine wpAny_ready (rs:=[1,5]) (by kernel_rfl) (by simp) ?_
       refine AllReady.cons rfl (fun KK hKK=>?_) (AllReady.cons rfl (fun KK hKK=>?_) AllReady.nil)
       ·skip
        obtain⟨c0,c1,c2,c3,c4,_⟩:=hbx.cells
        go_simp
        clear c0 c1 c2 c3 c4
        refine hKK _ _ ?_
        clear hKK KK
        refine wpAny_ready (rs:=[5]) (by kernel_rfl) (by simp) ?_
        refine AllReady.cons rfl (fun KK hKK=>?_) AllReady.nil
        go_simp
        have hN16:NF (termP r.e f (l+1) ((R12).tail)):=NF.left (by have h:=hNF;rw [← HX.out] at h;exact h)
        have c:=iht (l+1) ((R12).tail) w15 (by omega) hI15 hN16
        rw [castS] at c
        have hxl16:=hbx.lt
        cases hq:termP r.e f (l+1) ((R12).tail) using Rs.cs with
        | bad p y =>
         rw [hq] at c HX
         refine c.mono ?_
         rintro e w16 ⟨rfl,hb⟩
         exact⟨rfl,rule_bad HX.out.symm hB1 hK15 hlt hb⟩
        | ok t16 R16 =>
         rw [hq] at c HX
         rw [bnd_ok] at HX
         refine c.mono ?_
         rintro e w16 ⟨v16,rfl,ht16,hI16,hk16⟩
         have hK16:=hK15.trans hk16
         clear c hq
         replace hbx:=Blk.kp hbx hk16 hbx.lt (by omega)
         replace ht:=TrIn.kpB ht hk16 (by omega)
         have hz16:=ht16
         replace ht16:=TrIn.toB ht16 hK15.size (by omega)
         obtain⟨vk16,vn16,rfl,hf16,ka16,kc16,rfl⟩:=TrIn.form ht16
         obtain⟨na16,nc16,rfl⟩:=hf16.form
         clear hf16
         refine hKK _ _ ?_
         clear hKK KK
         refine wpAny_ready (rs:=[6]) (by kernel_rfl) (by simp) ?_
         refine AllReady.cons rfl (fun KK hKK=>?_) AllReady.nil
         go_simp
         refine (two_any (arrK R12) t t16 _ _ (But w1.heap.size x) w16 ht ht16 (fun y hy=>⟨by have:=hK16.size;omega,by have:=hbx.lt;omega⟩)).mono ?_
         rintro e w17 ⟨v17,rfl,hT,hb17⟩
         have hI17:=hI16.below hb17
         have hK17:=chainK hK16 hb17
         have hk17:=Kp.of_below (b:=r.b) hb17
         replace hbx:=Blk.kp hbx hk17 hbx.lt (by omega)
         replace ht:=TrIn.kpB ht hk17 (by omega)
         replace ht16:=TrIn.kpB ht16 hk17 (by omega)
         obtain⟨T,hTe⟩:∃ T,T=two (arrK R12) t t16:=⟨_,rfl⟩
         rw [← hTe] at hT HX
         clear hTe ht ht16
         obtain⟨vkT,vnT,rfl,hfT,kaT,kcT,rfl⟩:=TrIn.form hT
         obtain⟨naT,ncT,rfl⟩:=hfT.form
         clear hfT
         refine hKK _ _ ?_
         clear hKK KK
         refine wpAny_ready (rs:=[7]) (by kernel_rfl) (by simp) ?_
         refine AllReady.cons rfl (fun KK hKK=>?_) AllReady.nil
         obtain⟨o0,o1,o2,o3,o4,z0,z1,z2,z3,z4⟩:=Blk.cells (hh1.kp hK17 hn1 hlt)
         go_simp
         refine hKK _ _ ?_
         clear hKK KK
         refine wpAny_done (by kernel_rfl) ?_ _
         go_wp2_with fail
         exact⟨rfl,.agg #[.int .i64 (T.kind:Nat),.string (bs T.name),.slice kaT T.kids.length kcT,.slice naT T.names.length ncT,.int .i64 (T.at_:Nat)],by simp [results,Tryz.results18,go_sem, *],rule_end (n:=w.heap.size) HX.out.symm hB1 rfl hn1 hI17 hlt hK17 (TrIn.fromB hT) _ _ _ _ _⟩
       ·skip
        go_simp
        have hN18:NF (termP r.e f (l+1) ((R12).tail)):=NF.left (by have h:=hNF;rw [← HX.out] at h;exact h)
        have c:=iht (l+1) ((R12).tail) w15 (by omega) hI15 hN18
        rw [castS] at c
        have hxl18:=hbx.lt
        cases hq:termP r.e f (l+1) ((R12).tail) using Rs.cs with
        | bad p y =>
         rw [hq] at c HX
         refine c.mono ?_
         rintro e w18 ⟨rfl,hb⟩
         exact⟨rfl,rule_bad HX.out.symm hB1 hK15 hlt hb⟩
        | ok t18 R18 =>
         rw [hq] at c HX
         rw [bnd_ok] at HX
         refine c.mono ?_
         rintro e w18 ⟨v18,rfl,ht18,hI18,hk18⟩
         have hK18:=hK15.trans hk18
         clear c hq
         replace hbx:=Blk.kp hbx hk18 hbx.lt (by omega)
         replace ht:=TrIn.kpB ht hk18 (by omega)
         have hz18:=ht18
         replace ht18:=TrIn.toB ht18 hK15.size (by omega)
         obtain⟨vk18,vn18,rfl,hf18,ka18,kc18,rfl⟩:=TrIn.form ht18
         obtain⟨na18,nc18,rfl⟩:=hf18.form
         clear hf18
         refine hKK _ _ ?_
         clear hKK KK
         refine wpAny_ready (rs:=[1]) (by kernel_rfl) (by simp) ?_
         refine AllReady.cons rfl (fun KK hKK=>?_) AllReady.nil
         obtain⟨c0,c1,c2,c3,c4,_⟩:=hbx.cells
         go_simp
         clear c0 c1 c2 c3 c4
         refine hKK _ _ ?_
         clear hKK KK
         refine wpAny_ready (rs:=[6]) (by kernel_rfl) (by simp) ?_
         refine AllReady.cons rfl (fun KK hKK=>?_) AllReady.nil
         go_simp
         refine (two_any (arrK R12) t t18 _ _ (But w1.heap.size x) w18 ht ht18 (fun y hy=>⟨by have:=hK18.size;omega,by have:=hbx.lt;omega⟩)).mono ?_
         rintro e w19 ⟨v19,rfl,hT,hb19⟩
         have hI19:=hI18.below hb19
         have hK19:=chainK hK18 hb19
         have hk19:=Kp.of_below (b:=r.b) hb19
         replace hbx:=Blk.kp hbx hk19 hbx.lt (by omega)
         replace ht:=TrIn.kpB ht hk19 (by omega)
         replace ht18:=TrIn.kpB ht18 hk19 (by omega)
         obtain⟨T,hTe⟩:∃ T,T=two (arrK R12) t t18:=⟨_,rfl⟩
         rw [← hTe] at hT HX
         clear hTe ht ht18
         obtain⟨vkT,vnT,rfl,hfT,kaT,kcT,rfl⟩:=TrIn.form hT
         obtain⟨naT,ncT,rfl⟩:=hfT.form
         clear hfT
         refine hKK _ _ ?_
         clear hKK KK
         refine wpAny_ready (rs:=[7]) (by kernel_rfl) (by simp) ?_
         refine AllReady.cons rfl (fun KK hKK=>?_) AllReady.nil
         obtain⟨o0,o1,o2,o3,o4,z0,z1,z2,z3,z4⟩:=Blk.cells (hh1.kp hK19 hn1 hlt)
         go_simp
         refine hKK _ _ ?_
         clear hKK KK
         refine wpAny_done (by kernel_rfl) ?_ _
         go_wp2_with fail
         exact⟨rfl,.agg #[.int .i64 (T.kind:Nat),.string (bs T.name),.slice kaT T.kids.length kcT,.slice naT T.names.length ncT,.int .i64 (T.at_:Nat)],by simp [results,Tryz.results18,go_sem, *],rule_end (n:=w.heap.size) HX.out.symm hB1 rfl hn1 hI19 hlt hK19 (TrIn.fromB hT) _ _ _ _ _⟩
      | false =>
       have hRr:arrR R12=R12:=by rw [arrR,if_neg (neT hq)]
       have c:=arrow_any r w13 (R12) hI13 hwf
       rw [hq,hRr] at c
       rw [if_neg (neT hq)] at HX
       go_wp2_with fail
       refine c.mono ?_
       rintro e w20 ⟨rfl,hI20,hk20⟩
       have hK20:=hK13.trans hk20
       clear c hq hRr
       replace hbx:=Blk.kp hbx hk20 hbx.lt (by omega)
       replace ht:=TrIn.kpB ht hk20 (by omega)
       obtain⟨c0,c1,c2,c3,c4,_⟩:=hbx.cells
       obtain⟨o0,o1,o2,o3,o4,z0,z1,z2,z3,z4⟩:=Blk.cells (hh1.kp hK20 hn1 hlt)
       go_wp2_with fail
       exact⟨rfl,.agg #[.int .i64 (t.kind:Nat),.string (bs t.name),.slice ka12 t.kids.length kc12,.slice na12 t.names.length nc12,.int .i64 (t.at_:Nat)],by simp [results,Tryz.results18,go_sem, *],rule_end (n:=w.heap.size) HX.out.symm hB1 rfl hn1 hI20 hlt hK20 (TrIn.fromB ht) _ _ _ _ _⟩
end Go.Proofs.YtahnbigkdfmpbaaGreatDoor
