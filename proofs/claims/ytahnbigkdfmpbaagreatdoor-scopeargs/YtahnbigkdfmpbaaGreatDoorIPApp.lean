/- Applications. -/
import Derived.Deep.RegionWith
import Derived.Test.YtahnbigkdfmpbaaGreatDoorIPB
import Derived.Test.YtahnbigkdfmpbaaGreatDoorIPRow
set_option linter.unusedVariables false
set_option linter.unusedSimpArgs false
namespace Go.Proofs.YtahnbigkdfmpbaaGreatDoor
open Go.RowKit
set_option maxRecDepth 100000 in
set_option maxHeartbeats 4000000 in
theorem app_step (r:Rdr) (hwf:r.wf) (f:Nat) (iha:∀ g,g≤f→RuleD r 62 (atomP r.e g)) (ihd:∀ g,g≤f→RuleC r 64 (dimP r.e g)):RuleD r 35 (appP r.e (f+1)):=by
 intro l R w hl hR hNF
 obtain⟨X,hX⟩:∃ X,appP r.e (f+1) l R=X:=⟨_,rfl⟩
 rw [hX] at hNF ⊢
 rw [appP_s] at hX
 have HX:Hid (_=X):=hX
 clear hX
 have hlt:=hR.lt.2
 obtain⟨w1,hw1⟩:∃ w1,w1=w.alloc (.cells #[.int .i64 0,.string ⟨#[]⟩,.slice none 0 0,.slice none 0 0,.int .i64 0] 26):=⟨_,rfl⟩
 have hB1:Below w.heap.size w w1:=by rw [hw1];exact below_alloc _ _
 have hh1:Hole w1 w.heap.size:=by rw [hw1];exact hole_new w
 have hn1:w.heap.size<w1.heap.size:=by rw [hw1];simp
 have hI1:=hR.below hB1
 have hK1:=Kp.refl r.b w1
 have Hw1:Hid (_=_):=hw1
 clear hw1
 go_enter Tryz.func35,Tryz.ntmps35
 go_wp2_with fail
 rw [← Hw1.out]
 clear Hw1
 have g1:IntKind.i64.wrap ((l:Int) + 1)=(l:Int) + 1:=wrap_in (by omega) (by omega)
 have hN2:NF (atomP r.e f l (R)):=NF.left (by have h:=hNF;rw [← HX.out] at h;exact h)
 have c:=iha f (Nat.le_refl _) l (R) w1 hl hI1 hN2
 cases hq:atomP r.e f l (R) using Rs.cs with
 | bad p y =>
  rw [hq] at c HX
  go_wp2_with fail
  refine c.mono ?_
  rintro e w2 ⟨rfl,hb⟩
  exact⟨rfl,rule_bad HX.out.symm hB1 hK1 hlt hb⟩
 | ok t2 R2 =>
  rw [hq] at c HX
  rw [bnd_ok] at HX
  go_wp2_with fail
  refine c.mono ?_
  rintro e w2 ⟨v2,rfl,ht2,hI2,hk2⟩
  have hK2:=hK1.trans hk2
  clear c hq
  replace ht2:=TrIn.from ht2 hK1.size
  obtain⟨vk2,vn2,rfl,hf2,ka2,kc2,rfl⟩:=TrIn.form ht2
  obtain⟨na2,nc2,rfl⟩:=hf2.form
  clear hf2
  go_wp2_with fail
  have hal:=below_alloc w2 (.cells #[.int .i64 (t2.kind:Nat),.string (bs t2.name),.slice ka2 t2.kids.length kc2,.slice na2 t2.names.length nc2,.int .i64 (t2.at_:Nat)] 26)
  have hbx:=blk_new w2 (.int .i64 (t2.kind:Nat)) (.string (bs t2.name)) (.slice ka2 t2.kids.length kc2) (.slice na2 t2.names.length nc2) (.int .i64 (t2.at_:Nat))
  have hxge:=hK2.size
  obtain⟨w3,hw⟩:∃ w0,w0=w2.alloc (.cells #[.int .i64 (t2.kind:Nat),.string (bs t2.name),.slice ka2 t2.kids.length kc2,.slice na2 t2.names.length nc2,.int .i64 (t2.at_:Nat)] 26):=⟨_,rfl⟩
  rw [← hw] at hal hbx ⊢
  clear hw
  have hI3:=hI2.below hal
  have hK3:=chainK hK2 hal
  replace ht2:=TrIn.ahead ht2 (Nat.le_refl _) hal
  clear hal
  obtain⟨x,hx⟩:∃ x,x=w2.heap.size:=⟨_,rfl⟩
  rw [← hx] at ht2 hbx hxge ⊢
  clear hx
  have hv0:TVar w1.heap.size x w3 t2:=⟨ka2,kc2,na2,nc2,hbx,ht2⟩
  go_loopg [] f (fun k wr=>∃ t R',TVar w1.heap.size x wr t∧r.In wr R'∧Kp r.b w1 wr∧Hid (k≤f∧appL r.e k l t R'=X))
  case atStart=>exact⟨t2,R2,hv0,hI3,hK3,⟨Nat.le_refl _,HX.out⟩⟩
  case round =>
   obtain⟨t,R',⟨ka,kc,na,nc,hbx,ht⟩,hI4,hK4,HK⟩:=hrel
   clear hv0 HX
   cases gk with
   | zero=>exact absurd HK.out.2 (fun h=>by rw [appL_z] at h;exact hNF 0 h.symm)
   | succ k =>
    have HX:Hid (_=X):=HK.out.2
    have HF:Hid (k+1≤f):=HK.out.1
    rw [appL_s] at HX
    clear HK
    obtain⟨w4,hw4⟩:∃ w0,w0=wr:=⟨_,rfl⟩
    subst hw4
    cases hq:sees [64] (R') with
    | true =>
     have c:=take_any [64] (by simp) r w4 (R') hI4 hwf
     rw [hq] at c
     simp only [if_true,Bool.false_eq_true,if_false] at c
     rw [if_pos hq] at HX
     go_wp2_with fail
     refine c.mono ?_
     rintro e w5 ⟨rfl,hI5,hk5⟩
     have hK5:=hK4.trans hk5
     clear c hq
     replace hbx:=Blk.kp hbx hk5 hbx.lt (by omega)
     replace ht:=TrIn.kpB ht hk5 (by omega)
     go_wp2_with fail
     obtain⟨w6,hw6⟩:∃ w0,w0=w5.drew:=⟨_,rfl⟩
     have hB6:Below w5.heap.size w5 w6:=by rw [hw6];exact Below.drew (Below.refl _ _)
     have hI6:=hI5.below hB6
     have hK6:=chainK hK5 hB6
     have hk6:=Kp.of_below (b:=r.b) hB6
     refine wp_region_any (by kernel_rfl) ?_
     change wpAny _ _ _ _ _ _ _ (World.drew _)
     rw [← hw6]
     clear hw6
     replace hbx:=Blk.kp hbx hk6 hbx.lt (by omega)
     replace ht:=TrIn.kpB ht hk6 (by omega)
     clear hB6 hk6
     refine wpAny_take (i:=1) (v:=r.ptr) rfl (by kernel_rfl) (by kernel_rfl) (by kernel_rfl) (fun _ _ _ h=>h) (Or.inl ⟨by rfl,fun w=>by go_simp⟩) ?_
     simp only [Act.put,List.setIfInBounds_toArray,List.set_cons_zero,List.set_cons_succ]
     refine wpAny_take (i:=2) (v:=.int .i64 (l:Nat)) rfl (by kernel_rfl) (by kernel_rfl) (by kernel_rfl) (fun _ _ _ h=>h) (Or.inl ⟨by rfl,fun w=>by go_simp⟩) ?_
     simp only [Act.put,List.setIfInBounds_toArray,List.set_cons_zero,List.set_cons_succ]
     refine wpAny_take (i:=3) (v:=.int .i64 ((l:Int) + 1)) rfl (by kernel_rfl) (by kernel_rfl) (by kernel_rfl) (fun _ _ _ h=>h) (Or.inl ⟨by rfl,fun w=>by go_simp⟩) ?_
     simp only [Act.put,List.setIfInBounds_toArray,List.set_cons_zero,List.set_cons_succ]
     refine wpAny_ready (rs:=[0,4]) (by kernel_rfl) (by simp) ?_
     refine AllReady.cons rfl (fun KK hKK=>?_) (AllReady.cons rfl (fun KK hKK=>?_) AllReady.nil)
     ·skip
      obtain⟨c0,c1,c2,c3,c4,_⟩:=hbx.cells
      go_simp
      clear c0 c1 c2 c3 c4
      refine hKK _ _ ?_
      clear hKK KK
      refine wpAny_ready (rs:=[4]) (by kernel_rfl) (by simp) ?_
      refine AllReady.cons rfl (fun KK hKK=>?_) AllReady.nil
      go_simp
      have hN7:NF (dimP r.e k (l+1) ((R').tail)):=NF.left (by have h:=hNF;rw [← HX.out] at h;exact h)
      have c:=ihd k (by have:=HF.out;omega) (l+1) ((R').tail) w6 (by omega) hI6 hN7
      rw [castS] at c
      have hxl7:=hbx.lt
      cases hq:dimP r.e k (l+1) ((R').tail) using Rs.cs with
      | bad p y =>
       rw [hq] at c HX
       refine c.mono ?_
       rintro e w7 ⟨rfl,hb⟩
       exact⟨rfl,rule_bad HX.out.symm hB1 hK6 hlt hb⟩
      | ok t7 R7 =>
       rw [hq] at c HX
       rw [bnd_ok] at HX
       refine c.mono ?_
       rintro e w7 ⟨v7,rfl,ht7,hI7,hk7⟩
       have hK7:=hK6.trans hk7
       clear c hq
       replace hbx:=Blk.kp hbx hk7 hbx.lt (by omega)
       replace ht:=TrIn.kpB ht hk7 (by omega)
       have hz7:=ht7
       replace ht7:=TrIn.toB ht7 hK6.size (by omega)
       obtain⟨vk7,vn7,rfl,hf7,ka7,kc7,rfl⟩:=TrIn.form ht7
       obtain⟨na7,nc7,rfl⟩:=hf7.form
       clear hf7
       refine hKK _ _ ?_
       clear hKK KK
       refine wpAny_ready (rs:=[5]) (by kernel_rfl) (by simp) ?_
       refine AllReady.cons rfl (fun KK hKK=>?_) AllReady.nil
       go_simp
       refine (two_any 7 t t7 _ _ (But w1.heap.size x) w7 ht ht7 (fun y hy=>⟨by have:=hK7.size;omega,by have:=hbx.lt;omega⟩)).mono ?_
       rintro e w8 ⟨v8,rfl,hT,hb8⟩
       have hI8:=hI7.below hb8
       have hK8:=chainK hK7 hb8
       have hk8:=Kp.of_below (b:=r.b) hb8
       replace hbx:=Blk.kp hbx hk8 hbx.lt (by omega)
       replace ht:=TrIn.kpB ht hk8 (by omega)
       replace ht7:=TrIn.kpB ht7 hk8 (by omega)
       obtain⟨T,hTe⟩:∃ T,T=two 7 t t7:=⟨_,rfl⟩
       rw [← hTe] at hT HX
       clear hTe ht ht7
       obtain⟨vkT,vnT,rfl,hfT,kaT,kcT,rfl⟩:=TrIn.form hT
       obtain⟨naT,ncT,rfl⟩:=hfT.form
       clear hfT
       refine hKK _ _ ?_
       clear hKK KK
       refine wpAny_ready (rs:=[6]) (by kernel_rfl) (by simp) ?_
       refine AllReady.cons rfl (fun KK hKK=>?_) AllReady.nil
       obtain⟨c0,c1,c2,c3,c4,f0,f1,f2,f3,f4⟩:=hbx.cells
       go_simp
       clear c0 c1 c2 c3 c4 f0 f1 f2 f3 f4
       obtain⟨w9,hw⟩:∃ w0,w0=((((w8.setCell ⟨x,0,none⟩ (.int .i64 (T.kind:Nat))).setCell ⟨x,1,none⟩ (.string (bs T.name))).setCell ⟨x,2,none⟩ (.slice kaT T.kids.length kcT)).setCell ⟨x,3,none⟩ (.slice naT T.names.length ncT)).setCell ⟨x,4,none⟩ (.int .i64 (T.at_:Nat)):=⟨_,rfl⟩
       rw [← hw]
       have hI9:r.In w9 (R7):=by rw [hw];exact hI8.put5 (by omega) _ _ _ _ _
       have hK9:Kp r.b w1 w9:=by rw [hw];exact hK8.put5 hxge _ _ _ _ _
       have hbx2:Blk w9 x (.int .i64 (T.kind:Nat)) (.string (bs T.name)) (.slice kaT T.kids.length kcT) (.slice naT T.names.length ncT) (.int .i64 (T.at_:Nat)):=by rw [hw];exact blk_put w8 x _ _ _ _ _ _ _ _ _ _ hbx
       clear hbx
       have hbx:=hbx2
       clear hbx2
       replace hT:=TrIn.putE hT hw
       clear hw
       refine hKK _ _ ?_
       clear hKK KK
       refine wpAny_done (by kernel_rfl) ?_ _
       go_wp2_with fail
       go_roundg k
       case measure=>omega
       case rel=>exact⟨T,R7,⟨kaT,kcT,naT,ncT,hbx,hT⟩,hI9,hK9,⟨by have:=HF.out;omega,HX.out⟩⟩
     ·skip
      go_simp
      have hN10:NF (dimP r.e k (l+1) ((R').tail)):=NF.left (by have h:=hNF;rw [← HX.out] at h;exact h)
      have c:=ihd k (by have:=HF.out;omega) (l+1) ((R').tail) w6 (by omega) hI6 hN10
      rw [castS] at c
      have hxl10:=hbx.lt
      cases hq:dimP r.e k (l+1) ((R').tail) using Rs.cs with
      | bad p y =>
       rw [hq] at c HX
       refine c.mono ?_
       rintro e w10 ⟨rfl,hb⟩
       exact⟨rfl,rule_bad HX.out.symm hB1 hK6 hlt hb⟩
      | ok t10 R10 =>
       rw [hq] at c HX
       rw [bnd_ok] at HX
       refine c.mono ?_
       rintro e w10 ⟨v10,rfl,ht10,hI10,hk10⟩
       have hK10:=hK6.trans hk10
       clear c hq
       replace hbx:=Blk.kp hbx hk10 hbx.lt (by omega)
       replace ht:=TrIn.kpB ht hk10 (by omega)
       have hz10:=ht10
       replace ht10:=TrIn.toB ht10 hK6.size (by omega)
       obtain⟨vk10,vn10,rfl,hf10,ka10,kc10,rfl⟩:=TrIn.form ht10
       obtain⟨na10,nc10,rfl⟩:=hf10.form
       clear hf10
       refine hKK _ _ ?_
       clear hKK KK
       refine wpAny_ready (rs:=[0]) (by kernel_rfl) (by simp) ?_
       refine AllReady.cons rfl (fun KK hKK=>?_) AllReady.nil
       obtain⟨c0,c1,c2,c3,c4,_⟩:=hbx.cells
       go_simp
       clear c0 c1 c2 c3 c4
       refine hKK _ _ ?_
       clear hKK KK
       refine wpAny_ready (rs:=[5]) (by kernel_rfl) (by simp) ?_
       refine AllReady.cons rfl (fun KK hKK=>?_) AllReady.nil
       go_simp
       refine (two_any 7 t t10 _ _ (But w1.heap.size x) w10 ht ht10 (fun y hy=>⟨by have:=hK10.size;omega,by have:=hbx.lt;omega⟩)).mono ?_
       rintro e w11 ⟨v11,rfl,hT,hb11⟩
       have hI11:=hI10.below hb11
       have hK11:=chainK hK10 hb11
       have hk11:=Kp.of_below (b:=r.b) hb11
       replace hbx:=Blk.kp hbx hk11 hbx.lt (by omega)
       replace ht:=TrIn.kpB ht hk11 (by omega)
       replace ht10:=TrIn.kpB ht10 hk11 (by omega)
       obtain⟨T,hTe⟩:∃ T,T=two 7 t t10:=⟨_,rfl⟩
       rw [← hTe] at hT HX
       clear hTe ht ht10
       obtain⟨vkT,vnT,rfl,hfT,kaT,kcT,rfl⟩:=TrIn.form hT
       obtain⟨naT,ncT,rfl⟩:=hfT.form
       clear hfT
       refine hKK _ _ ?_
       clear hKK KK
       refine wpAny_ready (rs:=[6]) (by kernel_rfl) (by simp) ?_
       refine AllReady.cons rfl (fun KK hKK=>?_) AllReady.nil
       obtain⟨c0,c1,c2,c3,c4,f0,f1,f2,f3,f4⟩:=hbx.cells
       go_simp
       clear c0 c1 c2 c3 c4 f0 f1 f2 f3 f4
       obtain⟨w12,hw⟩:∃ w0,w0=((((w11.setCell ⟨x,0,none⟩ (.int .i64 (T.kind:Nat))).setCell ⟨x,1,none⟩ (.string (bs T.name))).setCell ⟨x,2,none⟩ (.slice kaT T.kids.length kcT)).setCell ⟨x,3,none⟩ (.slice naT T.names.length ncT)).setCell ⟨x,4,none⟩ (.int .i64 (T.at_:Nat)):=⟨_,rfl⟩
       rw [← hw]
       have hI12:r.In w12 (R10):=by rw [hw];exact hI11.put5 (by omega) _ _ _ _ _
       have hK12:Kp r.b w1 w12:=by rw [hw];exact hK11.put5 hxge _ _ _ _ _
       have hbx2:Blk w12 x (.int .i64 (T.kind:Nat)) (.string (bs T.name)) (.slice kaT T.kids.length kcT) (.slice naT T.names.length ncT) (.int .i64 (T.at_:Nat)):=by rw [hw];exact blk_put w11 x _ _ _ _ _ _ _ _ _ _ hbx
       clear hbx
       have hbx:=hbx2
       clear hbx2
       replace hT:=TrIn.putE hT hw
       clear hw
       refine hKK _ _ ?_
       clear hKK KK
       refine wpAny_done (by kernel_rfl) ?_ _
       go_wp2_with fail
       go_roundg k
       case measure=>omega
       case rel=>exact⟨T,R10,⟨kaT,kcT,naT,ncT,hbx,hT⟩,hI12,hK12,⟨by have:=HF.out;omega,HX.out⟩⟩
    | false =>
     have c:=take_any [64] (by simp) r w4 (R') hI4 hwf
     rw [hq] at c
     simp only [if_true,Bool.false_eq_true,if_false] at c
     rw [if_neg (neT hq)] at HX
     go_wp2_with fail
     refine c.mono ?_
     rintro e w13 ⟨rfl,hI13,hk13⟩
     have hK13:=hK4.trans hk13
     clear c hq
     replace hbx:=Blk.kp hbx hk13 hbx.lt (by omega)
     replace ht:=TrIn.kpB ht hk13 (by omega)
     cases hNn:isN R' with
     | true =>
      have c:=seesName_any r w13 (R') hI13 hwf
      rw [hNn] at c
      go_wp2_with fail
      refine (c).mono ?_
      rintro e w14 ⟨rfl,hb14⟩
      have hI14:=hI13.below hb14
      have hK14:=chainK hK13 hb14
      have hk14:=Kp.of_below (b:=r.b) hb14
      replace hbx:=Blk.kp hbx hk14 hbx.lt (by omega)
      replace ht:=TrIn.kpB ht hk14 (by omega)
      clear hb14 hk14
      clear c
      rw [if_pos (by rw [hNn];rfl)] at HX
      skip
      go_wp2_with fail
      obtain⟨w15,hw15⟩:∃ w0,w0=w14.drew:=⟨_,rfl⟩
      have hB15:Below w14.heap.size w14 w15:=by rw [hw15];exact Below.drew (Below.refl _ _)
      have hI15:=hI14.below hB15
      have hK15:=chainK hK14 hB15
      have hk15:=Kp.of_below (b:=r.b) hB15
      refine wp_region_any (by kernel_rfl) ?_
      change wpAny _ _ _ _ _ _ _ (World.drew _)
      rw [← hw15]
      clear hw15
      replace hbx:=Blk.kp hbx hk15 hbx.lt (by omega)
      replace ht:=TrIn.kpB ht hk15 (by omega)
      clear hB15 hk15
      refine wpAny_take (i:=1) (v:=r.ptr) rfl (by kernel_rfl) (by kernel_rfl) (by kernel_rfl) (fun _ _ _ h=>h) (Or.inl ⟨by rfl,fun w=>by go_simp⟩) ?_
      simp only [Act.put,List.setIfInBounds_toArray,List.set_cons_zero,List.set_cons_succ]
      refine wpAny_take (i:=2) (v:=.int .i64 (l:Nat)) rfl (by kernel_rfl) (by kernel_rfl) (by kernel_rfl) (fun _ _ _ h=>h) (Or.inl ⟨by rfl,fun w=>by go_simp⟩) ?_
      simp only [Act.put,List.setIfInBounds_toArray,List.set_cons_zero,List.set_cons_succ]
      refine wpAny_ready (rs:=[0,3]) (by kernel_rfl) (by simp) ?_
      refine AllReady.cons rfl (fun KK hKK=>?_) (AllReady.cons rfl (fun KK hKK=>?_) AllReady.nil)
      ·skip
       obtain⟨c0,c1,c2,c3,c4,_⟩:=hbx.cells
       go_simp
       clear c0 c1 c2 c3 c4
       refine hKK _ _ ?_
       clear hKK KK
       refine wpAny_ready (rs:=[3]) (by kernel_rfl) (by simp) ?_
       refine AllReady.cons rfl (fun KK hKK=>?_) AllReady.nil
       go_simp
       have hN16:NF (atomP r.e k l (R')):=NF.left (by have h:=hNF;rw [← HX.out] at h;exact h)
       have c:=iha k (by have:=HF.out;omega) l (R') w15 (by omega) hI15 hN16
       have hxl16:=hbx.lt
       cases hq:atomP r.e k l (R') using Rs.cs with
       | bad p y =>
        rw [hq] at c HX
        refine c.mono ?_
        rintro e w16 ⟨rfl,hb⟩
        exact⟨rfl,rule_bad HX.out.symm hB1 hK15 hlt hb⟩
       | ok t16 R16 =>
        rw [hq] at c HX
        rw [bnd_ok] at HX
        refine c.mono ?_
        rintro e w16 ⟨v16,rfl,ht16,hI16,hk16⟩
        have hK16:=hK15.trans hk16
        clear c hq
        replace hbx:=Blk.kp hbx hk16 hbx.lt (by omega)
        replace ht:=TrIn.kpB ht hk16 (by omega)
        have hz16:=ht16
        replace ht16:=TrIn.toB ht16 hK15.size (by omega)
        obtain⟨vk16,vn16,rfl,hf16,ka16,kc16,rfl⟩:=TrIn.form ht16
        obtain⟨na16,nc16,rfl⟩:=hf16.form
        clear hf16
        refine hKK _ _ ?_
        clear hKK KK
        refine wpAny_ready (rs:=[4]) (by kernel_rfl) (by simp) ?_
        refine AllReady.cons rfl (fun KK hKK=>?_) AllReady.nil
        go_simp
        refine (two_any 6 t t16 _ _ (But w1.heap.size x) w16 ht ht16 (fun y hy=>⟨by have:=hK16.size;omega,by have:=hbx.lt;omega⟩)).mono ?_
        rintro e w17 ⟨v17,rfl,hT,hb17⟩
        have hI17:=hI16.below hb17
        have hK17:=chainK hK16 hb17
        have hk17:=Kp.of_below (b:=r.b) hb17
        replace hbx:=Blk.kp hbx hk17 hbx.lt (by omega)
        replace ht:=TrIn.kpB ht hk17 (by omega)
        replace ht16:=TrIn.kpB ht16 hk17 (by omega)
        obtain⟨T,hTe⟩:∃ T,T=two 6 t t16:=⟨_,rfl⟩
        rw [← hTe] at hT HX
        clear hTe ht ht16
        obtain⟨vkT,vnT,rfl,hfT,kaT,kcT,rfl⟩:=TrIn.form hT
        obtain⟨naT,ncT,rfl⟩:=hfT.form
        clear hfT
        refine hKK _ _ ?_
        clear hKK KK
        refine wpAny_ready (rs:=[5]) (by kernel_rfl) (by simp) ?_
        refine AllReady.cons rfl (fun KK hKK=>?_) AllReady.nil
        obtain⟨c0,c1,c2,c3,c4,f0,f1,f2,f3,f4⟩:=hbx.cells
        go_simp
        clear c0 c1 c2 c3 c4 f0 f1 f2 f3 f4
        obtain⟨w18,hw⟩:∃ w0,w0=((((w17.setCell ⟨x,0,none⟩ (.int .i64 (T.kind:Nat))).setCell ⟨x,1,none⟩ (.string (bs T.name))).setCell ⟨x,2,none⟩ (.slice kaT T.kids.length kcT)).setCell ⟨x,3,none⟩ (.slice naT T.names.length ncT)).setCell ⟨x,4,none⟩ (.int .i64 (T.at_:Nat)):=⟨_,rfl⟩
        rw [← hw]
        have hI18:r.In w18 (R16):=by rw [hw];exact hI17.put5 (by omega) _ _ _ _ _
        have hK18:Kp r.b w1 w18:=by rw [hw];exact hK17.put5 hxge _ _ _ _ _
        have hbx2:Blk w18 x (.int .i64 (T.kind:Nat)) (.string (bs T.name)) (.slice kaT T.kids.length kcT) (.slice naT T.names.length ncT) (.int .i64 (T.at_:Nat)):=by rw [hw];exact blk_put w17 x _ _ _ _ _ _ _ _ _ _ hbx
        clear hbx
        have hbx:=hbx2
        clear hbx2
        replace hT:=TrIn.putE hT hw
        clear hw
        refine hKK _ _ ?_
        clear hKK KK
        refine wpAny_done (by kernel_rfl) ?_ _
        go_wp2_with fail
        go_roundg k
        case measure=>omega
        case rel=>exact⟨T,R16,⟨kaT,kcT,naT,ncT,hbx,hT⟩,hI18,hK18,⟨by have:=HF.out;omega,HX.out⟩⟩
      ·skip
       go_simp
       have hN19:NF (atomP r.e k l (R')):=NF.left (by have h:=hNF;rw [← HX.out] at h;exact h)
       have c:=iha k (by have:=HF.out;omega) l (R') w15 (by omega) hI15 hN19
       have hxl19:=hbx.lt
       cases hq:atomP r.e k l (R') using Rs.cs with
       | bad p y =>
        rw [hq] at c HX
        refine c.mono ?_
        rintro e w19 ⟨rfl,hb⟩
        exact⟨rfl,rule_bad HX.out.symm hB1 hK15 hlt hb⟩
       | ok t19 R19 =>
        rw [hq] at c HX
        rw [bnd_ok] at HX
        refine c.mono ?_
        rintro e w19 ⟨v19,rfl,ht19,hI19,hk19⟩
        have hK19:=hK15.trans hk19
        clear c hq
        replace hbx:=Blk.kp hbx hk19 hbx.lt (by omega)
        replace ht:=TrIn.kpB ht hk19 (by omega)
        have hz19:=ht19
        replace ht19:=TrIn.toB ht19 hK15.size (by omega)
        obtain⟨vk19,vn19,rfl,hf19,ka19,kc19,rfl⟩:=TrIn.form ht19
        obtain⟨na19,nc19,rfl⟩:=hf19.form
        clear hf19
        refine hKK _ _ ?_
        clear hKK KK
        refine wpAny_ready (rs:=[0]) (by kernel_rfl) (by simp) ?_
        refine AllReady.cons rfl (fun KK hKK=>?_) AllReady.nil
        obtain⟨c0,c1,c2,c3,c4,_⟩:=hbx.cells
        go_simp
        clear c0 c1 c2 c3 c4
        refine hKK _ _ ?_
        clear hKK KK
        refine wpAny_ready (rs:=[4]) (by kernel_rfl) (by simp) ?_
        refine AllReady.cons rfl (fun KK hKK=>?_) AllReady.nil
        go_simp
        refine (two_any 6 t t19 _ _ (But w1.heap.size x) w19 ht ht19 (fun y hy=>⟨by have:=hK19.size;omega,by have:=hbx.lt;omega⟩)).mono ?_
        rintro e w20 ⟨v20,rfl,hT,hb20⟩
        have hI20:=hI19.below hb20
        have hK20:=chainK hK19 hb20
        have hk20:=Kp.of_below (b:=r.b) hb20
        replace hbx:=Blk.kp hbx hk20 hbx.lt (by omega)
        replace ht:=TrIn.kpB ht hk20 (by omega)
        replace ht19:=TrIn.kpB ht19 hk20 (by omega)
        obtain⟨T,hTe⟩:∃ T,T=two 6 t t19:=⟨_,rfl⟩
        rw [← hTe] at hT HX
        clear hTe ht ht19
        obtain⟨vkT,vnT,rfl,hfT,kaT,kcT,rfl⟩:=TrIn.form hT
        obtain⟨naT,ncT,rfl⟩:=hfT.form
        clear hfT
        refine hKK _ _ ?_
        clear hKK KK
        refine wpAny_ready (rs:=[5]) (by kernel_rfl) (by simp) ?_
        refine AllReady.cons rfl (fun KK hKK=>?_) AllReady.nil
        obtain⟨c0,c1,c2,c3,c4,f0,f1,f2,f3,f4⟩:=hbx.cells
        go_simp
        clear c0 c1 c2 c3 c4 f0 f1 f2 f3 f4
        obtain⟨w21,hw⟩:∃ w0,w0=((((w20.setCell ⟨x,0,none⟩ (.int .i64 (T.kind:Nat))).setCell ⟨x,1,none⟩ (.string (bs T.name))).setCell ⟨x,2,none⟩ (.slice kaT T.kids.length kcT)).setCell ⟨x,3,none⟩ (.slice naT T.names.length ncT)).setCell ⟨x,4,none⟩ (.int .i64 (T.at_:Nat)):=⟨_,rfl⟩
        rw [← hw]
        have hI21:r.In w21 (R19):=by rw [hw];exact hI20.put5 (by omega) _ _ _ _ _
        have hK21:Kp r.b w1 w21:=by rw [hw];exact hK20.put5 hxge _ _ _ _ _
        have hbx2:Blk w21 x (.int .i64 (T.kind:Nat)) (.string (bs T.name)) (.slice kaT T.kids.length kcT) (.slice naT T.names.length ncT) (.int .i64 (T.at_:Nat)):=by rw [hw];exact blk_put w20 x _ _ _ _ _ _ _ _ _ _ hbx
        clear hbx
        have hbx:=hbx2
        clear hbx2
        replace hT:=TrIn.putE hT hw
        clear hw
        refine hKK _ _ ?_
        clear hKK KK
        refine wpAny_done (by kernel_rfl) ?_ _
        go_wp2_with fail
        go_roundg k
        case measure=>omega
        case rel=>exact⟨T,R19,⟨kaT,kcT,naT,ncT,hbx,hT⟩,hI21,hK21,⟨by have:=HF.out;omega,HX.out⟩⟩
     | false =>
      have c:=seesName_any r w13 (R') hI13 hwf
      rw [hNn] at c
      go_wp2_with fail
      refine (c).mono ?_
      rintro e w22 ⟨rfl,hb22⟩
      have hI22:=hI13.below hb22
      have hK22:=chainK hK13 hb22
      have hk22:=Kp.of_below (b:=r.b) hb22
      replace hbx:=Blk.kp hbx hk22 hbx.lt (by omega)
      replace ht:=TrIn.kpB ht hk22 (by omega)
      clear hb22 hk22
      clear c
      cases h4n:sees [40] R' with
      | true =>
       have c:=sees_any [40] r w22 (R') hI22 hwf
       rw [h4n] at c
       go_wp2_with fail
       refine (c).mono ?_
       rintro e w23 ⟨rfl,hb23⟩
       have hI23:=hI22.below hb23
       have hK23:=chainK hK22 hb23
       have hk23:=Kp.of_below (b:=r.b) hb23
       replace hbx:=Blk.kp hbx hk23 hbx.lt (by omega)
       replace ht:=TrIn.kpB ht hk23 (by omega)
       clear hb23 hk23
       clear c
       rw [if_pos (by rw [hNn,h4n];rfl)] at HX
       skip
       go_wp2_with fail
       obtain⟨w24,hw24⟩:∃ w0,w0=w23.drew:=⟨_,rfl⟩
       have hB24:Below w23.heap.size w23 w24:=by rw [hw24];exact Below.drew (Below.refl _ _)
       have hI24:=hI23.below hB24
       have hK24:=chainK hK23 hB24
       have hk24:=Kp.of_below (b:=r.b) hB24
       refine wp_region_any (by kernel_rfl) ?_
       change wpAny _ _ _ _ _ _ _ (World.drew _)
       rw [← hw24]
       clear hw24
       replace hbx:=Blk.kp hbx hk24 hbx.lt (by omega)
       replace ht:=TrIn.kpB ht hk24 (by omega)
       clear hB24 hk24
       refine wpAny_take (i:=1) (v:=r.ptr) rfl (by kernel_rfl) (by kernel_rfl) (by kernel_rfl) (fun _ _ _ h=>h) (Or.inl ⟨by rfl,fun w=>by go_simp⟩) ?_
       simp only [Act.put,List.setIfInBounds_toArray,List.set_cons_zero,List.set_cons_succ]
       refine wpAny_take (i:=2) (v:=.int .i64 (l:Nat)) rfl (by kernel_rfl) (by kernel_rfl) (by kernel_rfl) (fun _ _ _ h=>h) (Or.inl ⟨by rfl,fun w=>by go_simp⟩) ?_
       simp only [Act.put,List.setIfInBounds_toArray,List.set_cons_zero,List.set_cons_succ]
       refine wpAny_ready (rs:=[0,3]) (by kernel_rfl) (by simp) ?_
       refine AllReady.cons rfl (fun KK hKK=>?_) (AllReady.cons rfl (fun KK hKK=>?_) AllReady.nil)
       ·skip
        obtain⟨c0,c1,c2,c3,c4,_⟩:=hbx.cells
        go_simp
        clear c0 c1 c2 c3 c4
        refine hKK _ _ ?_
        clear hKK KK
        refine wpAny_ready (rs:=[3]) (by kernel_rfl) (by simp) ?_
        refine AllReady.cons rfl (fun KK hKK=>?_) AllReady.nil
        go_simp
        have hN25:NF (atomP r.e k l (R')):=NF.left (by have h:=hNF;rw [← HX.out] at h;exact h)
        have c:=iha k (by have:=HF.out;omega) l (R') w24 (by omega) hI24 hN25
        have hxl25:=hbx.lt
        cases hq:atomP r.e k l (R') using Rs.cs with
        | bad p y =>
         rw [hq] at c HX
         refine c.mono ?_
         rintro e w25 ⟨rfl,hb⟩
         exact⟨rfl,rule_bad HX.out.symm hB1 hK24 hlt hb⟩
        | ok t25 R25 =>
         rw [hq] at c HX
         rw [bnd_ok] at HX
         refine c.mono ?_
         rintro e w25 ⟨v25,rfl,ht25,hI25,hk25⟩
         have hK25:=hK24.trans hk25
         clear c hq
         replace hbx:=Blk.kp hbx hk25 hbx.lt (by omega)
         replace ht:=TrIn.kpB ht hk25 (by omega)
         have hz25:=ht25
         replace ht25:=TrIn.toB ht25 hK24.size (by omega)
         obtain⟨vk25,vn25,rfl,hf25,ka25,kc25,rfl⟩:=TrIn.form ht25
         obtain⟨na25,nc25,rfl⟩:=hf25.form
         clear hf25
         refine hKK _ _ ?_
         clear hKK KK
         refine wpAny_ready (rs:=[4]) (by kernel_rfl) (by simp) ?_
         refine AllReady.cons rfl (fun KK hKK=>?_) AllReady.nil
         go_simp
         refine (two_any 6 t t25 _ _ (But w1.heap.size x) w25 ht ht25 (fun y hy=>⟨by have:=hK25.size;omega,by have:=hbx.lt;omega⟩)).mono ?_
         rintro e w26 ⟨v26,rfl,hT,hb26⟩
         have hI26:=hI25.below hb26
         have hK26:=chainK hK25 hb26
         have hk26:=Kp.of_below (b:=r.b) hb26
         replace hbx:=Blk.kp hbx hk26 hbx.lt (by omega)
         replace ht:=TrIn.kpB ht hk26 (by omega)
         replace ht25:=TrIn.kpB ht25 hk26 (by omega)
         obtain⟨T,hTe⟩:∃ T,T=two 6 t t25:=⟨_,rfl⟩
         rw [← hTe] at hT HX
         clear hTe ht ht25
         obtain⟨vkT,vnT,rfl,hfT,kaT,kcT,rfl⟩:=TrIn.form hT
         obtain⟨naT,ncT,rfl⟩:=hfT.form
         clear hfT
         refine hKK _ _ ?_
         clear hKK KK
         refine wpAny_ready (rs:=[5]) (by kernel_rfl) (by simp) ?_
         refine AllReady.cons rfl (fun KK hKK=>?_) AllReady.nil
         obtain⟨c0,c1,c2,c3,c4,f0,f1,f2,f3,f4⟩:=hbx.cells
         go_simp
         clear c0 c1 c2 c3 c4 f0 f1 f2 f3 f4
         obtain⟨w27,hw⟩:∃ w0,w0=((((w26.setCell ⟨x,0,none⟩ (.int .i64 (T.kind:Nat))).setCell ⟨x,1,none⟩ (.string (bs T.name))).setCell ⟨x,2,none⟩ (.slice kaT T.kids.length kcT)).setCell ⟨x,3,none⟩ (.slice naT T.names.length ncT)).setCell ⟨x,4,none⟩ (.int .i64 (T.at_:Nat)):=⟨_,rfl⟩
         rw [← hw]
         have hI27:r.In w27 (R25):=by rw [hw];exact hI26.put5 (by omega) _ _ _ _ _
         have hK27:Kp r.b w1 w27:=by rw [hw];exact hK26.put5 hxge _ _ _ _ _
         have hbx2:Blk w27 x (.int .i64 (T.kind:Nat)) (.string (bs T.name)) (.slice kaT T.kids.length kcT) (.slice naT T.names.length ncT) (.int .i64 (T.at_:Nat)):=by rw [hw];exact blk_put w26 x _ _ _ _ _ _ _ _ _ _ hbx
         clear hbx
         have hbx:=hbx2
         clear hbx2
         replace hT:=TrIn.putE hT hw
         clear hw
         refine hKK _ _ ?_
         clear hKK KK
         refine wpAny_done (by kernel_rfl) ?_ _
         go_wp2_with fail
         go_roundg k
         case measure=>omega
         case rel=>exact⟨T,R25,⟨kaT,kcT,naT,ncT,hbx,hT⟩,hI27,hK27,⟨by have:=HF.out;omega,HX.out⟩⟩
       ·skip
        go_simp
        have hN28:NF (atomP r.e k l (R')):=NF.left (by have h:=hNF;rw [← HX.out] at h;exact h)
        have c:=iha k (by have:=HF.out;omega) l (R') w24 (by omega) hI24 hN28
        have hxl28:=hbx.lt
        cases hq:atomP r.e k l (R') using Rs.cs with
        | bad p y =>
         rw [hq] at c HX
         refine c.mono ?_
         rintro e w28 ⟨rfl,hb⟩
         exact⟨rfl,rule_bad HX.out.symm hB1 hK24 hlt hb⟩
        | ok t28 R28 =>
         rw [hq] at c HX
         rw [bnd_ok] at HX
         refine c.mono ?_
         rintro e w28 ⟨v28,rfl,ht28,hI28,hk28⟩
         have hK28:=hK24.trans hk28
         clear c hq
         replace hbx:=Blk.kp hbx hk28 hbx.lt (by omega)
         replace ht:=TrIn.kpB ht hk28 (by omega)
         have hz28:=ht28
         replace ht28:=TrIn.toB ht28 hK24.size (by omega)
         obtain⟨vk28,vn28,rfl,hf28,ka28,kc28,rfl⟩:=TrIn.form ht28
         obtain⟨na28,nc28,rfl⟩:=hf28.form
         clear hf28
         refine hKK _ _ ?_
         clear hKK KK
         refine wpAny_ready (rs:=[0]) (by kernel_rfl) (by simp) ?_
         refine AllReady.cons rfl (fun KK hKK=>?_) AllReady.nil
         obtain⟨c0,c1,c2,c3,c4,_⟩:=hbx.cells
         go_simp
         clear c0 c1 c2 c3 c4
         refine hKK _ _ ?_
         clear hKK KK
         refine wpAny_ready (rs:=[4]) (by kernel_rfl) (by simp) ?_
         refine AllReady.cons rfl (fun KK hKK=>?_) AllReady.nil
         go_simp
         refine (two_any 6 t t28 _ _ (But w1.heap.size x) w28 ht ht28 (fun y hy=>⟨by have:=hK28.size;omega,by have:=hbx.lt;omega⟩)).mono ?_
         rintro e w29 ⟨v29,rfl,hT,hb29⟩
         have hI29:=hI28.below hb29
         have hK29:=chainK hK28 hb29
         have hk29:=Kp.of_below (b:=r.b) hb29
         replace hbx:=Blk.kp hbx hk29 hbx.lt (by omega)
         replace ht:=TrIn.kpB ht hk29 (by omega)
         replace ht28:=TrIn.kpB ht28 hk29 (by omega)
         obtain⟨T,hTe⟩:∃ T,T=two 6 t t28:=⟨_,rfl⟩
         rw [← hTe] at hT HX
         clear hTe ht ht28
         obtain⟨vkT,vnT,rfl,hfT,kaT,kcT,rfl⟩:=TrIn.form hT
         obtain⟨naT,ncT,rfl⟩:=hfT.form
         clear hfT
         refine hKK _ _ ?_
         clear hKK KK
         refine wpAny_ready (rs:=[5]) (by kernel_rfl) (by simp) ?_
         refine AllReady.cons rfl (fun KK hKK=>?_) AllReady.nil
         obtain⟨c0,c1,c2,c3,c4,f0,f1,f2,f3,f4⟩:=hbx.cells
         go_simp
         clear c0 c1 c2 c3 c4 f0 f1 f2 f3 f4
         obtain⟨w30,hw⟩:∃ w0,w0=((((w29.setCell ⟨x,0,none⟩ (.int .i64 (T.kind:Nat))).setCell ⟨x,1,none⟩ (.string (bs T.name))).setCell ⟨x,2,none⟩ (.slice kaT T.kids.length kcT)).setCell ⟨x,3,none⟩ (.slice naT T.names.length ncT)).setCell ⟨x,4,none⟩ (.int .i64 (T.at_:Nat)):=⟨_,rfl⟩
         rw [← hw]
         have hI30:r.In w30 (R28):=by rw [hw];exact hI29.put5 (by omega) _ _ _ _ _
         have hK30:Kp r.b w1 w30:=by rw [hw];exact hK29.put5 hxge _ _ _ _ _
         have hbx2:Blk w30 x (.int .i64 (T.kind:Nat)) (.string (bs T.name)) (.slice kaT T.kids.length kcT) (.slice naT T.names.length ncT) (.int .i64 (T.at_:Nat)):=by rw [hw];exact blk_put w29 x _ _ _ _ _ _ _ _ _ _ hbx
         clear hbx
         have hbx:=hbx2
         clear hbx2
         replace hT:=TrIn.putE hT hw
         clear hw
         refine hKK _ _ ?_
         clear hKK KK
         refine wpAny_done (by kernel_rfl) ?_ _
         go_wp2_with fail
         go_roundg k
         case measure=>omega
         case rel=>exact⟨T,R28,⟨kaT,kcT,naT,ncT,hbx,hT⟩,hI30,hK30,⟨by have:=HF.out;omega,HX.out⟩⟩
      | false =>
       have c:=sees_any [40] r w22 (R') hI22 hwf
       rw [h4n] at c
       go_wp2_with fail
       refine (c).mono ?_
       rintro e w31 ⟨rfl,hb31⟩
       have hI31:=hI22.below hb31
       have hK31:=chainK hK22 hb31
       have hk31:=Kp.of_below (b:=r.b) hb31
       replace hbx:=Blk.kp hbx hk31 hbx.lt (by omega)
       replace ht:=TrIn.kpB ht hk31 (by omega)
       clear hb31 hk31
       clear c
       cases h9n:sees [91] R' with
       | true =>
        have c:=sees_any [91] r w31 (R') hI31 hwf
        rw [h9n] at c
        go_wp2_with fail
        refine (c).mono ?_
        rintro e w32 ⟨rfl,hb32⟩
        have hI32:=hI31.below hb32
        have hK32:=chainK hK31 hb32
        have hk32:=Kp.of_below (b:=r.b) hb32
        replace hbx:=Blk.kp hbx hk32 hbx.lt (by omega)
        replace ht:=TrIn.kpB ht hk32 (by omega)
        clear hb32 hk32
        clear c
        rw [if_pos (by rw [hNn,h4n,h9n];rfl)] at HX
        skip
        go_wp2_with fail
        obtain⟨w33,hw33⟩:∃ w0,w0=w32.drew:=⟨_,rfl⟩
        have hB33:Below w32.heap.size w32 w33:=by rw [hw33];exact Below.drew (Below.refl _ _)
        have hI33:=hI32.below hB33
        have hK33:=chainK hK32 hB33
        have hk33:=Kp.of_below (b:=r.b) hB33
        refine wp_region_any (by kernel_rfl) ?_
        change wpAny _ _ _ _ _ _ _ (World.drew _)
        rw [← hw33]
        clear hw33
        replace hbx:=Blk.kp hbx hk33 hbx.lt (by omega)
        replace ht:=TrIn.kpB ht hk33 (by omega)
        clear hB33 hk33
        refine wpAny_take (i:=1) (v:=r.ptr) rfl (by kernel_rfl) (by kernel_rfl) (by kernel_rfl) (fun _ _ _ h=>h) (Or.inl ⟨by rfl,fun w=>by go_simp⟩) ?_
        simp only [Act.put,List.setIfInBounds_toArray,List.set_cons_zero,List.set_cons_succ]
        refine wpAny_take (i:=2) (v:=.int .i64 (l:Nat)) rfl (by kernel_rfl) (by kernel_rfl) (by kernel_rfl) (fun _ _ _ h=>h) (Or.inl ⟨by rfl,fun w=>by go_simp⟩) ?_
        simp only [Act.put,List.setIfInBounds_toArray,List.set_cons_zero,List.set_cons_succ]
        refine wpAny_ready (rs:=[0,3]) (by kernel_rfl) (by simp) ?_
        refine AllReady.cons rfl (fun KK hKK=>?_) (AllReady.cons rfl (fun KK hKK=>?_) AllReady.nil)
        ·skip
         obtain⟨c0,c1,c2,c3,c4,_⟩:=hbx.cells
         go_simp
         clear c0 c1 c2 c3 c4
         refine hKK _ _ ?_
         clear hKK KK
         refine wpAny_ready (rs:=[3]) (by kernel_rfl) (by simp) ?_
         refine AllReady.cons rfl (fun KK hKK=>?_) AllReady.nil
         go_simp
         have hN34:NF (atomP r.e k l (R')):=NF.left (by have h:=hNF;rw [← HX.out] at h;exact h)
         have c:=iha k (by have:=HF.out;omega) l (R') w33 (by omega) hI33 hN34
         have hxl34:=hbx.lt
         cases hq:atomP r.e k l (R') using Rs.cs with
         | bad p y =>
          rw [hq] at c HX
          refine c.mono ?_
          rintro e w34 ⟨rfl,hb⟩
          exact⟨rfl,rule_bad HX.out.symm hB1 hK33 hlt hb⟩
         | ok t34 R34 =>
          rw [hq] at c HX
          rw [bnd_ok] at HX
          refine c.mono ?_
          rintro e w34 ⟨v34,rfl,ht34,hI34,hk34⟩
          have hK34:=hK33.trans hk34
          clear c hq
          replace hbx:=Blk.kp hbx hk34 hbx.lt (by omega)
          replace ht:=TrIn.kpB ht hk34 (by omega)
          have hz34:=ht34
          replace ht34:=TrIn.toB ht34 hK33.size (by omega)
          obtain⟨vk34,vn34,rfl,hf34,ka34,kc34,rfl⟩:=TrIn.form ht34
          obtain⟨na34,nc34,rfl⟩:=hf34.form
          clear hf34
          refine hKK _ _ ?_
          clear hKK KK
          refine wpAny_ready (rs:=[4]) (by kernel_rfl) (by simp) ?_
          refine AllReady.cons rfl (fun KK hKK=>?_) AllReady.nil
          go_simp
          refine (two_any 6 t t34 _ _ (But w1.heap.size x) w34 ht ht34 (fun y hy=>⟨by have:=hK34.size;omega,by have:=hbx.lt;omega⟩)).mono ?_
          rintro e w35 ⟨v35,rfl,hT,hb35⟩
          have hI35:=hI34.below hb35
          have hK35:=chainK hK34 hb35
          have hk35:=Kp.of_below (b:=r.b) hb35
          replace hbx:=Blk.kp hbx hk35 hbx.lt (by omega)
          replace ht:=TrIn.kpB ht hk35 (by omega)
          replace ht34:=TrIn.kpB ht34 hk35 (by omega)
          obtain⟨T,hTe⟩:∃ T,T=two 6 t t34:=⟨_,rfl⟩
          rw [← hTe] at hT HX
          clear hTe ht ht34
          obtain⟨vkT,vnT,rfl,hfT,kaT,kcT,rfl⟩:=TrIn.form hT
          obtain⟨naT,ncT,rfl⟩:=hfT.form
          clear hfT
          refine hKK _ _ ?_
          clear hKK KK
          refine wpAny_ready (rs:=[5]) (by kernel_rfl) (by simp) ?_
          refine AllReady.cons rfl (fun KK hKK=>?_) AllReady.nil
          obtain⟨c0,c1,c2,c3,c4,f0,f1,f2,f3,f4⟩:=hbx.cells
          go_simp
          clear c0 c1 c2 c3 c4 f0 f1 f2 f3 f4
          obtain⟨w36,hw⟩:∃ w0,w0=((((w35.setCell ⟨x,0,none⟩ (.int .i64 (T.kind:Nat))).setCell ⟨x,1,none⟩ (.string (bs T.name))).setCell ⟨x,2,none⟩ (.slice kaT T.kids.length kcT)).setCell ⟨x,3,none⟩ (.slice naT T.names.length ncT)).setCell ⟨x,4,none⟩ (.int .i64 (T.at_:Nat)):=⟨_,rfl⟩
          rw [← hw]
          have hI36:r.In w36 (R34):=by rw [hw];exact hI35.put5 (by omega) _ _ _ _ _
          have hK36:Kp r.b w1 w36:=by rw [hw];exact hK35.put5 hxge _ _ _ _ _
          have hbx2:Blk w36 x (.int .i64 (T.kind:Nat)) (.string (bs T.name)) (.slice kaT T.kids.length kcT) (.slice naT T.names.length ncT) (.int .i64 (T.at_:Nat)):=by rw [hw];exact blk_put w35 x _ _ _ _ _ _ _ _ _ _ hbx
          clear hbx
          have hbx:=hbx2
          clear hbx2
          replace hT:=TrIn.putE hT hw
          clear hw
          refine hKK _ _ ?_
          clear hKK KK
          refine wpAny_done (by kernel_rfl) ?_ _
          go_wp2_with fail
          go_roundg k
          case measure=>omega
          case rel=>exact⟨T,R34,⟨kaT,kcT,naT,ncT,hbx,hT⟩,hI36,hK36,⟨by have:=HF.out;omega,HX.out⟩⟩
        ·skip
         go_simp
         have hN37:NF (atomP r.e k l (R')):=NF.left (by have h:=hNF;rw [← HX.out] at h;exact h)
         have c:=iha k (by have:=HF.out;omega) l (R') w33 (by omega) hI33 hN37
         have hxl37:=hbx.lt
         cases hq:atomP r.e k l (R') using Rs.cs with
         | bad p y =>
          rw [hq] at c HX
          refine c.mono ?_
          rintro e w37 ⟨rfl,hb⟩
          exact⟨rfl,rule_bad HX.out.symm hB1 hK33 hlt hb⟩
         | ok t37 R37 =>
          rw [hq] at c HX
          rw [bnd_ok] at HX
          refine c.mono ?_
          rintro e w37 ⟨v37,rfl,ht37,hI37,hk37⟩
          have hK37:=hK33.trans hk37
          clear c hq
          replace hbx:=Blk.kp hbx hk37 hbx.lt (by omega)
          replace ht:=TrIn.kpB ht hk37 (by omega)
          have hz37:=ht37
          replace ht37:=TrIn.toB ht37 hK33.size (by omega)
          obtain⟨vk37,vn37,rfl,hf37,ka37,kc37,rfl⟩:=TrIn.form ht37
          obtain⟨na37,nc37,rfl⟩:=hf37.form
          clear hf37
          refine hKK _ _ ?_
          clear hKK KK
          refine wpAny_ready (rs:=[0]) (by kernel_rfl) (by simp) ?_
          refine AllReady.cons rfl (fun KK hKK=>?_) AllReady.nil
          obtain⟨c0,c1,c2,c3,c4,_⟩:=hbx.cells
          go_simp
          clear c0 c1 c2 c3 c4
          refine hKK _ _ ?_
          clear hKK KK
          refine wpAny_ready (rs:=[4]) (by kernel_rfl) (by simp) ?_
          refine AllReady.cons rfl (fun KK hKK=>?_) AllReady.nil
          go_simp
          refine (two_any 6 t t37 _ _ (But w1.heap.size x) w37 ht ht37 (fun y hy=>⟨by have:=hK37.size;omega,by have:=hbx.lt;omega⟩)).mono ?_
          rintro e w38 ⟨v38,rfl,hT,hb38⟩
          have hI38:=hI37.below hb38
          have hK38:=chainK hK37 hb38
          have hk38:=Kp.of_below (b:=r.b) hb38
          replace hbx:=Blk.kp hbx hk38 hbx.lt (by omega)
          replace ht:=TrIn.kpB ht hk38 (by omega)
          replace ht37:=TrIn.kpB ht37 hk38 (by omega)
          obtain⟨T,hTe⟩:∃ T,T=two 6 t t37:=⟨_,rfl⟩
          rw [← hTe] at hT HX
          clear hTe ht ht37
          obtain⟨vkT,vnT,rfl,hfT,kaT,kcT,rfl⟩:=TrIn.form hT
          obtain⟨naT,ncT,rfl⟩:=hfT.form
          clear hfT
          refine hKK _ _ ?_
          clear hKK KK
          refine wpAny_ready (rs:=[5]) (by kernel_rfl) (by simp) ?_
          refine AllReady.cons rfl (fun KK hKK=>?_) AllReady.nil
          obtain⟨c0,c1,c2,c3,c4,f0,f1,f2,f3,f4⟩:=hbx.cells
          go_simp
          clear c0 c1 c2 c3 c4 f0 f1 f2 f3 f4
          obtain⟨w39,hw⟩:∃ w0,w0=((((w38.setCell ⟨x,0,none⟩ (.int .i64 (T.kind:Nat))).setCell ⟨x,1,none⟩ (.string (bs T.name))).setCell ⟨x,2,none⟩ (.slice kaT T.kids.length kcT)).setCell ⟨x,3,none⟩ (.slice naT T.names.length ncT)).setCell ⟨x,4,none⟩ (.int .i64 (T.at_:Nat)):=⟨_,rfl⟩
          rw [← hw]
          have hI39:r.In w39 (R37):=by rw [hw];exact hI38.put5 (by omega) _ _ _ _ _
          have hK39:Kp r.b w1 w39:=by rw [hw];exact hK38.put5 hxge _ _ _ _ _
          have hbx2:Blk w39 x (.int .i64 (T.kind:Nat)) (.string (bs T.name)) (.slice kaT T.kids.length kcT) (.slice naT T.names.length ncT) (.int .i64 (T.at_:Nat)):=by rw [hw];exact blk_put w38 x _ _ _ _ _ _ _ _ _ _ hbx
          clear hbx
          have hbx:=hbx2
          clear hbx2
          replace hT:=TrIn.putE hT hw
          clear hw
          refine hKK _ _ ?_
          clear hKK KK
          refine wpAny_done (by kernel_rfl) ?_ _
          go_wp2_with fail
          go_roundg k
          case measure=>omega
          case rel=>exact⟨T,R37,⟨kaT,kcT,naT,ncT,hbx,hT⟩,hI39,hK39,⟨by have:=HF.out;omega,HX.out⟩⟩
       | false =>
        have c:=sees_any [91] r w31 (R') hI31 hwf
        rw [h9n] at c
        go_wp2_with fail
        refine (c).mono ?_
        rintro e w40 ⟨rfl,hb40⟩
        have hI40:=hI31.below hb40
        have hK40:=chainK hK31 hb40
        have hk40:=Kp.of_below (b:=r.b) hb40
        replace hbx:=Blk.kp hbx hk40 hbx.lt (by omega)
        replace ht:=TrIn.kpB ht hk40 (by omega)
        clear hb40 hk40
        clear c
        rw [if_neg (by rw [hNn,h4n,h9n];simp)] at HX
        obtain⟨c0,c1,c2,c3,c4,_⟩:=hbx.cells
        obtain⟨o0,o1,o2,o3,o4,z0,z1,z2,z3,z4⟩:=Blk.cells (hh1.kp hK40 hn1 hlt)
        go_wp2_with fail
        exact⟨rfl,.agg #[.int .i64 (t.kind:Nat),.string (bs t.name),.slice ka t.kids.length kc,.slice na t.names.length nc,.int .i64 (t.at_:Nat)],by simp [results,Tryz.results35,go_sem, *],rule_end (n:=w.heap.size) HX.out.symm hB1 rfl hn1 hI40 hlt hK40 (TrIn.fromB ht) _ _ _ _ _⟩
end Go.Proofs.YtahnbigkdfmpbaaGreatDoor
