/- Binders. -/
import Derived.Deep.RegionWith
import Derived.Test.YtahnbigkdfmpbaaGreatDoorIPB
import Derived.Test.YtahnbigkdfmpbaaGreatDoorIPRow
set_option linter.unusedVariables false
set_option linter.unusedSimpArgs false
namespace Go.Proofs.YtahnbigkdfmpbaaGreatDoor
open Go.RowKit
set_option maxRecDepth 100000 in
set_option maxHeartbeats 4000000 in
theorem binder_step (r:Rdr) (hwf:r.wf) (f:Nat) (iht:RuleC r 18 (termP r.e f)):BinderC r (f+1):=by
 intro l R w hl hR hse hNF
 obtain⟨X,hX⟩:∃ X,binderP r.e (f+1) l R=X:=⟨_,rfl⟩
 rw [hX] at hNF ⊢
 rw [binderP_s] at hX
 have HX:Hid (_=X):=hX
 clear hX
 have hlt:=hR.lt.2
 obtain⟨w1,hw1⟩:∃ w1,w1=w.alloc (.cells #[.int .i64 0,.string ⟨#[]⟩,.slice none 0 0,.slice none 0 0,.int .i64 0] 26):=⟨_,rfl⟩
 have hB1:Below w.heap.size w w1:=by rw [hw1];exact below_alloc _ _
 have hh1:Hole w1 w.heap.size:=by rw [hw1];exact hole_new w
 have hn1:w.heap.size<w1.heap.size:=by rw [hw1];simp
 have hI1:=hR.below hB1
 have hK1:=Kp.refl r.b w1
 have Hw1:Hid (_=_):=hw1
 clear hw1
 go_enter Tryz.func34,Tryz.ntmps34
 go_wp2_with fail
 rw [← Hw1.out]
 clear Hw1
 have g1:IntKind.i64.wrap ((l:Int) + 1)=(l:Int) + 1:=wrap_in (by omega) (by omega)
 go_wp2_with fail
 refine (at_any r w1 (R) hI1 hwf).mono ?_
 rintro e w2 ⟨rfl,hb2⟩
 have hI2:=hI1.below hb2
 have hK2:=chainK hK1 hb2
 have hk2:=Kp.of_below (b:=r.b) hb2
 clear hb2 hk2
 have c:=must_any [40] (by simp) r w2 R hI2 hwf
 rw [mustP_t hse] at c
 go_wp2_with fail
 refine c.mono ?_
 rintro e w3 ⟨v3,rfl,rfl,hI3,hk3⟩
 have hK3:=hK2.trans hk3
 clear c
 have c:=name_any r w3 (R.tail) hI3 hwf
 cases hq:nameP r.e (R.tail) using Rs.cs with
 | bad p y =>
  rw [hq] at c HX
  go_wp2_with fail
  refine c.mono ?_
  rintro e w4 ⟨rfl,hb⟩
  exact⟨rfl,rule_bad HX.out.symm hB1 hK3 hlt hb⟩
 | ok t4 R4 =>
  rw [hq] at c HX
  rw [bnd_ok] at HX
  go_wp2_with fail
  refine c.mono ?_
  rintro e w4 ⟨v4,rfl,rfl,hI4,hk4⟩
  have hK4:=hK3.trans hk4
  clear c hq
  go_wp2_with fail
  have hal:=below_alloc w4 (.cells #[.string (bs t4)] 9)
  have hkl:=Kp.of_below (b:=r.b) hal
  obtain⟨w5,hw5⟩:∃ w0,w0=w4.alloc (.cells #[.string (bs t4)] 9):=⟨_,rfl⟩
  rw [← hw5] at hal hkl ⊢
  have hI5:=hI4.below hal
  have hK5:=chainK hK4 hal
  have Hw5:Hid (_=_):=hw5
  clear hw5
  have hm:NmIn (From w1.heap.size) w5 [t4] (.slice (some ⟨w4.heap.size,0,none⟩) 1 1):=by rw [Hw5.out];exact NmIn.from (names_one w4 t4) hK4.size
  clear hal hkl Hw5
  have c:=must_any [58] (by simp) r w5 (R4) hI5 hwf
  cases hq:mustP r.e [58] (R4) using Rs.cs with
  | bad p y =>
   rw [hq] at c HX
   go_wp2_with fail
   refine c.mono ?_
   rintro e w6 ⟨rfl,hb⟩
   exact⟨rfl,rule_bad HX.out.symm hB1 hK5 hlt hb⟩
  | ok t6 R6 =>
   rw [hq] at c HX
   rw [bnd_ok] at HX
   go_wp2_with fail
   refine c.mono ?_
   rintro e w6 ⟨v6,rfl,rfl,hI6,hk6⟩
   have hK6:=hK5.trans hk6
   clear c hq
   replace hm:=NmIn.kp hm hk6 (by omega)
   have hN7:NF (termP r.e f (l+1) (R6)):=NF.left (by have h:=hNF;rw [← HX.out] at h;exact h)
   have c:=iht (l+1) (R6) w6 (by omega) hI6 hN7
   rw [castS] at c
   cases hq:termP r.e f (l+1) (R6) using Rs.cs with
   | bad p y =>
    rw [hq] at c HX
    go_wp2_with fail
    refine c.mono ?_
    rintro e w7 ⟨rfl,hb⟩
    exact⟨rfl,rule_bad HX.out.symm hB1 hK6 hlt hb⟩
   | ok t7 R7 =>
    rw [hq] at c HX
    rw [bnd_ok] at HX
    go_wp2_with fail
    refine c.mono ?_
    rintro e w7 ⟨v7,rfl,ht7,hI7,hk7⟩
    have hK7:=hK6.trans hk7
    clear c hq
    replace hm:=NmIn.kp hm hk7 (by omega)
    replace ht7:=TrIn.from ht7 hK6.size
    obtain⟨vk7,vn7,rfl,hf7,ka7,kc7,rfl⟩:=TrIn.form ht7
    obtain⟨na7,nc7,rfl⟩:=hf7.form
    clear hf7
    go_wp2_with fail
    have hal:=below_alloc w7 (.cells #[.int .i64 (t7.kind:Nat),.string (bs t7.name),.slice ka7 t7.kids.length kc7,.slice na7 t7.names.length nc7,.int .i64 (t7.at_:Nat)] 26)
    have hbx:=blk_new w7 (.int .i64 (t7.kind:Nat)) (.string (bs t7.name)) (.slice ka7 t7.kids.length kc7) (.slice na7 t7.names.length nc7) (.int .i64 (t7.at_:Nat))
    have hxge:=hK7.size
    obtain⟨w8,hw⟩:∃ w0,w0=w7.alloc (.cells #[.int .i64 (t7.kind:Nat),.string (bs t7.name),.slice ka7 t7.kids.length kc7,.slice na7 t7.names.length nc7,.int .i64 (t7.at_:Nat)] 26):=⟨_,rfl⟩
    rw [← hw] at hal hbx ⊢
    clear hw
    have hI8:=hI7.below hal
    have hK8:=chainK hK7 hal
    replace hm:=NmIn.ahead hm (Nat.le_refl _) hal
    replace ht7:=TrIn.ahead ht7 (Nat.le_refl _) hal
    clear hal
    obtain⟨x,hx⟩:∃ x,x=w7.heap.size:=⟨_,rfl⟩
    rw [← hx] at hm ht7 hbx hxge ⊢
    clear hx
    obtain⟨t,het⟩:∃ t,t=t7:=⟨_,rfl⟩
    rw [← het] at hbx ht7 HX ⊢
    clear het
    have ht:=ht7
    clear ht7
    have c:=must_any [41] (by simp) r w8 (R7) hI8 hwf
    have hxl9:=hbx.lt
    cases hq:mustP r.e [41] (R7) using Rs.cs with
    | bad p y =>
     rw [hq] at c HX
     go_wp2_with fail
     refine c.mono ?_
     rintro e w9 ⟨rfl,hb⟩
     exact⟨rfl,rule_bad HX.out.symm hB1 hK8 hlt hb⟩
    | ok t9 R9 =>
     rw [hq] at c HX
     rw [bnd_ok] at HX
     go_wp2_with fail
     refine c.mono ?_
     rintro e w9 ⟨v9,rfl,rfl,hI9,hk9⟩
     have hK9:=hK8.trans hk9
     clear c hq
     replace hm:=NmIn.kpB hm hk9 (by omega)
     replace hbx:=Blk.kp hbx hk9 hbx.lt (by omega)
     replace ht:=TrIn.kpB ht hk9 (by omega)
     go_wp2_with fail
     refine (arrow_any r w9 (R9) hI9 hwf).mono ?_
     rintro e w10 ⟨rfl,hI10,hk10⟩
     have hK10:=hK9.trans hk10
     replace hm:=NmIn.kpB hm hk10 (by omega)
     replace hbx:=Blk.kp hbx hk10 hbx.lt (by omega)
     replace ht:=TrIn.kpB ht hk10 (by omega)
     replace ht:=TrIn.fromB ht
     replace hm:=NmIn.fromB hm
     go_wp2_with fail
     obtain⟨w11,hw11⟩:∃ w0,w0=w10.drew:=⟨_,rfl⟩
     have hB11:Below w10.heap.size w10 w11:=by rw [hw11];exact Below.drew (Below.refl _ _)
     have hI11:=hI10.below hB11
     have hK11:=chainK hK10 hB11
     have hk11:=Kp.of_below (b:=r.b) hB11
     refine wp_region_any (by kernel_rfl) ?_
     change wpAny _ _ _ _ _ _ _ (World.drew _)
     rw [← hw11]
     clear hw11
     replace hm:=NmIn.kp hm hk11 (by omega)
     replace hbx:=Blk.kp hbx hk11 hbx.lt (by omega)
     replace ht:=TrIn.kp ht hk11 (by omega)
     clear hB11 hk11
     refine wpAny_take (i:=0) (v:=.int .i64 (arrK R9:Nat)) rfl (by kernel_rfl) (by kernel_rfl) (by kernel_rfl) (fun _ _ _ h=>h) (Or.inl ⟨by rfl,fun w=>by go_simp⟩) ?_
     simp only [Act.put,List.setIfInBounds_toArray,List.set_cons_zero,List.set_cons_succ]
     refine wpAny_take (i:=2) (v:=r.ptr) rfl (by kernel_rfl) (by kernel_rfl) (by kernel_rfl) (fun _ _ _ h=>h) (Or.inl ⟨by rfl,fun w=>by go_simp⟩) ?_
     simp only [Act.put,List.setIfInBounds_toArray,List.set_cons_zero,List.set_cons_succ]
     refine wpAny_take (i:=3) (v:=.int .i64 (l:Nat)) rfl (by kernel_rfl) (by kernel_rfl) (by kernel_rfl) (fun _ _ _ h=>h) (Or.inl ⟨by rfl,fun w=>by go_simp⟩) ?_
     simp only [Act.put,List.setIfInBounds_toArray,List.set_cons_zero,List.set_cons_succ]
     refine wpAny_take (i:=4) (v:=.int .i64 ((l:Int) + 1)) rfl (by kernel_rfl) (by kernel_rfl) (by kernel_rfl) (fun _ _ _ h=>h) (Or.inl ⟨by rfl,fun w=>by go_simp⟩) ?_
     simp only [Act.put,List.setIfInBounds_toArray,List.set_cons_zero,List.set_cons_succ]
     refine wpAny_ready (rs:=[1,5,7]) (by kernel_rfl) (by simp) ?_
     refine AllReady.cons rfl (fun KK hKK=>?_) (AllReady.cons rfl (fun KK hKK=>?_) (AllReady.cons rfl (fun KK hKK=>?_) AllReady.nil))
     ·skip
      obtain⟨c0,c1,c2,c3,c4,_⟩:=hbx.cells
      go_simp
      clear c0 c1 c2 c3 c4
      refine hKK _ _ ?_
      clear hKK KK
      refine wpAny_ready (rs:=[5,7]) (by kernel_rfl) (by simp) ?_
      refine AllReady.cons rfl (fun KK hKK=>?_) (AllReady.cons rfl (fun KK hKK=>?_) AllReady.nil)
      ·skip
       go_simp
       have hxl:=hbx.lt
       have hNu:NF (termP r.e f (l+1) (arrR R9)):=NF.left (by have h:=hNF;rw [← HX.out] at h;exact h)
       have c:=iht (l+1) (arrR R9) w11 (by omega) hI11 hNu
       rw [castS] at c
       cases hq:termP r.e f (l+1) (arrR R9) using Rs.cs with
       | bad p z =>
        rw [hq] at c HX
        refine c.mono ?_
        rintro e w12 ⟨rfl,hb⟩
        exact⟨rfl,rule_bad HX.out.symm hB1 hK11 hlt hb⟩
       | ok u R12 =>
        rw [hq] at c HX
        rw [bnd_ok] at HX
        refine c.mono ?_
        rintro e w12 ⟨vu,rfl,hu,hI12,hk12⟩
        have hK12:=hK11.trans hk12
        clear c hq hNu
        replace hm:=NmIn.kp hm hk12 (by omega)
        replace hbx:=Blk.kp hbx hk12 hbx.lt (by omega)
        replace ht:=TrIn.kp ht hk12 (by omega)
        replace hu:=TrIn.from hu hK11.size
        obtain⟨vku,vnu,rfl,hfu,kau,kcu,rfl⟩:=TrIn.form hu
        obtain⟨nau,ncu,rfl⟩:=hfu.form
        clear hfu
        refine hKK _ _ ?_
        clear hKK KK
        refine wpAny_ready (rs:=[6,7]) (by kernel_rfl) (by simp) ?_
        refine AllReady.cons rfl (fun KK hKK=>?_) (AllReady.cons rfl (fun KK hKK=>?_) AllReady.nil)
        ·skip
         go_simp
         refine (two_any (arrK R9) t u _ _ (From w1.heap.size) w12 ht hu (fun z hz=>Nat.le_trans hK12.size hz)).mono ?_
         rintro e w13 ⟨vT,rfl,hT,hb13⟩
         have hI13:=hI12.below hb13
         have hK13:=chainK hK12 hb13
         have hk13:=Kp.of_below (b:=r.b) hb13
         replace hm:=NmIn.kp hm hk13 (by omega)
         replace hbx:=Blk.kp hbx hk13 hbx.lt (by omega)
         replace ht:=TrIn.kp ht hk13 (by omega)
         replace hu:=TrIn.kp hu hk13 (by omega)
         obtain⟨T,hTe⟩:∃ T,T=two (arrK R9) t u:=⟨_,rfl⟩
         rw [← hTe] at hT
         have HTe:Hid (T=two (arrK R9) t u):=hTe
         clear hTe
         obtain⟨vkT,vnT,rfl,hfT,kaT,kcT,rfl⟩:=TrIn.form hT
         obtain⟨naT,ncT,rfl⟩:=hfT.form
         clear hfT
         refine hKK _ _ ?_
         clear hKK KK
         refine wpAny_ready (rs:=[7]) (by kernel_rfl) (by simp) ?_
         refine AllReady.cons rfl (fun KK hKK=>?_) AllReady.nil
         go_simp
         have hal:=below_alloc w13 (.cells #[.int .i64 0,.string ⟨#[]⟩,.slice none 0 0,.slice none 0 0,.int .i64 0] 26)
         have hby:=hole_new w13
         have hyge:=hK13.size
         obtain⟨w14,hw⟩:∃ w0,w0=w13.alloc (.cells #[.int .i64 0,.string ⟨#[]⟩,.slice none 0 0,.slice none 0 0,.int .i64 0] 26):=⟨_,rfl⟩
         rw [← hw] at hal hby ⊢
         clear hw
         have hI14:=hI13.below hal
         have hK14:=chainK hK13 hal
         replace hbx:=Blk.blw hbx hal hbx.lt
         replace hm:=NmIn.ahead hm (Nat.le_refl _) hal
         replace ht:=TrIn.ahead ht (Nat.le_refl _) hal
         replace hu:=TrIn.ahead hu (Nat.le_refl _) hal
         replace hT:=TrIn.ahead hT (Nat.le_refl _) hal
         clear hal
         obtain⟨y,hy⟩:∃ y,y=w13.heap.size:=⟨_,rfl⟩
         rw [← hy] at hm ht hu hT hby hyge ⊢
         clear hy
         refine hKK _ _ ?_
         clear hKK KK
         refine wpAny_ready (rs:=[8]) (by kernel_rfl) (by simp) ?_
         refine AllReady.cons rfl (fun KK hKK=>?_) AllReady.nil
         obtain⟨c0,c1,c2,c3,c4,f0,f1,f2,f3,f4⟩:=hby.cells
         go_simp
         clear c0 c1 c2 c3 c4 f0 f1 f2 f3 f4
         obtain⟨w15,hw⟩:∃ w0,w0=((((w14.setCell ⟨y,0,none⟩ (.int .i64 (T.kind:Nat))).setCell ⟨y,1,none⟩ (.string (bs T.name))).setCell ⟨y,2,none⟩ (.slice kaT T.kids.length kcT)).setCell ⟨y,3,none⟩ (.slice naT T.names.length ncT)).setCell ⟨y,4,none⟩ (.int .i64 (T.at_:Nat)):=⟨_,rfl⟩
         rw [← hw]
         have hI15:r.In w15 (R12):=by rw [hw];exact hI14.put5 (by omega) _ _ _ _ _
         have hK15:Kp r.b w1 w15:=by rw [hw];exact hK14.put5 hyge _ _ _ _ _
         have hby2:Blk w15 y (.int .i64 (T.kind:Nat)) (.string (bs T.name)) (.slice kaT T.kids.length kcT) (.slice naT T.names.length ncT) (.int .i64 (T.at_:Nat)):=by rw [hw];exact blk_put w14 y _ _ _ _ _ _ _ _ _ _ hby
         clear hby
         have hby:=hby2
         clear hby2
         replace hT:=TrIn.putE hT hw
         replace hm:=NmIn.putE hm hw
         clear hw ht hu hbx
         refine hKK _ _ ?_
         clear hKK KK
         refine wpAny_done (by kernel_rfl) ?_ _
         obtain⟨c0,c1,c2,c3,c4,f0,f1,f2,f3,f4⟩:=hby.cells
         have hyn:¬ y=w.heap.size:=by omega
         have hyn2:¬ w.heap.size=y:=by omega
         obtain⟨o0,o1,o2,o3,o4,z0,z1,z2,z3,z4⟩:=Blk.cells (hh1.kp hK15 hn1 hlt)
         have hTT:TrIn (But w1.heap.size y) w15 (.mk (arrK R9) [] [t,u] [t4] (atP r.e R)) (.agg #[.int .i64 (T.kind:Nat),.string (bs T.name),.slice kaT T.kids.length kcT,.slice (some ⟨w4.heap.size,0,none⟩) 1 1,.int .i64 (atP r.e R:Nat)]):=rename_two (by rw [← HTe.out];exact hT) [t4] (atP r.e R) hm
         go_wp2_with fail
         exact⟨rfl,.agg #[.int .i64 (T.kind:Nat),.string (bs T.name),.slice kaT T.kids.length kcT,.slice (some ⟨w4.heap.size,0,none⟩) 1 1,.int .i64 (atP r.e R:Nat)],by simp [results,Tryz.results34,go_sem, *],rule_end (n:=w.heap.size) HX.out.symm hB1 rfl hn1 ((hI15.put (by omega) _).put (by omega) _) hlt ((hK15.setCell (.inr hyge) _).setCell (.inr hyge) _) (TrIn.fromB (TrIn.putB (TrIn.putB hTT _) _)) _ _ _ _ _⟩
        ·skip
         go_simp
         have hal:=below_alloc w12 (.cells #[.int .i64 0,.string ⟨#[]⟩,.slice none 0 0,.slice none 0 0,.int .i64 0] 26)
         have hby:=hole_new w12
         have hyge:=hK12.size
         obtain⟨w16,hw⟩:∃ w0,w0=w12.alloc (.cells #[.int .i64 0,.string ⟨#[]⟩,.slice none 0 0,.slice none 0 0,.int .i64 0] 26):=⟨_,rfl⟩
         rw [← hw] at hal hby ⊢
         clear hw
         have hI16:=hI12.below hal
         have hK16:=chainK hK12 hal
         replace hbx:=Blk.blw hbx hal hbx.lt
         replace hm:=NmIn.ahead hm (Nat.le_refl _) hal
         replace ht:=TrIn.ahead ht (Nat.le_refl _) hal
         replace hu:=TrIn.ahead hu (Nat.le_refl _) hal
         clear hal
         obtain⟨y,hy⟩:∃ y,y=w12.heap.size:=⟨_,rfl⟩
         rw [← hy] at hm ht hu hby hyge ⊢
         clear hy
         refine hKK _ _ ?_
         clear hKK KK
         refine wpAny_ready (rs:=[6]) (by kernel_rfl) (by simp) ?_
         refine AllReady.cons rfl (fun KK hKK=>?_) AllReady.nil
         go_simp
         refine (two_any (arrK R9) t u _ _ (But w1.heap.size y) w16 ht hu (fun z hz=>⟨by have:=hK16.size;omega,by have:=hby.lt;omega⟩)).mono ?_
         rintro e w17 ⟨vT,rfl,hT,hb17⟩
         have hI17:=hI16.below hb17
         have hK17:=chainK hK16 hb17
         have hk17:=Kp.of_below (b:=r.b) hb17
         replace hm:=NmIn.kpB hm hk17 (by omega)
         replace hbx:=Blk.kp hbx hk17 hbx.lt (by omega)
         replace ht:=TrIn.kpB ht hk17 (by omega)
         replace hu:=TrIn.kpB hu hk17 (by omega)
         replace hby:=Blk.kp hby hk17 hby.lt (by omega)
         obtain⟨T,hTe⟩:∃ T,T=two (arrK R9) t u:=⟨_,rfl⟩
         rw [← hTe] at hT
         have HTe:Hid (T=two (arrK R9) t u):=hTe
         clear hTe
         obtain⟨vkT,vnT,rfl,hfT,kaT,kcT,rfl⟩:=TrIn.form hT
         obtain⟨naT,ncT,rfl⟩:=hfT.form
         clear hfT
         refine hKK _ _ ?_
         clear hKK KK
         refine wpAny_ready (rs:=[8]) (by kernel_rfl) (by simp) ?_
         refine AllReady.cons rfl (fun KK hKK=>?_) AllReady.nil
         obtain⟨c0,c1,c2,c3,c4,f0,f1,f2,f3,f4⟩:=hby.cells
         go_simp
         clear c0 c1 c2 c3 c4 f0 f1 f2 f3 f4
         obtain⟨w18,hw⟩:∃ w0,w0=((((w17.setCell ⟨y,0,none⟩ (.int .i64 (T.kind:Nat))).setCell ⟨y,1,none⟩ (.string (bs T.name))).setCell ⟨y,2,none⟩ (.slice kaT T.kids.length kcT)).setCell ⟨y,3,none⟩ (.slice naT T.names.length ncT)).setCell ⟨y,4,none⟩ (.int .i64 (T.at_:Nat)):=⟨_,rfl⟩
         rw [← hw]
         have hI18:r.In w18 (R12):=by rw [hw];exact hI17.put5 (by omega) _ _ _ _ _
         have hK18:Kp r.b w1 w18:=by rw [hw];exact hK17.put5 hyge _ _ _ _ _
         have hby2:Blk w18 y (.int .i64 (T.kind:Nat)) (.string (bs T.name)) (.slice kaT T.kids.length kcT) (.slice naT T.names.length ncT) (.int .i64 (T.at_:Nat)):=by rw [hw];exact blk_put w17 y _ _ _ _ _ _ _ _ _ _ hby
         clear hby
         have hby:=hby2
         clear hby2
         replace hT:=TrIn.putE hT hw
         replace hm:=NmIn.putE hm hw
         clear hw ht hu hbx
         refine hKK _ _ ?_
         clear hKK KK
         refine wpAny_done (by kernel_rfl) ?_ _
         obtain⟨c0,c1,c2,c3,c4,f0,f1,f2,f3,f4⟩:=hby.cells
         have hyn:¬ y=w.heap.size:=by omega
         have hyn2:¬ w.heap.size=y:=by omega
         obtain⟨o0,o1,o2,o3,o4,z0,z1,z2,z3,z4⟩:=Blk.cells (hh1.kp hK18 hn1 hlt)
         have hTT:TrIn (But w1.heap.size y) w18 (.mk (arrK R9) [] [t,u] [t4] (atP r.e R)) (.agg #[.int .i64 (T.kind:Nat),.string (bs T.name),.slice kaT T.kids.length kcT,.slice (some ⟨w4.heap.size,0,none⟩) 1 1,.int .i64 (atP r.e R:Nat)]):=rename_two (by rw [← HTe.out];exact hT) [t4] (atP r.e R) hm
         go_wp2_with fail
         exact⟨rfl,.agg #[.int .i64 (T.kind:Nat),.string (bs T.name),.slice kaT T.kids.length kcT,.slice (some ⟨w4.heap.size,0,none⟩) 1 1,.int .i64 (atP r.e R:Nat)],by simp [results,Tryz.results34,go_sem, *],rule_end (n:=w.heap.size) HX.out.symm hB1 rfl hn1 ((hI18.put (by omega) _).put (by omega) _) hlt ((hK18.setCell (.inr hyge) _).setCell (.inr hyge) _) (TrIn.fromB (TrIn.putB (TrIn.putB hTT _) _)) _ _ _ _ _⟩
      ·skip
       go_simp
       have hal:=below_alloc w11 (.cells #[.int .i64 0,.string ⟨#[]⟩,.slice none 0 0,.slice none 0 0,.int .i64 0] 26)
       have hby:=hole_new w11
       have hyge:=hK11.size
       obtain⟨w19,hw⟩:∃ w0,w0=w11.alloc (.cells #[.int .i64 0,.string ⟨#[]⟩,.slice none 0 0,.slice none 0 0,.int .i64 0] 26):=⟨_,rfl⟩
       rw [← hw] at hal hby ⊢
       clear hw
       have hI19:=hI11.below hal
       have hK19:=chainK hK11 hal
       replace hbx:=Blk.blw hbx hal hbx.lt
       replace hm:=NmIn.ahead hm (Nat.le_refl _) hal
       replace ht:=TrIn.ahead ht (Nat.le_refl _) hal
       clear hal
       obtain⟨y,hy⟩:∃ y,y=w11.heap.size:=⟨_,rfl⟩
       rw [← hy] at hm ht hby hyge ⊢
       clear hy
       refine hKK _ _ ?_
       clear hKK KK
       refine wpAny_ready (rs:=[5]) (by kernel_rfl) (by simp) ?_
       refine AllReady.cons rfl (fun KK hKK=>?_) AllReady.nil
       go_simp
       have hyl:=hby.lt
       have hxl:=hbx.lt
       have hNu:NF (termP r.e f (l+1) (arrR R9)):=NF.left (by have h:=hNF;rw [← HX.out] at h;exact h)
       have c:=iht (l+1) (arrR R9) w19 (by omega) hI19 hNu
       rw [castS] at c
       cases hq:termP r.e f (l+1) (arrR R9) using Rs.cs with
       | bad p z =>
        rw [hq] at c HX
        refine c.mono ?_
        rintro e w20 ⟨rfl,hb⟩
        exact⟨rfl,rule_bad HX.out.symm hB1 hK19 hlt hb⟩
       | ok u R20 =>
        rw [hq] at c HX
        rw [bnd_ok] at HX
        refine c.mono ?_
        rintro e w20 ⟨vu,rfl,hu,hI20,hk20⟩
        have hK20:=hK19.trans hk20
        clear c hq hNu
        replace hm:=NmIn.kpB hm hk20 (by omega)
        replace hbx:=Blk.kp hbx hk20 hbx.lt (by omega)
        replace ht:=TrIn.kpB ht hk20 (by omega)
        replace hby:=Blk.kp hby hk20 hby.lt (by omega)
        replace hu:=TrIn.toB hu hK19.size hyl
        obtain⟨vku,vnu,rfl,hfu,kau,kcu,rfl⟩:=TrIn.form hu
        obtain⟨nau,ncu,rfl⟩:=hfu.form
        clear hfu
        refine hKK _ _ ?_
        clear hKK KK
        refine wpAny_ready (rs:=[6]) (by kernel_rfl) (by simp) ?_
        refine AllReady.cons rfl (fun KK hKK=>?_) AllReady.nil
        go_simp
        refine (two_any (arrK R9) t u _ _ (But w1.heap.size y) w20 ht hu (fun z hz=>⟨by have:=hK20.size;omega,by have:=hby.lt;omega⟩)).mono ?_
        rintro e w21 ⟨vT,rfl,hT,hb21⟩
        have hI21:=hI20.below hb21
        have hK21:=chainK hK20 hb21
        have hk21:=Kp.of_below (b:=r.b) hb21
        replace hm:=NmIn.kpB hm hk21 (by omega)
        replace hbx:=Blk.kp hbx hk21 hbx.lt (by omega)
        replace ht:=TrIn.kpB ht hk21 (by omega)
        replace hby:=Blk.kp hby hk21 hby.lt (by omega)
        replace hu:=TrIn.kpB hu hk21 (by omega)
        obtain⟨T,hTe⟩:∃ T,T=two (arrK R9) t u:=⟨_,rfl⟩
        rw [← hTe] at hT
        have HTe:Hid (T=two (arrK R9) t u):=hTe
        clear hTe
        obtain⟨vkT,vnT,rfl,hfT,kaT,kcT,rfl⟩:=TrIn.form hT
        obtain⟨naT,ncT,rfl⟩:=hfT.form
        clear hfT
        refine hKK _ _ ?_
        clear hKK KK
        refine wpAny_ready (rs:=[8]) (by kernel_rfl) (by simp) ?_
        refine AllReady.cons rfl (fun KK hKK=>?_) AllReady.nil
        obtain⟨c0,c1,c2,c3,c4,f0,f1,f2,f3,f4⟩:=hby.cells
        go_simp
        clear c0 c1 c2 c3 c4 f0 f1 f2 f3 f4
        obtain⟨w22,hw⟩:∃ w0,w0=((((w21.setCell ⟨y,0,none⟩ (.int .i64 (T.kind:Nat))).setCell ⟨y,1,none⟩ (.string (bs T.name))).setCell ⟨y,2,none⟩ (.slice kaT T.kids.length kcT)).setCell ⟨y,3,none⟩ (.slice naT T.names.length ncT)).setCell ⟨y,4,none⟩ (.int .i64 (T.at_:Nat)):=⟨_,rfl⟩
        rw [← hw]
        have hI22:r.In w22 (R20):=by rw [hw];exact hI21.put5 (by omega) _ _ _ _ _
        have hK22:Kp r.b w1 w22:=by rw [hw];exact hK21.put5 hyge _ _ _ _ _
        have hby2:Blk w22 y (.int .i64 (T.kind:Nat)) (.string (bs T.name)) (.slice kaT T.kids.length kcT) (.slice naT T.names.length ncT) (.int .i64 (T.at_:Nat)):=by rw [hw];exact blk_put w21 y _ _ _ _ _ _ _ _ _ _ hby
        clear hby
        have hby:=hby2
        clear hby2
        replace hT:=TrIn.putE hT hw
        replace hm:=NmIn.putE hm hw
        clear hw ht hu hbx
        refine hKK _ _ ?_
        clear hKK KK
        refine wpAny_done (by kernel_rfl) ?_ _
        obtain⟨c0,c1,c2,c3,c4,f0,f1,f2,f3,f4⟩:=hby.cells
        have hyn:¬ y=w.heap.size:=by omega
        have hyn2:¬ w.heap.size=y:=by omega
        obtain⟨o0,o1,o2,o3,o4,z0,z1,z2,z3,z4⟩:=Blk.cells (hh1.kp hK22 hn1 hlt)
        have hTT:TrIn (But w1.heap.size y) w22 (.mk (arrK R9) [] [t,u] [t4] (atP r.e R)) (.agg #[.int .i64 (T.kind:Nat),.string (bs T.name),.slice kaT T.kids.length kcT,.slice (some ⟨w4.heap.size,0,none⟩) 1 1,.int .i64 (atP r.e R:Nat)]):=rename_two (by rw [← HTe.out];exact hT) [t4] (atP r.e R) hm
        go_wp2_with fail
        exact⟨rfl,.agg #[.int .i64 (T.kind:Nat),.string (bs T.name),.slice kaT T.kids.length kcT,.slice (some ⟨w4.heap.size,0,none⟩) 1 1,.int .i64 (atP r.e R:Nat)],by simp [results,Tryz.results34,go_sem, *],rule_end (n:=w.heap.size) HX.out.symm hB1 rfl hn1 ((hI22.put (by omega) _).put (by omega) _) hlt ((hK22.setCell (.inr hyge) _).setCell (.inr hyge) _) (TrIn.fromB (TrIn.putB (TrIn.putB hTT _) _)) _ _ _ _ _⟩
     ·skip
      go_simp
      have hxl:=hbx.lt
      have hNu:NF (termP r.e f (l+1) (arrR R9)):=NF.left (by have h:=hNF;rw [← HX.out] at h;exact h)
      have c:=iht (l+1) (arrR R9) w11 (by omega) hI11 hNu
      rw [castS] at c
      cases hq:termP r.e f (l+1) (arrR R9) using Rs.cs with
      | bad p z =>
       rw [hq] at c HX
       refine c.mono ?_
       rintro e w23 ⟨rfl,hb⟩
       exact⟨rfl,rule_bad HX.out.symm hB1 hK11 hlt hb⟩
      | ok u R23 =>
       rw [hq] at c HX
       rw [bnd_ok] at HX
       refine c.mono ?_
       rintro e w23 ⟨vu,rfl,hu,hI23,hk23⟩
       have hK23:=hK11.trans hk23
       clear c hq hNu
       replace hm:=NmIn.kp hm hk23 (by omega)
       replace hbx:=Blk.kp hbx hk23 hbx.lt (by omega)
       replace ht:=TrIn.kp ht hk23 (by omega)
       replace hu:=TrIn.from hu hK11.size
       obtain⟨vku,vnu,rfl,hfu,kau,kcu,rfl⟩:=TrIn.form hu
       obtain⟨nau,ncu,rfl⟩:=hfu.form
       clear hfu
       refine hKK _ _ ?_
       clear hKK KK
       refine wpAny_ready (rs:=[1,7]) (by kernel_rfl) (by simp) ?_
       refine AllReady.cons rfl (fun KK hKK=>?_) (AllReady.cons rfl (fun KK hKK=>?_) AllReady.nil)
       ·skip
        obtain⟨c0,c1,c2,c3,c4,_⟩:=hbx.cells
        go_simp
        clear c0 c1 c2 c3 c4
        refine hKK _ _ ?_
        clear hKK KK
        refine wpAny_ready (rs:=[6,7]) (by kernel_rfl) (by simp) ?_
        refine AllReady.cons rfl (fun KK hKK=>?_) (AllReady.cons rfl (fun KK hKK=>?_) AllReady.nil)
        ·skip
         go_simp
         refine (two_any (arrK R9) t u _ _ (From w1.heap.size) w23 ht hu (fun z hz=>Nat.le_trans hK23.size hz)).mono ?_
         rintro e w24 ⟨vT,rfl,hT,hb24⟩
         have hI24:=hI23.below hb24
         have hK24:=chainK hK23 hb24
         have hk24:=Kp.of_below (b:=r.b) hb24
         replace hm:=NmIn.kp hm hk24 (by omega)
         replace hbx:=Blk.kp hbx hk24 hbx.lt (by omega)
         replace ht:=TrIn.kp ht hk24 (by omega)
         replace hu:=TrIn.kp hu hk24 (by omega)
         obtain⟨T,hTe⟩:∃ T,T=two (arrK R9) t u:=⟨_,rfl⟩
         rw [← hTe] at hT
         have HTe:Hid (T=two (arrK R9) t u):=hTe
         clear hTe
         obtain⟨vkT,vnT,rfl,hfT,kaT,kcT,rfl⟩:=TrIn.form hT
         obtain⟨naT,ncT,rfl⟩:=hfT.form
         clear hfT
         refine hKK _ _ ?_
         clear hKK KK
         refine wpAny_ready (rs:=[7]) (by kernel_rfl) (by simp) ?_
         refine AllReady.cons rfl (fun KK hKK=>?_) AllReady.nil
         go_simp
         have hal:=below_alloc w24 (.cells #[.int .i64 0,.string ⟨#[]⟩,.slice none 0 0,.slice none 0 0,.int .i64 0] 26)
         have hby:=hole_new w24
         have hyge:=hK24.size
         obtain⟨w25,hw⟩:∃ w0,w0=w24.alloc (.cells #[.int .i64 0,.string ⟨#[]⟩,.slice none 0 0,.slice none 0 0,.int .i64 0] 26):=⟨_,rfl⟩
         rw [← hw] at hal hby ⊢
         clear hw
         have hI25:=hI24.below hal
         have hK25:=chainK hK24 hal
         replace hbx:=Blk.blw hbx hal hbx.lt
         replace hm:=NmIn.ahead hm (Nat.le_refl _) hal
         replace ht:=TrIn.ahead ht (Nat.le_refl _) hal
         replace hu:=TrIn.ahead hu (Nat.le_refl _) hal
         replace hT:=TrIn.ahead hT (Nat.le_refl _) hal
         clear hal
         obtain⟨y,hy⟩:∃ y,y=w24.heap.size:=⟨_,rfl⟩
         rw [← hy] at hm ht hu hT hby hyge ⊢
         clear hy
         refine hKK _ _ ?_
         clear hKK KK
         refine wpAny_ready (rs:=[8]) (by kernel_rfl) (by simp) ?_
         refine AllReady.cons rfl (fun KK hKK=>?_) AllReady.nil
         obtain⟨c0,c1,c2,c3,c4,f0,f1,f2,f3,f4⟩:=hby.cells
         go_simp
         clear c0 c1 c2 c3 c4 f0 f1 f2 f3 f4
         obtain⟨w26,hw⟩:∃ w0,w0=((((w25.setCell ⟨y,0,none⟩ (.int .i64 (T.kind:Nat))).setCell ⟨y,1,none⟩ (.string (bs T.name))).setCell ⟨y,2,none⟩ (.slice kaT T.kids.length kcT)).setCell ⟨y,3,none⟩ (.slice naT T.names.length ncT)).setCell ⟨y,4,none⟩ (.int .i64 (T.at_:Nat)):=⟨_,rfl⟩
         rw [← hw]
         have hI26:r.In w26 (R23):=by rw [hw];exact hI25.put5 (by omega) _ _ _ _ _
         have hK26:Kp r.b w1 w26:=by rw [hw];exact hK25.put5 hyge _ _ _ _ _
         have hby2:Blk w26 y (.int .i64 (T.kind:Nat)) (.string (bs T.name)) (.slice kaT T.kids.length kcT) (.slice naT T.names.length ncT) (.int .i64 (T.at_:Nat)):=by rw [hw];exact blk_put w25 y _ _ _ _ _ _ _ _ _ _ hby
         clear hby
         have hby:=hby2
         clear hby2
         replace hT:=TrIn.putE hT hw
         replace hm:=NmIn.putE hm hw
         clear hw ht hu hbx
         refine hKK _ _ ?_
         clear hKK KK
         refine wpAny_done (by kernel_rfl) ?_ _
         obtain⟨c0,c1,c2,c3,c4,f0,f1,f2,f3,f4⟩:=hby.cells
         have hyn:¬ y=w.heap.size:=by omega
         have hyn2:¬ w.heap.size=y:=by omega
         obtain⟨o0,o1,o2,o3,o4,z0,z1,z2,z3,z4⟩:=Blk.cells (hh1.kp hK26 hn1 hlt)
         have hTT:TrIn (But w1.heap.size y) w26 (.mk (arrK R9) [] [t,u] [t4] (atP r.e R)) (.agg #[.int .i64 (T.kind:Nat),.string (bs T.name),.slice kaT T.kids.length kcT,.slice (some ⟨w4.heap.size,0,none⟩) 1 1,.int .i64 (atP r.e R:Nat)]):=rename_two (by rw [← HTe.out];exact hT) [t4] (atP r.e R) hm
         go_wp2_with fail
         exact⟨rfl,.agg #[.int .i64 (T.kind:Nat),.string (bs T.name),.slice kaT T.kids.length kcT,.slice (some ⟨w4.heap.size,0,none⟩) 1 1,.int .i64 (atP r.e R:Nat)],by simp [results,Tryz.results34,go_sem, *],rule_end (n:=w.heap.size) HX.out.symm hB1 rfl hn1 ((hI26.put (by omega) _).put (by omega) _) hlt ((hK26.setCell (.inr hyge) _).setCell (.inr hyge) _) (TrIn.fromB (TrIn.putB (TrIn.putB hTT _) _)) _ _ _ _ _⟩
        ·skip
         go_simp
         have hal:=below_alloc w23 (.cells #[.int .i64 0,.string ⟨#[]⟩,.slice none 0 0,.slice none 0 0,.int .i64 0] 26)
         have hby:=hole_new w23
         have hyge:=hK23.size
         obtain⟨w27,hw⟩:∃ w0,w0=w23.alloc (.cells #[.int .i64 0,.string ⟨#[]⟩,.slice none 0 0,.slice none 0 0,.int .i64 0] 26):=⟨_,rfl⟩
         rw [← hw] at hal hby ⊢
         clear hw
         have hI27:=hI23.below hal
         have hK27:=chainK hK23 hal
         replace hbx:=Blk.blw hbx hal hbx.lt
         replace hm:=NmIn.ahead hm (Nat.le_refl _) hal
         replace ht:=TrIn.ahead ht (Nat.le_refl _) hal
         replace hu:=TrIn.ahead hu (Nat.le_refl _) hal
         clear hal
         obtain⟨y,hy⟩:∃ y,y=w23.heap.size:=⟨_,rfl⟩
         rw [← hy] at hm ht hu hby hyge ⊢
         clear hy
         refine hKK _ _ ?_
         clear hKK KK
         refine wpAny_ready (rs:=[6]) (by kernel_rfl) (by simp) ?_
         refine AllReady.cons rfl (fun KK hKK=>?_) AllReady.nil
         go_simp
         refine (two_any (arrK R9) t u _ _ (But w1.heap.size y) w27 ht hu (fun z hz=>⟨by have:=hK27.size;omega,by have:=hby.lt;omega⟩)).mono ?_
         rintro e w28 ⟨vT,rfl,hT,hb28⟩
         have hI28:=hI27.below hb28
         have hK28:=chainK hK27 hb28
         have hk28:=Kp.of_below (b:=r.b) hb28
         replace hm:=NmIn.kpB hm hk28 (by omega)
         replace hbx:=Blk.kp hbx hk28 hbx.lt (by omega)
         replace ht:=TrIn.kpB ht hk28 (by omega)
         replace hu:=TrIn.kpB hu hk28 (by omega)
         replace hby:=Blk.kp hby hk28 hby.lt (by omega)
         obtain⟨T,hTe⟩:∃ T,T=two (arrK R9) t u:=⟨_,rfl⟩
         rw [← hTe] at hT
         have HTe:Hid (T=two (arrK R9) t u):=hTe
         clear hTe
         obtain⟨vkT,vnT,rfl,hfT,kaT,kcT,rfl⟩:=TrIn.form hT
         obtain⟨naT,ncT,rfl⟩:=hfT.form
         clear hfT
         refine hKK _ _ ?_
         clear hKK KK
         refine wpAny_ready (rs:=[8]) (by kernel_rfl) (by simp) ?_
         refine AllReady.cons rfl (fun KK hKK=>?_) AllReady.nil
         obtain⟨c0,c1,c2,c3,c4,f0,f1,f2,f3,f4⟩:=hby.cells
         go_simp
         clear c0 c1 c2 c3 c4 f0 f1 f2 f3 f4
         obtain⟨w29,hw⟩:∃ w0,w0=((((w28.setCell ⟨y,0,none⟩ (.int .i64 (T.kind:Nat))).setCell ⟨y,1,none⟩ (.string (bs T.name))).setCell ⟨y,2,none⟩ (.slice kaT T.kids.length kcT)).setCell ⟨y,3,none⟩ (.slice naT T.names.length ncT)).setCell ⟨y,4,none⟩ (.int .i64 (T.at_:Nat)):=⟨_,rfl⟩
         rw [← hw]
         have hI29:r.In w29 (R23):=by rw [hw];exact hI28.put5 (by omega) _ _ _ _ _
         have hK29:Kp r.b w1 w29:=by rw [hw];exact hK28.put5 hyge _ _ _ _ _
         have hby2:Blk w29 y (.int .i64 (T.kind:Nat)) (.string (bs T.name)) (.slice kaT T.kids.length kcT) (.slice naT T.names.length ncT) (.int .i64 (T.at_:Nat)):=by rw [hw];exact blk_put w28 y _ _ _ _ _ _ _ _ _ _ hby
         clear hby
         have hby:=hby2
         clear hby2
         replace hT:=TrIn.putE hT hw
         replace hm:=NmIn.putE hm hw
         clear hw ht hu hbx
         refine hKK _ _ ?_
         clear hKK KK
         refine wpAny_done (by kernel_rfl) ?_ _
         obtain⟨c0,c1,c2,c3,c4,f0,f1,f2,f3,f4⟩:=hby.cells
         have hyn:¬ y=w.heap.size:=by omega
         have hyn2:¬ w.heap.size=y:=by omega
         obtain⟨o0,o1,o2,o3,o4,z0,z1,z2,z3,z4⟩:=Blk.cells (hh1.kp hK29 hn1 hlt)
         have hTT:TrIn (But w1.heap.size y) w29 (.mk (arrK R9) [] [t,u] [t4] (atP r.e R)) (.agg #[.int .i64 (T.kind:Nat),.string (bs T.name),.slice kaT T.kids.length kcT,.slice (some ⟨w4.heap.size,0,none⟩) 1 1,.int .i64 (atP r.e R:Nat)]):=rename_two (by rw [← HTe.out];exact hT) [t4] (atP r.e R) hm
         go_wp2_with fail
         exact⟨rfl,.agg #[.int .i64 (T.kind:Nat),.string (bs T.name),.slice kaT T.kids.length kcT,.slice (some ⟨w4.heap.size,0,none⟩) 1 1,.int .i64 (atP r.e R:Nat)],by simp [results,Tryz.results34,go_sem, *],rule_end (n:=w.heap.size) HX.out.symm hB1 rfl hn1 ((hI29.put (by omega) _).put (by omega) _) hlt ((hK29.setCell (.inr hyge) _).setCell (.inr hyge) _) (TrIn.fromB (TrIn.putB (TrIn.putB hTT _) _)) _ _ _ _ _⟩
       ·skip
        go_simp
        have hal:=below_alloc w23 (.cells #[.int .i64 0,.string ⟨#[]⟩,.slice none 0 0,.slice none 0 0,.int .i64 0] 26)
        have hby:=hole_new w23
        have hyge:=hK23.size
        obtain⟨w30,hw⟩:∃ w0,w0=w23.alloc (.cells #[.int .i64 0,.string ⟨#[]⟩,.slice none 0 0,.slice none 0 0,.int .i64 0] 26):=⟨_,rfl⟩
        rw [← hw] at hal hby ⊢
        clear hw
        have hI30:=hI23.below hal
        have hK30:=chainK hK23 hal
        replace hbx:=Blk.blw hbx hal hbx.lt
        replace hm:=NmIn.ahead hm (Nat.le_refl _) hal
        replace ht:=TrIn.ahead ht (Nat.le_refl _) hal
        replace hu:=TrIn.ahead hu (Nat.le_refl _) hal
        clear hal
        obtain⟨y,hy⟩:∃ y,y=w23.heap.size:=⟨_,rfl⟩
        rw [← hy] at hm ht hu hby hyge ⊢
        clear hy
        refine hKK _ _ ?_
        clear hKK KK
        refine wpAny_ready (rs:=[1]) (by kernel_rfl) (by simp) ?_
        refine AllReady.cons rfl (fun KK hKK=>?_) AllReady.nil
        obtain⟨c0,c1,c2,c3,c4,_⟩:=hbx.cells
        go_simp
        clear c0 c1 c2 c3 c4
        refine hKK _ _ ?_
        clear hKK KK
        refine wpAny_ready (rs:=[6]) (by kernel_rfl) (by simp) ?_
        refine AllReady.cons rfl (fun KK hKK=>?_) AllReady.nil
        go_simp
        refine (two_any (arrK R9) t u _ _ (But w1.heap.size y) w30 ht hu (fun z hz=>⟨by have:=hK30.size;omega,by have:=hby.lt;omega⟩)).mono ?_
        rintro e w31 ⟨vT,rfl,hT,hb31⟩
        have hI31:=hI30.below hb31
        have hK31:=chainK hK30 hb31
        have hk31:=Kp.of_below (b:=r.b) hb31
        replace hm:=NmIn.kpB hm hk31 (by omega)
        replace hbx:=Blk.kp hbx hk31 hbx.lt (by omega)
        replace ht:=TrIn.kpB ht hk31 (by omega)
        replace hu:=TrIn.kpB hu hk31 (by omega)
        replace hby:=Blk.kp hby hk31 hby.lt (by omega)
        obtain⟨T,hTe⟩:∃ T,T=two (arrK R9) t u:=⟨_,rfl⟩
        rw [← hTe] at hT
        have HTe:Hid (T=two (arrK R9) t u):=hTe
        clear hTe
        obtain⟨vkT,vnT,rfl,hfT,kaT,kcT,rfl⟩:=TrIn.form hT
        obtain⟨naT,ncT,rfl⟩:=hfT.form
        clear hfT
        refine hKK _ _ ?_
        clear hKK KK
        refine wpAny_ready (rs:=[8]) (by kernel_rfl) (by simp) ?_
        refine AllReady.cons rfl (fun KK hKK=>?_) AllReady.nil
        obtain⟨c0,c1,c2,c3,c4,f0,f1,f2,f3,f4⟩:=hby.cells
        go_simp
        clear c0 c1 c2 c3 c4 f0 f1 f2 f3 f4
        obtain⟨w32,hw⟩:∃ w0,w0=((((w31.setCell ⟨y,0,none⟩ (.int .i64 (T.kind:Nat))).setCell ⟨y,1,none⟩ (.string (bs T.name))).setCell ⟨y,2,none⟩ (.slice kaT T.kids.length kcT)).setCell ⟨y,3,none⟩ (.slice naT T.names.length ncT)).setCell ⟨y,4,none⟩ (.int .i64 (T.at_:Nat)):=⟨_,rfl⟩
        rw [← hw]
        have hI32:r.In w32 (R23):=by rw [hw];exact hI31.put5 (by omega) _ _ _ _ _
        have hK32:Kp r.b w1 w32:=by rw [hw];exact hK31.put5 hyge _ _ _ _ _
        have hby2:Blk w32 y (.int .i64 (T.kind:Nat)) (.string (bs T.name)) (.slice kaT T.kids.length kcT) (.slice naT T.names.length ncT) (.int .i64 (T.at_:Nat)):=by rw [hw];exact blk_put w31 y _ _ _ _ _ _ _ _ _ _ hby
        clear hby
        have hby:=hby2
        clear hby2
        replace hT:=TrIn.putE hT hw
        replace hm:=NmIn.putE hm hw
        clear hw ht hu hbx
        refine hKK _ _ ?_
        clear hKK KK
        refine wpAny_done (by kernel_rfl) ?_ _
        obtain⟨c0,c1,c2,c3,c4,f0,f1,f2,f3,f4⟩:=hby.cells
        have hyn:¬ y=w.heap.size:=by omega
        have hyn2:¬ w.heap.size=y:=by omega
        obtain⟨o0,o1,o2,o3,o4,z0,z1,z2,z3,z4⟩:=Blk.cells (hh1.kp hK32 hn1 hlt)
        have hTT:TrIn (But w1.heap.size y) w32 (.mk (arrK R9) [] [t,u] [t4] (atP r.e R)) (.agg #[.int .i64 (T.kind:Nat),.string (bs T.name),.slice kaT T.kids.length kcT,.slice (some ⟨w4.heap.size,0,none⟩) 1 1,.int .i64 (atP r.e R:Nat)]):=rename_two (by rw [← HTe.out];exact hT) [t4] (atP r.e R) hm
        go_wp2_with fail
        exact⟨rfl,.agg #[.int .i64 (T.kind:Nat),.string (bs T.name),.slice kaT T.kids.length kcT,.slice (some ⟨w4.heap.size,0,none⟩) 1 1,.int .i64 (atP r.e R:Nat)],by simp [results,Tryz.results34,go_sem, *],rule_end (n:=w.heap.size) HX.out.symm hB1 rfl hn1 ((hI32.put (by omega) _).put (by omega) _) hlt ((hK32.setCell (.inr hyge) _).setCell (.inr hyge) _) (TrIn.fromB (TrIn.putB (TrIn.putB hTT _) _)) _ _ _ _ _⟩
     ·skip
      go_simp
      have hal:=below_alloc w11 (.cells #[.int .i64 0,.string ⟨#[]⟩,.slice none 0 0,.slice none 0 0,.int .i64 0] 26)
      have hby:=hole_new w11
      have hyge:=hK11.size
      obtain⟨w33,hw⟩:∃ w0,w0=w11.alloc (.cells #[.int .i64 0,.string ⟨#[]⟩,.slice none 0 0,.slice none 0 0,.int .i64 0] 26):=⟨_,rfl⟩
      rw [← hw] at hal hby ⊢
      clear hw
      have hI33:=hI11.below hal
      have hK33:=chainK hK11 hal
      replace hbx:=Blk.blw hbx hal hbx.lt
      replace hm:=NmIn.ahead hm (Nat.le_refl _) hal
      replace ht:=TrIn.ahead ht (Nat.le_refl _) hal
      clear hal
      obtain⟨y,hy⟩:∃ y,y=w11.heap.size:=⟨_,rfl⟩
      rw [← hy] at hm ht hby hyge ⊢
      clear hy
      refine hKK _ _ ?_
      clear hKK KK
      refine wpAny_ready (rs:=[1,5]) (by kernel_rfl) (by simp) ?_
      refine AllReady.cons rfl (fun KK hKK=>?_) (AllReady.cons rfl (fun KK hKK=>?_) AllReady.nil)
      ·skip
       obtain⟨c0,c1,c2,c3,c4,_⟩:=hbx.cells
       go_simp
       clear c0 c1 c2 c3 c4
       refine hKK _ _ ?_
       clear hKK KK
       refine wpAny_ready (rs:=[5]) (by kernel_rfl) (by simp) ?_
       refine AllReady.cons rfl (fun KK hKK=>?_) AllReady.nil
       go_simp
       have hyl:=hby.lt
       have hxl:=hbx.lt
       have hNu:NF (termP r.e f (l+1) (arrR R9)):=NF.left (by have h:=hNF;rw [← HX.out] at h;exact h)
       have c:=iht (l+1) (arrR R9) w33 (by omega) hI33 hNu
       rw [castS] at c
       cases hq:termP r.e f (l+1) (arrR R9) using Rs.cs with
       | bad p z =>
        rw [hq] at c HX
        refine c.mono ?_
        rintro e w34 ⟨rfl,hb⟩
        exact⟨rfl,rule_bad HX.out.symm hB1 hK33 hlt hb⟩
       | ok u R34 =>
        rw [hq] at c HX
        rw [bnd_ok] at HX
        refine c.mono ?_
        rintro e w34 ⟨vu,rfl,hu,hI34,hk34⟩
        have hK34:=hK33.trans hk34
        clear c hq hNu
        replace hm:=NmIn.kpB hm hk34 (by omega)
        replace hbx:=Blk.kp hbx hk34 hbx.lt (by omega)
        replace ht:=TrIn.kpB ht hk34 (by omega)
        replace hby:=Blk.kp hby hk34 hby.lt (by omega)
        replace hu:=TrIn.toB hu hK33.size hyl
        obtain⟨vku,vnu,rfl,hfu,kau,kcu,rfl⟩:=TrIn.form hu
        obtain⟨nau,ncu,rfl⟩:=hfu.form
        clear hfu
        refine hKK _ _ ?_
        clear hKK KK
        refine wpAny_ready (rs:=[6]) (by kernel_rfl) (by simp) ?_
        refine AllReady.cons rfl (fun KK hKK=>?_) AllReady.nil
        go_simp
        refine (two_any (arrK R9) t u _ _ (But w1.heap.size y) w34 ht hu (fun z hz=>⟨by have:=hK34.size;omega,by have:=hby.lt;omega⟩)).mono ?_
        rintro e w35 ⟨vT,rfl,hT,hb35⟩
        have hI35:=hI34.below hb35
        have hK35:=chainK hK34 hb35
        have hk35:=Kp.of_below (b:=r.b) hb35
        replace hm:=NmIn.kpB hm hk35 (by omega)
        replace hbx:=Blk.kp hbx hk35 hbx.lt (by omega)
        replace ht:=TrIn.kpB ht hk35 (by omega)
        replace hby:=Blk.kp hby hk35 hby.lt (by omega)
        replace hu:=TrIn.kpB hu hk35 (by omega)
        obtain⟨T,hTe⟩:∃ T,T=two (arrK R9) t u:=⟨_,rfl⟩
        rw [← hTe] at hT
        have HTe:Hid (T=two (arrK R9) t u):=hTe
        clear hTe
        obtain⟨vkT,vnT,rfl,hfT,kaT,kcT,rfl⟩:=TrIn.form hT
        obtain⟨naT,ncT,rfl⟩:=hfT.form
        clear hfT
        refine hKK _ _ ?_
        clear hKK KK
        refine wpAny_ready (rs:=[8]) (by kernel_rfl) (by simp) ?_
        refine AllReady.cons rfl (fun KK hKK=>?_) AllReady.nil
        obtain⟨c0,c1,c2,c3,c4,f0,f1,f2,f3,f4⟩:=hby.cells
        go_simp
        clear c0 c1 c2 c3 c4 f0 f1 f2 f3 f4
        obtain⟨w36,hw⟩:∃ w0,w0=((((w35.setCell ⟨y,0,none⟩ (.int .i64 (T.kind:Nat))).setCell ⟨y,1,none⟩ (.string (bs T.name))).setCell ⟨y,2,none⟩ (.slice kaT T.kids.length kcT)).setCell ⟨y,3,none⟩ (.slice naT T.names.length ncT)).setCell ⟨y,4,none⟩ (.int .i64 (T.at_:Nat)):=⟨_,rfl⟩
        rw [← hw]
        have hI36:r.In w36 (R34):=by rw [hw];exact hI35.put5 (by omega) _ _ _ _ _
        have hK36:Kp r.b w1 w36:=by rw [hw];exact hK35.put5 hyge _ _ _ _ _
        have hby2:Blk w36 y (.int .i64 (T.kind:Nat)) (.string (bs T.name)) (.slice kaT T.kids.length kcT) (.slice naT T.names.length ncT) (.int .i64 (T.at_:Nat)):=by rw [hw];exact blk_put w35 y _ _ _ _ _ _ _ _ _ _ hby
        clear hby
        have hby:=hby2
        clear hby2
        replace hT:=TrIn.putE hT hw
        replace hm:=NmIn.putE hm hw
        clear hw ht hu hbx
        refine hKK _ _ ?_
        clear hKK KK
        refine wpAny_done (by kernel_rfl) ?_ _
        obtain⟨c0,c1,c2,c3,c4,f0,f1,f2,f3,f4⟩:=hby.cells
        have hyn:¬ y=w.heap.size:=by omega
        have hyn2:¬ w.heap.size=y:=by omega
        obtain⟨o0,o1,o2,o3,o4,z0,z1,z2,z3,z4⟩:=Blk.cells (hh1.kp hK36 hn1 hlt)
        have hTT:TrIn (But w1.heap.size y) w36 (.mk (arrK R9) [] [t,u] [t4] (atP r.e R)) (.agg #[.int .i64 (T.kind:Nat),.string (bs T.name),.slice kaT T.kids.length kcT,.slice (some ⟨w4.heap.size,0,none⟩) 1 1,.int .i64 (atP r.e R:Nat)]):=rename_two (by rw [← HTe.out];exact hT) [t4] (atP r.e R) hm
        go_wp2_with fail
        exact⟨rfl,.agg #[.int .i64 (T.kind:Nat),.string (bs T.name),.slice kaT T.kids.length kcT,.slice (some ⟨w4.heap.size,0,none⟩) 1 1,.int .i64 (atP r.e R:Nat)],by simp [results,Tryz.results34,go_sem, *],rule_end (n:=w.heap.size) HX.out.symm hB1 rfl hn1 ((hI36.put (by omega) _).put (by omega) _) hlt ((hK36.setCell (.inr hyge) _).setCell (.inr hyge) _) (TrIn.fromB (TrIn.putB (TrIn.putB hTT _) _)) _ _ _ _ _⟩
      ·skip
       go_simp
       have hyl:=hby.lt
       have hxl:=hbx.lt
       have hNu:NF (termP r.e f (l+1) (arrR R9)):=NF.left (by have h:=hNF;rw [← HX.out] at h;exact h)
       have c:=iht (l+1) (arrR R9) w33 (by omega) hI33 hNu
       rw [castS] at c
       cases hq:termP r.e f (l+1) (arrR R9) using Rs.cs with
       | bad p z =>
        rw [hq] at c HX
        refine c.mono ?_
        rintro e w37 ⟨rfl,hb⟩
        exact⟨rfl,rule_bad HX.out.symm hB1 hK33 hlt hb⟩
       | ok u R37 =>
        rw [hq] at c HX
        rw [bnd_ok] at HX
        refine c.mono ?_
        rintro e w37 ⟨vu,rfl,hu,hI37,hk37⟩
        have hK37:=hK33.trans hk37
        clear c hq hNu
        replace hm:=NmIn.kpB hm hk37 (by omega)
        replace hbx:=Blk.kp hbx hk37 hbx.lt (by omega)
        replace ht:=TrIn.kpB ht hk37 (by omega)
        replace hby:=Blk.kp hby hk37 hby.lt (by omega)
        replace hu:=TrIn.toB hu hK33.size hyl
        obtain⟨vku,vnu,rfl,hfu,kau,kcu,rfl⟩:=TrIn.form hu
        obtain⟨nau,ncu,rfl⟩:=hfu.form
        clear hfu
        refine hKK _ _ ?_
        clear hKK KK
        refine wpAny_ready (rs:=[1]) (by kernel_rfl) (by simp) ?_
        refine AllReady.cons rfl (fun KK hKK=>?_) AllReady.nil
        obtain⟨c0,c1,c2,c3,c4,_⟩:=hbx.cells
        go_simp
        clear c0 c1 c2 c3 c4
        refine hKK _ _ ?_
        clear hKK KK
        refine wpAny_ready (rs:=[6]) (by kernel_rfl) (by simp) ?_
        refine AllReady.cons rfl (fun KK hKK=>?_) AllReady.nil
        go_simp
        refine (two_any (arrK R9) t u _ _ (But w1.heap.size y) w37 ht hu (fun z hz=>⟨by have:=hK37.size;omega,by have:=hby.lt;omega⟩)).mono ?_
        rintro e w38 ⟨vT,rfl,hT,hb38⟩
        have hI38:=hI37.below hb38
        have hK38:=chainK hK37 hb38
        have hk38:=Kp.of_below (b:=r.b) hb38
        replace hm:=NmIn.kpB hm hk38 (by omega)
        replace hbx:=Blk.kp hbx hk38 hbx.lt (by omega)
        replace ht:=TrIn.kpB ht hk38 (by omega)
        replace hby:=Blk.kp hby hk38 hby.lt (by omega)
        replace hu:=TrIn.kpB hu hk38 (by omega)
        obtain⟨T,hTe⟩:∃ T,T=two (arrK R9) t u:=⟨_,rfl⟩
        rw [← hTe] at hT
        have HTe:Hid (T=two (arrK R9) t u):=hTe
        clear hTe
        obtain⟨vkT,vnT,rfl,hfT,kaT,kcT,rfl⟩:=TrIn.form hT
        obtain⟨naT,ncT,rfl⟩:=hfT.form
        clear hfT
        refine hKK _ _ ?_
        clear hKK KK
        refine wpAny_ready (rs:=[8]) (by kernel_rfl) (by simp) ?_
        refine AllReady.cons rfl (fun KK hKK=>?_) AllReady.nil
        obtain⟨c0,c1,c2,c3,c4,f0,f1,f2,f3,f4⟩:=hby.cells
        go_simp
        clear c0 c1 c2 c3 c4 f0 f1 f2 f3 f4
        obtain⟨w39,hw⟩:∃ w0,w0=((((w38.setCell ⟨y,0,none⟩ (.int .i64 (T.kind:Nat))).setCell ⟨y,1,none⟩ (.string (bs T.name))).setCell ⟨y,2,none⟩ (.slice kaT T.kids.length kcT)).setCell ⟨y,3,none⟩ (.slice naT T.names.length ncT)).setCell ⟨y,4,none⟩ (.int .i64 (T.at_:Nat)):=⟨_,rfl⟩
        rw [← hw]
        have hI39:r.In w39 (R37):=by rw [hw];exact hI38.put5 (by omega) _ _ _ _ _
        have hK39:Kp r.b w1 w39:=by rw [hw];exact hK38.put5 hyge _ _ _ _ _
        have hby2:Blk w39 y (.int .i64 (T.kind:Nat)) (.string (bs T.name)) (.slice kaT T.kids.length kcT) (.slice naT T.names.length ncT) (.int .i64 (T.at_:Nat)):=by rw [hw];exact blk_put w38 y _ _ _ _ _ _ _ _ _ _ hby
        clear hby
        have hby:=hby2
        clear hby2
        replace hT:=TrIn.putE hT hw
        replace hm:=NmIn.putE hm hw
        clear hw ht hu hbx
        refine hKK _ _ ?_
        clear hKK KK
        refine wpAny_done (by kernel_rfl) ?_ _
        obtain⟨c0,c1,c2,c3,c4,f0,f1,f2,f3,f4⟩:=hby.cells
        have hyn:¬ y=w.heap.size:=by omega
        have hyn2:¬ w.heap.size=y:=by omega
        obtain⟨o0,o1,o2,o3,o4,z0,z1,z2,z3,z4⟩:=Blk.cells (hh1.kp hK39 hn1 hlt)
        have hTT:TrIn (But w1.heap.size y) w39 (.mk (arrK R9) [] [t,u] [t4] (atP r.e R)) (.agg #[.int .i64 (T.kind:Nat),.string (bs T.name),.slice kaT T.kids.length kcT,.slice (some ⟨w4.heap.size,0,none⟩) 1 1,.int .i64 (atP r.e R:Nat)]):=rename_two (by rw [← HTe.out];exact hT) [t4] (atP r.e R) hm
        go_wp2_with fail
        exact⟨rfl,.agg #[.int .i64 (T.kind:Nat),.string (bs T.name),.slice kaT T.kids.length kcT,.slice (some ⟨w4.heap.size,0,none⟩) 1 1,.int .i64 (atP r.e R:Nat)],by simp [results,Tryz.results34,go_sem, *],rule_end (n:=w.heap.size) HX.out.symm hB1 rfl hn1 ((hI39.put (by omega) _).put (by omega) _) hlt ((hK39.setCell (.inr hyge) _).setCell (.inr hyge) _) (TrIn.fromB (TrIn.putB (TrIn.putB hTT _) _)) _ _ _ _ _⟩
end Go.Proofs.YtahnbigkdfmpbaaGreatDoor
