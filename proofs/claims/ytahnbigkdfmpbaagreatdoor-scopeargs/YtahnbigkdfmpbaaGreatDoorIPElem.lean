/- Elements. -/
import Derived.Deep.RegionWith
import Derived.Test.YtahnbigkdfmpbaaGreatDoorIPB
import Derived.Test.YtahnbigkdfmpbaaGreatDoorIPRow
set_option linter.unusedVariables false
set_option linter.unusedSimpArgs false
namespace Go.Proofs.YtahnbigkdfmpbaaGreatDoor
open Go.RowKit
set_option maxRecDepth 100000 in
set_option maxHeartbeats 4000000 in
theorem elem_step (r:Rdr) (hwf:r.wf) (f:Nat) (ihf:RuleC0 r 124 (faceP r.e f)) (iht:RuleC r 18 (termP r.e f)):RuleD r 106 (elemP r.e (f+1)):=by
 intro l R w hl hR hNF
 obtain⟨X,hX⟩:∃ X,elemP r.e (f+1) l R=X:=⟨_,rfl⟩
 rw [hX] at hNF ⊢
 rw [elemP_s] at hX
 have HX:Hid (_=X):=hX
 clear hX
 have hlt:=hR.lt.2
 obtain⟨w1,hw1⟩:∃ w1,w1=w.alloc (.cells #[.int .i64 0,.string ⟨#[]⟩,.slice none 0 0,.slice none 0 0,.int .i64 0] 26):=⟨_,rfl⟩
 have hB1:Below w.heap.size w w1:=by rw [hw1];exact below_alloc _ _
 have hh1:Hole w1 w.heap.size:=by rw [hw1];exact hole_new w
 have hn1:w.heap.size<w1.heap.size:=by rw [hw1];simp
 have hI1:=hR.below hB1
 have hK1:=Kp.refl r.b w1
 have Hw1:Hid (_=_):=hw1
 clear hw1
 go_enter Tryz.func106,Tryz.ntmps106
 go_wp2_with fail
 rw [← Hw1.out]
 clear Hw1
 have g1:IntKind.i64.wrap ((l:Int) + 1)=(l:Int) + 1:=wrap_in (by omega) (by omega)
 go_wp2_with fail
 refine (at_any r w1 (R) hI1 hwf).mono ?_
 rintro e w2 ⟨rfl,hb2⟩
 have hI2:=hI1.below hb2
 have hK2:=chainK hK1 hb2
 have hk2:=Kp.of_below (b:=r.b) hb2
 clear hb2 hk2
 go_wp2_with fail
 have hal:=below_alloc w2 (.cells #[.int .i64 11,.string ⟨#[]⟩,.slice none 0 0,.slice none 0 0,.int .i64 (atP r.e R:Nat)] 26)
 have hbx:=blk_new w2 (.int .i64 11) (.string ⟨#[]⟩) (.slice none 0 0) (.slice none 0 0) (.int .i64 (atP r.e R:Nat))
 have hxge:=hK2.size
 obtain⟨w3,hw⟩:∃ w0,w0=w2.alloc (.cells #[.int .i64 11,.string ⟨#[]⟩,.slice none 0 0,.slice none 0 0,.int .i64 (atP r.e R:Nat)] 26):=⟨_,rfl⟩
 rw [← hw] at hal hbx ⊢
 clear hw
 have hI3:=hI2.below hal
 have hK3:=chainK hK2 hal
 clear hal
 obtain⟨x,hx⟩:∃ x,x=w2.heap.size:=⟨_,rfl⟩
 rw [← hx] at hbx hxge ⊢
 clear hx
 have hkr:=KRow.nil w1.heap.size x w3
 go_wp2_with fail
 obtain⟨w4,hw4⟩:∃ w0,w0=w3.drew:=⟨_,rfl⟩
 have hB4:Below w3.heap.size w3 w4:=by rw [hw4];exact Below.drew (Below.refl _ _)
 have hI4:=hI3.below hB4
 have hK4:=chainK hK3 hB4
 have hk4:=Kp.of_below (b:=r.b) hB4
 refine wp_region_any (by kernel_rfl) ?_
 change wpAny _ _ _ _ _ _ _ (World.drew _)
 rw [← hw4]
 clear hw4
 replace hbx:=Blk.kp hbx hk4 hbx.lt (by omega)
 replace hkr:=KRow.kp hkr hk4 (by omega)
 clear hB4 hk4
 refine wpAny_take (i:=0) (v:=.pointer (some ⟨x,2,none⟩)) rfl (by kernel_rfl) (by kernel_rfl) (by kernel_rfl) (fun _ _ _ h=>h) (Or.inl ⟨by rfl,fun w=>by go_simp⟩) ?_
 simp only [Act.put,List.setIfInBounds_toArray,List.set_cons_zero,List.set_cons_succ]
 refine wpAny_take (i:=2) (v:=r.ptr) rfl (by kernel_rfl) (by kernel_rfl) (by kernel_rfl) (fun _ _ _ h=>h) (Or.inl ⟨by rfl,fun w=>by go_simp⟩) ?_
 simp only [Act.put,List.setIfInBounds_toArray,List.set_cons_zero,List.set_cons_succ]
 refine wpAny_ready (rs:=[1,3]) (by kernel_rfl) (by simp) ?_
 refine AllReady.cons rfl (fun KK hKK=>?_) (AllReady.cons rfl (fun KK hKK=>?_) AllReady.nil)
 ·skip
  obtain⟨c0,c1,c2,c3,c4,_⟩:=hbx.cells
  go_simp
  clear c0 c1 c2 c3 c4
  refine hKK _ _ ?_
  clear hKK KK
  refine wpAny_ready (rs:=[3]) (by kernel_rfl) (by simp) ?_
  refine AllReady.cons rfl (fun KK hKK=>?_) AllReady.nil
  go_simp
  have hN5:NF (faceP r.e f (R)):=NF.left (by have h:=hNF;rw [← HX.out] at h;exact h)
  have c:=ihf (R) w4 hI4 hN5
  have hxl5:=hbx.lt
  have hown5:=hkr.own
  cases hq:faceP r.e f (R) using Rs.cs with
  | bad p y =>
   rw [hq] at c HX
   refine c.mono ?_
   rintro e w5 ⟨rfl,hb⟩
   exact⟨rfl,rule_bad HX.out.symm hB1 hK4 hlt hb⟩
  | ok t5 R5 =>
   rw [hq] at c HX
   rw [bnd_ok] at HX
   refine c.mono ?_
   rintro e w5 ⟨v5,rfl,ht5,hI5,hk5⟩
   have hK5:=hK4.trans hk5
   clear c hq
   replace hbx:=Blk.kp hbx hk5 hbx.lt (by omega)
   replace hkr:=KRow.kp hkr hk5 (by omega)
   have hz5:=ht5
   have hms5:=hK4.size
   clear ht5
   obtain⟨vk5,vn5,rfl,hf5,ka5,kc5,rfl⟩:=TrIn.form hz5
   obtain⟨na5,nc5,rfl⟩:=hf5.form
   clear hf5
   refine hKK _ _ ?_
   clear hKK KK
   refine wpAny_ready (rs:=[4]) (by kernel_rfl) (by simp) ?_
   refine AllReady.cons rfl (fun KK hKK=>?_) AllReady.nil
   go_simp
   have hal:=below_alloc w5 (.cells #[.int .i64 (t5.kind:Nat),.string (bs t5.name),.slice ka5 t5.kids.length kc5,.slice na5 t5.names.length nc5,.int .i64 (t5.at_:Nat)] 26)
   have hkl:=Kp.of_below (b:=r.b) hal
   obtain⟨w6,hw6⟩:∃ w0,w0=w5.alloc (.cells #[.int .i64 (t5.kind:Nat),.string (bs t5.name),.slice ka5 t5.kids.length kc5,.slice na5 t5.names.length nc5,.int .i64 (t5.at_:Nat)] 26):=⟨_,rfl⟩
   rw [← hw6] at hal hkl ⊢
   have hI6:=hI5.below hal
   have hK6:=chainK hK5 hal
   have Hw6:Hid (_=_):=hw6
   clear hw6
   replace hbx:=Blk.kp hbx hkl hbx.lt (by omega)
   replace hkr:=KRow.kp hkr hkl (by omega)
   replace hz5:=TrIn.kp hz5 hkl (by omega)
   refine hKK _ _ ?_
   clear hKK KK
   refine wpAny_ready (rs:=[5]) (by kernel_rfl) (by simp) ?_
   refine AllReady.cons rfl (fun KK hKK=>?_) AllReady.nil
   refine step_append_tree (n:=w1.heap.size) (x:=x) (m:=w4.heap.size) rfl (.tmp 10) (.tmp 13) rfl rfl rfl hkr hz5 (one_cells _ _ _ _ _ _ _) hown5 hxl5 hms5 (fun j y hj=>by rw [Hw6.out];exact new_cell _ _ _ _ j y rfl hj) (by simp) hK6.size hbx.lt ?_
   intro v7 w7 hkr7 hg7
   have hI7:=hI6.grownK hkr hg7 (by omega)
   have hK7:=hK6.grownK hkr hg7 (Nat.le_refl _)
   replace hbx:=hbx.grownK hkr hg7
   clear hkr hz5 hg7 Hw6 hal hkl hms5 hown5 hxl5
   have hkr:=hkr7
   clear hkr7
   obtain⟨rA7,rL7,rC7,rfl⟩:=hkr.form2
   refine hKK _ _ ?_
   clear hKK KK
   refine wpAny_ready (rs:=[6]) (by kernel_rfl) (by simp) ?_
   refine AllReady.cons rfl (fun KK hKK=>?_) AllReady.nil
   go_simp
   refine hKK _ _ ?_
   clear hKK KK
   refine wpAny_ready (rs:=[7]) (by kernel_rfl) (by simp) ?_
   refine AllReady.cons rfl (fun KK hKK=>?_) AllReady.nil
   obtain⟨c0,c1,c2,c3,c4,f0,f1,f2,f3,f4⟩:=hbx.cells
   go_simp
   clear c0 c1 c2 c3 c4 f0 f1 f2 f3 f4
   obtain⟨w8,hw⟩:∃ w0,w0=w7.setCell ⟨x,2,none⟩ (.slice rA7 rL7 rC7):=⟨_,rfl⟩
   rw [← hw]
   have hI8:r.In w8 (R5):=by rw [hw];exact hI7.put (by omega) _
   have hK8:Kp r.b w1 w8:=by rw [hw];exact hK7.setCell (.inr hxge) _
   have hs8:w8.heap.size=w7.heap.size:=by rw [hw];exact set_size _ _ _
   replace hbx:=Blk.set2 hbx (.slice rA7 rL7 rC7)
   replace hkr:=KRow.put (i:=2) hkr (.slice rA7 rL7 rC7)
   rw [← hw] at hbx hkr
   clear hw
   refine hKK _ _ ?_
   clear hKK KK
   refine wpAny_done (by kernel_rfl) ?_ _
   cases hq:sees [45,62] (R5) with
   | true =>
    have c:=take_any [45,62] (by simp) r w8 (R5) hI8 hwf
    rw [hq] at c
    simp only [if_true,Bool.false_eq_true,if_false] at c
    rw [if_pos hq] at HX
    go_wp2_with fail
    refine c.mono ?_
    rintro e w9 ⟨rfl,hI9,hk9⟩
    have hK9:=hK8.trans hk9
    clear c hq
    replace hbx:=Blk.kp hbx hk9 hbx.lt (by omega)
    replace hkr:=KRow.kp hkr hk9 (by omega)
    go_wp2_with fail
    obtain⟨w10,hw10⟩:∃ w0,w0=w9.drew:=⟨_,rfl⟩
    have hB10:Below w9.heap.size w9 w10:=by rw [hw10];exact Below.drew (Below.refl _ _)
    have hI10:=hI9.below hB10
    have hK10:=chainK hK9 hB10
    have hk10:=Kp.of_below (b:=r.b) hB10
    refine wp_region_any (by kernel_rfl) ?_
    change wpAny _ _ _ _ _ _ _ (World.drew _)
    rw [← hw10]
    clear hw10
    replace hbx:=Blk.kp hbx hk10 hbx.lt (by omega)
    replace hkr:=KRow.kp hkr hk10 (by omega)
    clear hB10 hk10
    refine wpAny_take (i:=0) (v:=.pointer (some ⟨x,2,none⟩)) rfl (by kernel_rfl) (by kernel_rfl) (by kernel_rfl) (fun _ _ _ h=>h) (Or.inl ⟨by rfl,fun w=>by go_simp⟩) ?_
    simp only [Act.put,List.setIfInBounds_toArray,List.set_cons_zero,List.set_cons_succ]
    refine wpAny_take (i:=2) (v:=r.ptr) rfl (by kernel_rfl) (by kernel_rfl) (by kernel_rfl) (fun _ _ _ h=>h) (Or.inl ⟨by rfl,fun w=>by go_simp⟩) ?_
    simp only [Act.put,List.setIfInBounds_toArray,List.set_cons_zero,List.set_cons_succ]
    refine wpAny_take (i:=3) (v:=.int .i64 (l:Nat)) rfl (by kernel_rfl) (by kernel_rfl) (by kernel_rfl) (fun _ _ _ h=>h) (Or.inl ⟨by rfl,fun w=>by go_simp⟩) ?_
    simp only [Act.put,List.setIfInBounds_toArray,List.set_cons_zero,List.set_cons_succ]
    refine wpAny_take (i:=4) (v:=.int .i64 ((l:Int) + 1)) rfl (by kernel_rfl) (by kernel_rfl) (by kernel_rfl) (fun _ _ _ h=>h) (Or.inl ⟨by rfl,fun w=>by go_simp⟩) ?_
    simp only [Act.put,List.setIfInBounds_toArray,List.set_cons_zero,List.set_cons_succ]
    refine wpAny_ready (rs:=[1,5]) (by kernel_rfl) (by simp) ?_
    refine AllReady.cons rfl (fun KK hKK=>?_) (AllReady.cons rfl (fun KK hKK=>?_) AllReady.nil)
    ·skip
     obtain⟨c0,c1,c2,c3,c4,_⟩:=hbx.cells
     go_simp
     clear c0 c1 c2 c3 c4
     refine hKK _ _ ?_
     clear hKK KK
     refine wpAny_ready (rs:=[5]) (by kernel_rfl) (by simp) ?_
     refine AllReady.cons rfl (fun KK hKK=>?_) AllReady.nil
     go_simp
     have hN11:NF (termP r.e f (l+1) ((R5).tail)):=NF.left (by have h:=hNF;rw [← HX.out] at h;exact h)
     have c:=iht (l+1) ((R5).tail) w10 (by omega) hI10 hN11
     rw [castS] at c
     have hxl11:=hbx.lt
     have hown11:=hkr.own
     cases hq:termP r.e f (l+1) ((R5).tail) using Rs.cs with
     | bad p y =>
      rw [hq] at c HX
      refine c.mono ?_
      rintro e w11 ⟨rfl,hb⟩
      exact⟨rfl,rule_bad HX.out.symm hB1 hK10 hlt hb⟩
     | ok t11 R11 =>
      rw [hq] at c HX
      rw [bnd_ok] at HX
      refine c.mono ?_
      rintro e w11 ⟨v11,rfl,ht11,hI11,hk11⟩
      have hK11:=hK10.trans hk11
      clear c hq
      replace hbx:=Blk.kp hbx hk11 hbx.lt (by omega)
      replace hkr:=KRow.kp hkr hk11 (by omega)
      have hz11:=ht11
      have hms11:=hK10.size
      clear ht11
      obtain⟨vk11,vn11,rfl,hf11,ka11,kc11,rfl⟩:=TrIn.form hz11
      obtain⟨na11,nc11,rfl⟩:=hf11.form
      clear hf11
      refine hKK _ _ ?_
      clear hKK KK
      refine wpAny_ready (rs:=[6]) (by kernel_rfl) (by simp) ?_
      refine AllReady.cons rfl (fun KK hKK=>?_) AllReady.nil
      go_simp
      have hal:=below_alloc w11 (.cells #[.int .i64 (t11.kind:Nat),.string (bs t11.name),.slice ka11 t11.kids.length kc11,.slice na11 t11.names.length nc11,.int .i64 (t11.at_:Nat)] 26)
      have hkl:=Kp.of_below (b:=r.b) hal
      obtain⟨w12,hw12⟩:∃ w0,w0=w11.alloc (.cells #[.int .i64 (t11.kind:Nat),.string (bs t11.name),.slice ka11 t11.kids.length kc11,.slice na11 t11.names.length nc11,.int .i64 (t11.at_:Nat)] 26):=⟨_,rfl⟩
      rw [← hw12] at hal hkl ⊢
      have hI12:=hI11.below hal
      have hK12:=chainK hK11 hal
      have Hw12:Hid (_=_):=hw12
      clear hw12
      replace hbx:=Blk.kp hbx hkl hbx.lt (by omega)
      replace hkr:=KRow.kp hkr hkl (by omega)
      replace hz11:=TrIn.kp hz11 hkl (by omega)
      refine hKK _ _ ?_
      clear hKK KK
      refine wpAny_ready (rs:=[7]) (by kernel_rfl) (by simp) ?_
      refine AllReady.cons rfl (fun KK hKK=>?_) AllReady.nil
      refine step_append_tree (n:=w1.heap.size) (x:=x) (m:=w10.heap.size) rfl (.tmp 19) (.tmp 24) rfl rfl rfl hkr hz11 (one_cells _ _ _ _ _ _ _) hown11 hxl11 hms11 (fun j y hj=>by rw [Hw12.out];exact new_cell _ _ _ _ j y rfl hj) (by simp) hK12.size hbx.lt ?_
      intro v13 w13 hkr13 hg13
      have hI13:=hI12.grownK hkr hg13 (by omega)
      have hK13:=hK12.grownK hkr hg13 (Nat.le_refl _)
      replace hbx:=hbx.grownK hkr hg13
      clear hkr hz11 hg13 Hw12 hal hkl hms11 hown11 hxl11
      have hkr:=hkr13
      clear hkr13
      obtain⟨rA13,rL13,rC13,rfl⟩:=hkr.form2
      refine hKK _ _ ?_
      clear hKK KK
      refine wpAny_ready (rs:=[8]) (by kernel_rfl) (by simp) ?_
      refine AllReady.cons rfl (fun KK hKK=>?_) AllReady.nil
      go_simp
      refine hKK _ _ ?_
      clear hKK KK
      refine wpAny_ready (rs:=[9]) (by kernel_rfl) (by simp) ?_
      refine AllReady.cons rfl (fun KK hKK=>?_) AllReady.nil
      obtain⟨c0,c1,c2,c3,c4,f0,f1,f2,f3,f4⟩:=hbx.cells
      go_simp
      clear c0 c1 c2 c3 c4 f0 f1 f2 f3 f4
      obtain⟨w14,hw⟩:∃ w0,w0=w13.setCell ⟨x,2,none⟩ (.slice rA13 rL13 rC13):=⟨_,rfl⟩
      rw [← hw]
      have hI14:r.In w14 (R11):=by rw [hw];exact hI13.put (by omega) _
      have hK14:Kp r.b w1 w14:=by rw [hw];exact hK13.setCell (.inr hxge) _
      have hs14:w14.heap.size=w13.heap.size:=by rw [hw];exact set_size _ _ _
      replace hbx:=Blk.set2 hbx (.slice rA13 rL13 rC13)
      replace hkr:=KRow.put (i:=2) hkr (.slice rA13 rL13 rC13)
      rw [← hw] at hbx hkr
      clear hw
      refine hKK _ _ ?_
      clear hKK KK
      refine wpAny_done (by kernel_rfl) ?_ _
      obtain⟨c0,c1,c2,c3,c4,_⟩:=hbx.cells
      obtain⟨o0,o1,o2,o3,o4,z0,z1,z2,z3,z4⟩:=Blk.cells (hh1.kp hK14 hn1 hlt)
      go_wp2_with fail
      exact⟨rfl,.agg #[.int .i64 11,.string ⟨#[]⟩,.slice rA13 rL13 rC13,.slice none 0 0,.int .i64 (atP r.e R:Nat)],by simp [results,Tryz.results106,go_sem, *],rule_end (n:=w.heap.size) HX.out.symm hB1 rfl hn1 hI14 hlt hK14 (TrIn.fromB (hkr.tree 11 ([]) [] (atP r.e R) (.nil none 0))) _ _ _ _ _⟩
    ·skip
     go_simp
     have hN15:NF (termP r.e f (l+1) ((R5).tail)):=NF.left (by have h:=hNF;rw [← HX.out] at h;exact h)
     have c:=iht (l+1) ((R5).tail) w10 (by omega) hI10 hN15
     rw [castS] at c
     have hxl15:=hbx.lt
     have hown15:=hkr.own
     cases hq:termP r.e f (l+1) ((R5).tail) using Rs.cs with
     | bad p y =>
      rw [hq] at c HX
      refine c.mono ?_
      rintro e w15 ⟨rfl,hb⟩
      exact⟨rfl,rule_bad HX.out.symm hB1 hK10 hlt hb⟩
     | ok t15 R15 =>
      rw [hq] at c HX
      rw [bnd_ok] at HX
      refine c.mono ?_
      rintro e w15 ⟨v15,rfl,ht15,hI15,hk15⟩
      have hK15:=hK10.trans hk15
      clear c hq
      replace hbx:=Blk.kp hbx hk15 hbx.lt (by omega)
      replace hkr:=KRow.kp hkr hk15 (by omega)
      have hz15:=ht15
      have hms15:=hK10.size
      clear ht15
      obtain⟨vk15,vn15,rfl,hf15,ka15,kc15,rfl⟩:=TrIn.form hz15
      obtain⟨na15,nc15,rfl⟩:=hf15.form
      clear hf15
      refine hKK _ _ ?_
      clear hKK KK
      refine wpAny_ready (rs:=[1,6]) (by kernel_rfl) (by simp) ?_
      refine AllReady.cons rfl (fun KK hKK=>?_) (AllReady.cons rfl (fun KK hKK=>?_) AllReady.nil)
      ·skip
       obtain⟨c0,c1,c2,c3,c4,_⟩:=hbx.cells
       go_simp
       clear c0 c1 c2 c3 c4
       refine hKK _ _ ?_
       clear hKK KK
       refine wpAny_ready (rs:=[6]) (by kernel_rfl) (by simp) ?_
       refine AllReady.cons rfl (fun KK hKK=>?_) AllReady.nil
       go_simp
       have hal:=below_alloc w15 (.cells #[.int .i64 (t15.kind:Nat),.string (bs t15.name),.slice ka15 t15.kids.length kc15,.slice na15 t15.names.length nc15,.int .i64 (t15.at_:Nat)] 26)
       have hkl:=Kp.of_below (b:=r.b) hal
       obtain⟨w16,hw16⟩:∃ w0,w0=w15.alloc (.cells #[.int .i64 (t15.kind:Nat),.string (bs t15.name),.slice ka15 t15.kids.length kc15,.slice na15 t15.names.length nc15,.int .i64 (t15.at_:Nat)] 26):=⟨_,rfl⟩
       rw [← hw16] at hal hkl ⊢
       have hI16:=hI15.below hal
       have hK16:=chainK hK15 hal
       have Hw16:Hid (_=_):=hw16
       clear hw16
       replace hbx:=Blk.kp hbx hkl hbx.lt (by omega)
       replace hkr:=KRow.kp hkr hkl (by omega)
       replace hz15:=TrIn.kp hz15 hkl (by omega)
       refine hKK _ _ ?_
       clear hKK KK
       refine wpAny_ready (rs:=[7]) (by kernel_rfl) (by simp) ?_
       refine AllReady.cons rfl (fun KK hKK=>?_) AllReady.nil
       refine step_append_tree (n:=w1.heap.size) (x:=x) (m:=w10.heap.size) rfl (.tmp 19) (.tmp 24) rfl rfl rfl hkr hz15 (one_cells _ _ _ _ _ _ _) hown15 hxl15 hms15 (fun j y hj=>by rw [Hw16.out];exact new_cell _ _ _ _ j y rfl hj) (by simp) hK16.size hbx.lt ?_
       intro v17 w17 hkr17 hg17
       have hI17:=hI16.grownK hkr hg17 (by omega)
       have hK17:=hK16.grownK hkr hg17 (Nat.le_refl _)
       replace hbx:=hbx.grownK hkr hg17
       clear hkr hz15 hg17 Hw16 hal hkl hms15 hown15 hxl15
       have hkr:=hkr17
       clear hkr17
       obtain⟨rA17,rL17,rC17,rfl⟩:=hkr.form2
       refine hKK _ _ ?_
       clear hKK KK
       refine wpAny_ready (rs:=[8]) (by kernel_rfl) (by simp) ?_
       refine AllReady.cons rfl (fun KK hKK=>?_) AllReady.nil
       go_simp
       refine hKK _ _ ?_
       clear hKK KK
       refine wpAny_ready (rs:=[9]) (by kernel_rfl) (by simp) ?_
       refine AllReady.cons rfl (fun KK hKK=>?_) AllReady.nil
       obtain⟨c0,c1,c2,c3,c4,f0,f1,f2,f3,f4⟩:=hbx.cells
       go_simp
       clear c0 c1 c2 c3 c4 f0 f1 f2 f3 f4
       obtain⟨w18,hw⟩:∃ w0,w0=w17.setCell ⟨x,2,none⟩ (.slice rA17 rL17 rC17):=⟨_,rfl⟩
       rw [← hw]
       have hI18:r.In w18 (R15):=by rw [hw];exact hI17.put (by omega) _
       have hK18:Kp r.b w1 w18:=by rw [hw];exact hK17.setCell (.inr hxge) _
       have hs18:w18.heap.size=w17.heap.size:=by rw [hw];exact set_size _ _ _
       replace hbx:=Blk.set2 hbx (.slice rA17 rL17 rC17)
       replace hkr:=KRow.put (i:=2) hkr (.slice rA17 rL17 rC17)
       rw [← hw] at hbx hkr
       clear hw
       refine hKK _ _ ?_
       clear hKK KK
       refine wpAny_done (by kernel_rfl) ?_ _
       obtain⟨c0,c1,c2,c3,c4,_⟩:=hbx.cells
       obtain⟨o0,o1,o2,o3,o4,z0,z1,z2,z3,z4⟩:=Blk.cells (hh1.kp hK18 hn1 hlt)
       go_wp2_with fail
       exact⟨rfl,.agg #[.int .i64 11,.string ⟨#[]⟩,.slice rA17 rL17 rC17,.slice none 0 0,.int .i64 (atP r.e R:Nat)],by simp [results,Tryz.results106,go_sem, *],rule_end (n:=w.heap.size) HX.out.symm hB1 rfl hn1 hI18 hlt hK18 (TrIn.fromB (hkr.tree 11 ([]) [] (atP r.e R) (.nil none 0))) _ _ _ _ _⟩
      ·skip
       go_simp
       have hal:=below_alloc w15 (.cells #[.int .i64 (t15.kind:Nat),.string (bs t15.name),.slice ka15 t15.kids.length kc15,.slice na15 t15.names.length nc15,.int .i64 (t15.at_:Nat)] 26)
       have hkl:=Kp.of_below (b:=r.b) hal
       obtain⟨w19,hw19⟩:∃ w0,w0=w15.alloc (.cells #[.int .i64 (t15.kind:Nat),.string (bs t15.name),.slice ka15 t15.kids.length kc15,.slice na15 t15.names.length nc15,.int .i64 (t15.at_:Nat)] 26):=⟨_,rfl⟩
       rw [← hw19] at hal hkl ⊢
       have hI19:=hI15.below hal
       have hK19:=chainK hK15 hal
       have Hw19:Hid (_=_):=hw19
       clear hw19
       replace hbx:=Blk.kp hbx hkl hbx.lt (by omega)
       replace hkr:=KRow.kp hkr hkl (by omega)
       replace hz15:=TrIn.kp hz15 hkl (by omega)
       refine hKK _ _ ?_
       clear hKK KK
       refine wpAny_ready (rs:=[1]) (by kernel_rfl) (by simp) ?_
       refine AllReady.cons rfl (fun KK hKK=>?_) AllReady.nil
       obtain⟨c0,c1,c2,c3,c4,_⟩:=hbx.cells
       go_simp
       clear c0 c1 c2 c3 c4
       refine hKK _ _ ?_
       clear hKK KK
       refine wpAny_ready (rs:=[7]) (by kernel_rfl) (by simp) ?_
       refine AllReady.cons rfl (fun KK hKK=>?_) AllReady.nil
       refine step_append_tree (n:=w1.heap.size) (x:=x) (m:=w10.heap.size) rfl (.tmp 19) (.tmp 24) rfl rfl rfl hkr hz15 (one_cells _ _ _ _ _ _ _) hown15 hxl15 hms15 (fun j y hj=>by rw [Hw19.out];exact new_cell _ _ _ _ j y rfl hj) (by simp) hK19.size hbx.lt ?_
       intro v20 w20 hkr20 hg20
       have hI20:=hI19.grownK hkr hg20 (by omega)
       have hK20:=hK19.grownK hkr hg20 (Nat.le_refl _)
       replace hbx:=hbx.grownK hkr hg20
       clear hkr hz15 hg20 Hw19 hal hkl hms15 hown15 hxl15
       have hkr:=hkr20
       clear hkr20
       obtain⟨rA20,rL20,rC20,rfl⟩:=hkr.form2
       refine hKK _ _ ?_
       clear hKK KK
       refine wpAny_ready (rs:=[8]) (by kernel_rfl) (by simp) ?_
       refine AllReady.cons rfl (fun KK hKK=>?_) AllReady.nil
       go_simp
       refine hKK _ _ ?_
       clear hKK KK
       refine wpAny_ready (rs:=[9]) (by kernel_rfl) (by simp) ?_
       refine AllReady.cons rfl (fun KK hKK=>?_) AllReady.nil
       obtain⟨c0,c1,c2,c3,c4,f0,f1,f2,f3,f4⟩:=hbx.cells
       go_simp
       clear c0 c1 c2 c3 c4 f0 f1 f2 f3 f4
       obtain⟨w21,hw⟩:∃ w0,w0=w20.setCell ⟨x,2,none⟩ (.slice rA20 rL20 rC20):=⟨_,rfl⟩
       rw [← hw]
       have hI21:r.In w21 (R15):=by rw [hw];exact hI20.put (by omega) _
       have hK21:Kp r.b w1 w21:=by rw [hw];exact hK20.setCell (.inr hxge) _
       have hs21:w21.heap.size=w20.heap.size:=by rw [hw];exact set_size _ _ _
       replace hbx:=Blk.set2 hbx (.slice rA20 rL20 rC20)
       replace hkr:=KRow.put (i:=2) hkr (.slice rA20 rL20 rC20)
       rw [← hw] at hbx hkr
       clear hw
       refine hKK _ _ ?_
       clear hKK KK
       refine wpAny_done (by kernel_rfl) ?_ _
       obtain⟨c0,c1,c2,c3,c4,_⟩:=hbx.cells
       obtain⟨o0,o1,o2,o3,o4,z0,z1,z2,z3,z4⟩:=Blk.cells (hh1.kp hK21 hn1 hlt)
       go_wp2_with fail
       exact⟨rfl,.agg #[.int .i64 11,.string ⟨#[]⟩,.slice rA20 rL20 rC20,.slice none 0 0,.int .i64 (atP r.e R:Nat)],by simp [results,Tryz.results106,go_sem, *],rule_end (n:=w.heap.size) HX.out.symm hB1 rfl hn1 hI21 hlt hK21 (TrIn.fromB (hkr.tree 11 ([]) [] (atP r.e R) (.nil none 0))) _ _ _ _ _⟩
   | false =>
    have c:=take_any [45,62] (by simp) r w8 (R5) hI8 hwf
    rw [hq] at c
    simp only [if_true,Bool.false_eq_true,if_false] at c
    rw [if_neg (neT hq)] at HX
    go_wp2_with fail
    refine c.mono ?_
    rintro e w22 ⟨rfl,hI22,hk22⟩
    have hK22:=hK8.trans hk22
    clear c hq
    replace hbx:=Blk.kp hbx hk22 hbx.lt (by omega)
    replace hkr:=KRow.kp hkr hk22 (by omega)
    obtain⟨c0,c1,c2,c3,c4,_⟩:=hbx.cells
    obtain⟨o0,o1,o2,o3,o4,z0,z1,z2,z3,z4⟩:=Blk.cells (hh1.kp hK22 hn1 hlt)
    go_wp2_with fail
    exact⟨rfl,.agg #[.int .i64 11,.string ⟨#[]⟩,.slice rA7 rL7 rC7,.slice none 0 0,.int .i64 (atP r.e R:Nat)],by simp [results,Tryz.results106,go_sem, *],rule_end (n:=w.heap.size) HX.out.symm hB1 rfl hn1 hI22 hlt hK22 (TrIn.fromB (hkr.tree 11 ([]) [] (atP r.e R) (.nil none 0))) _ _ _ _ _⟩
 ·skip
  go_simp
  have hN23:NF (faceP r.e f (R)):=NF.left (by have h:=hNF;rw [← HX.out] at h;exact h)
  have c:=ihf (R) w4 hI4 hN23
  have hxl23:=hbx.lt
  have hown23:=hkr.own
  cases hq:faceP r.e f (R) using Rs.cs with
  | bad p y =>
   rw [hq] at c HX
   refine c.mono ?_
   rintro e w23 ⟨rfl,hb⟩
   exact⟨rfl,rule_bad HX.out.symm hB1 hK4 hlt hb⟩
  | ok t23 R23 =>
   rw [hq] at c HX
   rw [bnd_ok] at HX
   refine c.mono ?_
   rintro e w23 ⟨v23,rfl,ht23,hI23,hk23⟩
   have hK23:=hK4.trans hk23
   clear c hq
   replace hbx:=Blk.kp hbx hk23 hbx.lt (by omega)
   replace hkr:=KRow.kp hkr hk23 (by omega)
   have hz23:=ht23
   have hms23:=hK4.size
   clear ht23
   obtain⟨vk23,vn23,rfl,hf23,ka23,kc23,rfl⟩:=TrIn.form hz23
   obtain⟨na23,nc23,rfl⟩:=hf23.form
   clear hf23
   refine hKK _ _ ?_
   clear hKK KK
   refine wpAny_ready (rs:=[1,4]) (by kernel_rfl) (by simp) ?_
   refine AllReady.cons rfl (fun KK hKK=>?_) (AllReady.cons rfl (fun KK hKK=>?_) AllReady.nil)
   ·skip
    obtain⟨c0,c1,c2,c3,c4,_⟩:=hbx.cells
    go_simp
    clear c0 c1 c2 c3 c4
    refine hKK _ _ ?_
    clear hKK KK
    refine wpAny_ready (rs:=[4]) (by kernel_rfl) (by simp) ?_
    refine AllReady.cons rfl (fun KK hKK=>?_) AllReady.nil
    go_simp
    have hal:=below_alloc w23 (.cells #[.int .i64 (t23.kind:Nat),.string (bs t23.name),.slice ka23 t23.kids.length kc23,.slice na23 t23.names.length nc23,.int .i64 (t23.at_:Nat)] 26)
    have hkl:=Kp.of_below (b:=r.b) hal
    obtain⟨w24,hw24⟩:∃ w0,w0=w23.alloc (.cells #[.int .i64 (t23.kind:Nat),.string (bs t23.name),.slice ka23 t23.kids.length kc23,.slice na23 t23.names.length nc23,.int .i64 (t23.at_:Nat)] 26):=⟨_,rfl⟩
    rw [← hw24] at hal hkl ⊢
    have hI24:=hI23.below hal
    have hK24:=chainK hK23 hal
    have Hw24:Hid (_=_):=hw24
    clear hw24
    replace hbx:=Blk.kp hbx hkl hbx.lt (by omega)
    replace hkr:=KRow.kp hkr hkl (by omega)
    replace hz23:=TrIn.kp hz23 hkl (by omega)
    refine hKK _ _ ?_
    clear hKK KK
    refine wpAny_ready (rs:=[5]) (by kernel_rfl) (by simp) ?_
    refine AllReady.cons rfl (fun KK hKK=>?_) AllReady.nil
    refine step_append_tree (n:=w1.heap.size) (x:=x) (m:=w4.heap.size) rfl (.tmp 10) (.tmp 13) rfl rfl rfl hkr hz23 (one_cells _ _ _ _ _ _ _) hown23 hxl23 hms23 (fun j y hj=>by rw [Hw24.out];exact new_cell _ _ _ _ j y rfl hj) (by simp) hK24.size hbx.lt ?_
    intro v25 w25 hkr25 hg25
    have hI25:=hI24.grownK hkr hg25 (by omega)
    have hK25:=hK24.grownK hkr hg25 (Nat.le_refl _)
    replace hbx:=hbx.grownK hkr hg25
    clear hkr hz23 hg25 Hw24 hal hkl hms23 hown23 hxl23
    have hkr:=hkr25
    clear hkr25
    obtain⟨rA25,rL25,rC25,rfl⟩:=hkr.form2
    refine hKK _ _ ?_
    clear hKK KK
    refine wpAny_ready (rs:=[6]) (by kernel_rfl) (by simp) ?_
    refine AllReady.cons rfl (fun KK hKK=>?_) AllReady.nil
    go_simp
    refine hKK _ _ ?_
    clear hKK KK
    refine wpAny_ready (rs:=[7]) (by kernel_rfl) (by simp) ?_
    refine AllReady.cons rfl (fun KK hKK=>?_) AllReady.nil
    obtain⟨c0,c1,c2,c3,c4,f0,f1,f2,f3,f4⟩:=hbx.cells
    go_simp
    clear c0 c1 c2 c3 c4 f0 f1 f2 f3 f4
    obtain⟨w26,hw⟩:∃ w0,w0=w25.setCell ⟨x,2,none⟩ (.slice rA25 rL25 rC25):=⟨_,rfl⟩
    rw [← hw]
    have hI26:r.In w26 (R23):=by rw [hw];exact hI25.put (by omega) _
    have hK26:Kp r.b w1 w26:=by rw [hw];exact hK25.setCell (.inr hxge) _
    have hs26:w26.heap.size=w25.heap.size:=by rw [hw];exact set_size _ _ _
    replace hbx:=Blk.set2 hbx (.slice rA25 rL25 rC25)
    replace hkr:=KRow.put (i:=2) hkr (.slice rA25 rL25 rC25)
    rw [← hw] at hbx hkr
    clear hw
    refine hKK _ _ ?_
    clear hKK KK
    refine wpAny_done (by kernel_rfl) ?_ _
    cases hq:sees [45,62] (R23) with
    | true =>
     have c:=take_any [45,62] (by simp) r w26 (R23) hI26 hwf
     rw [hq] at c
     simp only [if_true,Bool.false_eq_true,if_false] at c
     rw [if_pos hq] at HX
     go_wp2_with fail
     refine c.mono ?_
     rintro e w27 ⟨rfl,hI27,hk27⟩
     have hK27:=hK26.trans hk27
     clear c hq
     replace hbx:=Blk.kp hbx hk27 hbx.lt (by omega)
     replace hkr:=KRow.kp hkr hk27 (by omega)
     go_wp2_with fail
     obtain⟨w28,hw28⟩:∃ w0,w0=w27.drew:=⟨_,rfl⟩
     have hB28:Below w27.heap.size w27 w28:=by rw [hw28];exact Below.drew (Below.refl _ _)
     have hI28:=hI27.below hB28
     have hK28:=chainK hK27 hB28
     have hk28:=Kp.of_below (b:=r.b) hB28
     refine wp_region_any (by kernel_rfl) ?_
     change wpAny _ _ _ _ _ _ _ (World.drew _)
     rw [← hw28]
     clear hw28
     replace hbx:=Blk.kp hbx hk28 hbx.lt (by omega)
     replace hkr:=KRow.kp hkr hk28 (by omega)
     clear hB28 hk28
     refine wpAny_take (i:=0) (v:=.pointer (some ⟨x,2,none⟩)) rfl (by kernel_rfl) (by kernel_rfl) (by kernel_rfl) (fun _ _ _ h=>h) (Or.inl ⟨by rfl,fun w=>by go_simp⟩) ?_
     simp only [Act.put,List.setIfInBounds_toArray,List.set_cons_zero,List.set_cons_succ]
     refine wpAny_take (i:=2) (v:=r.ptr) rfl (by kernel_rfl) (by kernel_rfl) (by kernel_rfl) (fun _ _ _ h=>h) (Or.inl ⟨by rfl,fun w=>by go_simp⟩) ?_
     simp only [Act.put,List.setIfInBounds_toArray,List.set_cons_zero,List.set_cons_succ]
     refine wpAny_take (i:=3) (v:=.int .i64 (l:Nat)) rfl (by kernel_rfl) (by kernel_rfl) (by kernel_rfl) (fun _ _ _ h=>h) (Or.inl ⟨by rfl,fun w=>by go_simp⟩) ?_
     simp only [Act.put,List.setIfInBounds_toArray,List.set_cons_zero,List.set_cons_succ]
     refine wpAny_take (i:=4) (v:=.int .i64 ((l:Int) + 1)) rfl (by kernel_rfl) (by kernel_rfl) (by kernel_rfl) (fun _ _ _ h=>h) (Or.inl ⟨by rfl,fun w=>by go_simp⟩) ?_
     simp only [Act.put,List.setIfInBounds_toArray,List.set_cons_zero,List.set_cons_succ]
     refine wpAny_ready (rs:=[1,5]) (by kernel_rfl) (by simp) ?_
     refine AllReady.cons rfl (fun KK hKK=>?_) (AllReady.cons rfl (fun KK hKK=>?_) AllReady.nil)
     ·skip
      obtain⟨c0,c1,c2,c3,c4,_⟩:=hbx.cells
      go_simp
      clear c0 c1 c2 c3 c4
      refine hKK _ _ ?_
      clear hKK KK
      refine wpAny_ready (rs:=[5]) (by kernel_rfl) (by simp) ?_
      refine AllReady.cons rfl (fun KK hKK=>?_) AllReady.nil
      go_simp
      have hN29:NF (termP r.e f (l+1) ((R23).tail)):=NF.left (by have h:=hNF;rw [← HX.out] at h;exact h)
      have c:=iht (l+1) ((R23).tail) w28 (by omega) hI28 hN29
      rw [castS] at c
      have hxl29:=hbx.lt
      have hown29:=hkr.own
      cases hq:termP r.e f (l+1) ((R23).tail) using Rs.cs with
      | bad p y =>
       rw [hq] at c HX
       refine c.mono ?_
       rintro e w29 ⟨rfl,hb⟩
       exact⟨rfl,rule_bad HX.out.symm hB1 hK28 hlt hb⟩
      | ok t29 R29 =>
       rw [hq] at c HX
       rw [bnd_ok] at HX
       refine c.mono ?_
       rintro e w29 ⟨v29,rfl,ht29,hI29,hk29⟩
       have hK29:=hK28.trans hk29
       clear c hq
       replace hbx:=Blk.kp hbx hk29 hbx.lt (by omega)
       replace hkr:=KRow.kp hkr hk29 (by omega)
       have hz29:=ht29
       have hms29:=hK28.size
       clear ht29
       obtain⟨vk29,vn29,rfl,hf29,ka29,kc29,rfl⟩:=TrIn.form hz29
       obtain⟨na29,nc29,rfl⟩:=hf29.form
       clear hf29
       refine hKK _ _ ?_
       clear hKK KK
       refine wpAny_ready (rs:=[6]) (by kernel_rfl) (by simp) ?_
       refine AllReady.cons rfl (fun KK hKK=>?_) AllReady.nil
       go_simp
       have hal:=below_alloc w29 (.cells #[.int .i64 (t29.kind:Nat),.string (bs t29.name),.slice ka29 t29.kids.length kc29,.slice na29 t29.names.length nc29,.int .i64 (t29.at_:Nat)] 26)
       have hkl:=Kp.of_below (b:=r.b) hal
       obtain⟨w30,hw30⟩:∃ w0,w0=w29.alloc (.cells #[.int .i64 (t29.kind:Nat),.string (bs t29.name),.slice ka29 t29.kids.length kc29,.slice na29 t29.names.length nc29,.int .i64 (t29.at_:Nat)] 26):=⟨_,rfl⟩
       rw [← hw30] at hal hkl ⊢
       have hI30:=hI29.below hal
       have hK30:=chainK hK29 hal
       have Hw30:Hid (_=_):=hw30
       clear hw30
       replace hbx:=Blk.kp hbx hkl hbx.lt (by omega)
       replace hkr:=KRow.kp hkr hkl (by omega)
       replace hz29:=TrIn.kp hz29 hkl (by omega)
       refine hKK _ _ ?_
       clear hKK KK
       refine wpAny_ready (rs:=[7]) (by kernel_rfl) (by simp) ?_
       refine AllReady.cons rfl (fun KK hKK=>?_) AllReady.nil
       refine step_append_tree (n:=w1.heap.size) (x:=x) (m:=w28.heap.size) rfl (.tmp 19) (.tmp 24) rfl rfl rfl hkr hz29 (one_cells _ _ _ _ _ _ _) hown29 hxl29 hms29 (fun j y hj=>by rw [Hw30.out];exact new_cell _ _ _ _ j y rfl hj) (by simp) hK30.size hbx.lt ?_
       intro v31 w31 hkr31 hg31
       have hI31:=hI30.grownK hkr hg31 (by omega)
       have hK31:=hK30.grownK hkr hg31 (Nat.le_refl _)
       replace hbx:=hbx.grownK hkr hg31
       clear hkr hz29 hg31 Hw30 hal hkl hms29 hown29 hxl29
       have hkr:=hkr31
       clear hkr31
       obtain⟨rA31,rL31,rC31,rfl⟩:=hkr.form2
       refine hKK _ _ ?_
       clear hKK KK
       refine wpAny_ready (rs:=[8]) (by kernel_rfl) (by simp) ?_
       refine AllReady.cons rfl (fun KK hKK=>?_) AllReady.nil
       go_simp
       refine hKK _ _ ?_
       clear hKK KK
       refine wpAny_ready (rs:=[9]) (by kernel_rfl) (by simp) ?_
       refine AllReady.cons rfl (fun KK hKK=>?_) AllReady.nil
       obtain⟨c0,c1,c2,c3,c4,f0,f1,f2,f3,f4⟩:=hbx.cells
       go_simp
       clear c0 c1 c2 c3 c4 f0 f1 f2 f3 f4
       obtain⟨w32,hw⟩:∃ w0,w0=w31.setCell ⟨x,2,none⟩ (.slice rA31 rL31 rC31):=⟨_,rfl⟩
       rw [← hw]
       have hI32:r.In w32 (R29):=by rw [hw];exact hI31.put (by omega) _
       have hK32:Kp r.b w1 w32:=by rw [hw];exact hK31.setCell (.inr hxge) _
       have hs32:w32.heap.size=w31.heap.size:=by rw [hw];exact set_size _ _ _
       replace hbx:=Blk.set2 hbx (.slice rA31 rL31 rC31)
       replace hkr:=KRow.put (i:=2) hkr (.slice rA31 rL31 rC31)
       rw [← hw] at hbx hkr
       clear hw
       refine hKK _ _ ?_
       clear hKK KK
       refine wpAny_done (by kernel_rfl) ?_ _
       obtain⟨c0,c1,c2,c3,c4,_⟩:=hbx.cells
       obtain⟨o0,o1,o2,o3,o4,z0,z1,z2,z3,z4⟩:=Blk.cells (hh1.kp hK32 hn1 hlt)
       go_wp2_with fail
       exact⟨rfl,.agg #[.int .i64 11,.string ⟨#[]⟩,.slice rA31 rL31 rC31,.slice none 0 0,.int .i64 (atP r.e R:Nat)],by simp [results,Tryz.results106,go_sem, *],rule_end (n:=w.heap.size) HX.out.symm hB1 rfl hn1 hI32 hlt hK32 (TrIn.fromB (hkr.tree 11 ([]) [] (atP r.e R) (.nil none 0))) _ _ _ _ _⟩
     ·skip
      go_simp
      have hN33:NF (termP r.e f (l+1) ((R23).tail)):=NF.left (by have h:=hNF;rw [← HX.out] at h;exact h)
      have c:=iht (l+1) ((R23).tail) w28 (by omega) hI28 hN33
      rw [castS] at c
      have hxl33:=hbx.lt
      have hown33:=hkr.own
      cases hq:termP r.e f (l+1) ((R23).tail) using Rs.cs with
      | bad p y =>
       rw [hq] at c HX
       refine c.mono ?_
       rintro e w33 ⟨rfl,hb⟩
       exact⟨rfl,rule_bad HX.out.symm hB1 hK28 hlt hb⟩
      | ok t33 R33 =>
       rw [hq] at c HX
       rw [bnd_ok] at HX
       refine c.mono ?_
       rintro e w33 ⟨v33,rfl,ht33,hI33,hk33⟩
       have hK33:=hK28.trans hk33
       clear c hq
       replace hbx:=Blk.kp hbx hk33 hbx.lt (by omega)
       replace hkr:=KRow.kp hkr hk33 (by omega)
       have hz33:=ht33
       have hms33:=hK28.size
       clear ht33
       obtain⟨vk33,vn33,rfl,hf33,ka33,kc33,rfl⟩:=TrIn.form hz33
       obtain⟨na33,nc33,rfl⟩:=hf33.form
       clear hf33
       refine hKK _ _ ?_
       clear hKK KK
       refine wpAny_ready (rs:=[1,6]) (by kernel_rfl) (by simp) ?_
       refine AllReady.cons rfl (fun KK hKK=>?_) (AllReady.cons rfl (fun KK hKK=>?_) AllReady.nil)
       ·skip
        obtain⟨c0,c1,c2,c3,c4,_⟩:=hbx.cells
        go_simp
        clear c0 c1 c2 c3 c4
        refine hKK _ _ ?_
        clear hKK KK
        refine wpAny_ready (rs:=[6]) (by kernel_rfl) (by simp) ?_
        refine AllReady.cons rfl (fun KK hKK=>?_) AllReady.nil
        go_simp
        have hal:=below_alloc w33 (.cells #[.int .i64 (t33.kind:Nat),.string (bs t33.name),.slice ka33 t33.kids.length kc33,.slice na33 t33.names.length nc33,.int .i64 (t33.at_:Nat)] 26)
        have hkl:=Kp.of_below (b:=r.b) hal
        obtain⟨w34,hw34⟩:∃ w0,w0=w33.alloc (.cells #[.int .i64 (t33.kind:Nat),.string (bs t33.name),.slice ka33 t33.kids.length kc33,.slice na33 t33.names.length nc33,.int .i64 (t33.at_:Nat)] 26):=⟨_,rfl⟩
        rw [← hw34] at hal hkl ⊢
        have hI34:=hI33.below hal
        have hK34:=chainK hK33 hal
        have Hw34:Hid (_=_):=hw34
        clear hw34
        replace hbx:=Blk.kp hbx hkl hbx.lt (by omega)
        replace hkr:=KRow.kp hkr hkl (by omega)
        replace hz33:=TrIn.kp hz33 hkl (by omega)
        refine hKK _ _ ?_
        clear hKK KK
        refine wpAny_ready (rs:=[7]) (by kernel_rfl) (by simp) ?_
        refine AllReady.cons rfl (fun KK hKK=>?_) AllReady.nil
        refine step_append_tree (n:=w1.heap.size) (x:=x) (m:=w28.heap.size) rfl (.tmp 19) (.tmp 24) rfl rfl rfl hkr hz33 (one_cells _ _ _ _ _ _ _) hown33 hxl33 hms33 (fun j y hj=>by rw [Hw34.out];exact new_cell _ _ _ _ j y rfl hj) (by simp) hK34.size hbx.lt ?_
        intro v35 w35 hkr35 hg35
        have hI35:=hI34.grownK hkr hg35 (by omega)
        have hK35:=hK34.grownK hkr hg35 (Nat.le_refl _)
        replace hbx:=hbx.grownK hkr hg35
        clear hkr hz33 hg35 Hw34 hal hkl hms33 hown33 hxl33
        have hkr:=hkr35
        clear hkr35
        obtain⟨rA35,rL35,rC35,rfl⟩:=hkr.form2
        refine hKK _ _ ?_
        clear hKK KK
        refine wpAny_ready (rs:=[8]) (by kernel_rfl) (by simp) ?_
        refine AllReady.cons rfl (fun KK hKK=>?_) AllReady.nil
        go_simp
        refine hKK _ _ ?_
        clear hKK KK
        refine wpAny_ready (rs:=[9]) (by kernel_rfl) (by simp) ?_
        refine AllReady.cons rfl (fun KK hKK=>?_) AllReady.nil
        obtain⟨c0,c1,c2,c3,c4,f0,f1,f2,f3,f4⟩:=hbx.cells
        go_simp
        clear c0 c1 c2 c3 c4 f0 f1 f2 f3 f4
        obtain⟨w36,hw⟩:∃ w0,w0=w35.setCell ⟨x,2,none⟩ (.slice rA35 rL35 rC35):=⟨_,rfl⟩
        rw [← hw]
        have hI36:r.In w36 (R33):=by rw [hw];exact hI35.put (by omega) _
        have hK36:Kp r.b w1 w36:=by rw [hw];exact hK35.setCell (.inr hxge) _
        have hs36:w36.heap.size=w35.heap.size:=by rw [hw];exact set_size _ _ _
        replace hbx:=Blk.set2 hbx (.slice rA35 rL35 rC35)
        replace hkr:=KRow.put (i:=2) hkr (.slice rA35 rL35 rC35)
        rw [← hw] at hbx hkr
        clear hw
        refine hKK _ _ ?_
        clear hKK KK
        refine wpAny_done (by kernel_rfl) ?_ _
        obtain⟨c0,c1,c2,c3,c4,_⟩:=hbx.cells
        obtain⟨o0,o1,o2,o3,o4,z0,z1,z2,z3,z4⟩:=Blk.cells (hh1.kp hK36 hn1 hlt)
        go_wp2_with fail
        exact⟨rfl,.agg #[.int .i64 11,.string ⟨#[]⟩,.slice rA35 rL35 rC35,.slice none 0 0,.int .i64 (atP r.e R:Nat)],by simp [results,Tryz.results106,go_sem, *],rule_end (n:=w.heap.size) HX.out.symm hB1 rfl hn1 hI36 hlt hK36 (TrIn.fromB (hkr.tree 11 ([]) [] (atP r.e R) (.nil none 0))) _ _ _ _ _⟩
       ·skip
        go_simp
        have hal:=below_alloc w33 (.cells #[.int .i64 (t33.kind:Nat),.string (bs t33.name),.slice ka33 t33.kids.length kc33,.slice na33 t33.names.length nc33,.int .i64 (t33.at_:Nat)] 26)
        have hkl:=Kp.of_below (b:=r.b) hal
        obtain⟨w37,hw37⟩:∃ w0,w0=w33.alloc (.cells #[.int .i64 (t33.kind:Nat),.string (bs t33.name),.slice ka33 t33.kids.length kc33,.slice na33 t33.names.length nc33,.int .i64 (t33.at_:Nat)] 26):=⟨_,rfl⟩
        rw [← hw37] at hal hkl ⊢
        have hI37:=hI33.below hal
        have hK37:=chainK hK33 hal
        have Hw37:Hid (_=_):=hw37
        clear hw37
        replace hbx:=Blk.kp hbx hkl hbx.lt (by omega)
        replace hkr:=KRow.kp hkr hkl (by omega)
        replace hz33:=TrIn.kp hz33 hkl (by omega)
        refine hKK _ _ ?_
        clear hKK KK
        refine wpAny_ready (rs:=[1]) (by kernel_rfl) (by simp) ?_
        refine AllReady.cons rfl (fun KK hKK=>?_) AllReady.nil
        obtain⟨c0,c1,c2,c3,c4,_⟩:=hbx.cells
        go_simp
        clear c0 c1 c2 c3 c4
        refine hKK _ _ ?_
        clear hKK KK
        refine wpAny_ready (rs:=[7]) (by kernel_rfl) (by simp) ?_
        refine AllReady.cons rfl (fun KK hKK=>?_) AllReady.nil
        refine step_append_tree (n:=w1.heap.size) (x:=x) (m:=w28.heap.size) rfl (.tmp 19) (.tmp 24) rfl rfl rfl hkr hz33 (one_cells _ _ _ _ _ _ _) hown33 hxl33 hms33 (fun j y hj=>by rw [Hw37.out];exact new_cell _ _ _ _ j y rfl hj) (by simp) hK37.size hbx.lt ?_
        intro v38 w38 hkr38 hg38
        have hI38:=hI37.grownK hkr hg38 (by omega)
        have hK38:=hK37.grownK hkr hg38 (Nat.le_refl _)
        replace hbx:=hbx.grownK hkr hg38
        clear hkr hz33 hg38 Hw37 hal hkl hms33 hown33 hxl33
        have hkr:=hkr38
        clear hkr38
        obtain⟨rA38,rL38,rC38,rfl⟩:=hkr.form2
        refine hKK _ _ ?_
        clear hKK KK
        refine wpAny_ready (rs:=[8]) (by kernel_rfl) (by simp) ?_
        refine AllReady.cons rfl (fun KK hKK=>?_) AllReady.nil
        go_simp
        refine hKK _ _ ?_
        clear hKK KK
        refine wpAny_ready (rs:=[9]) (by kernel_rfl) (by simp) ?_
        refine AllReady.cons rfl (fun KK hKK=>?_) AllReady.nil
        obtain⟨c0,c1,c2,c3,c4,f0,f1,f2,f3,f4⟩:=hbx.cells
        go_simp
        clear c0 c1 c2 c3 c4 f0 f1 f2 f3 f4
        obtain⟨w39,hw⟩:∃ w0,w0=w38.setCell ⟨x,2,none⟩ (.slice rA38 rL38 rC38):=⟨_,rfl⟩
        rw [← hw]
        have hI39:r.In w39 (R33):=by rw [hw];exact hI38.put (by omega) _
        have hK39:Kp r.b w1 w39:=by rw [hw];exact hK38.setCell (.inr hxge) _
        have hs39:w39.heap.size=w38.heap.size:=by rw [hw];exact set_size _ _ _
        replace hbx:=Blk.set2 hbx (.slice rA38 rL38 rC38)
        replace hkr:=KRow.put (i:=2) hkr (.slice rA38 rL38 rC38)
        rw [← hw] at hbx hkr
        clear hw
        refine hKK _ _ ?_
        clear hKK KK
        refine wpAny_done (by kernel_rfl) ?_ _
        obtain⟨c0,c1,c2,c3,c4,_⟩:=hbx.cells
        obtain⟨o0,o1,o2,o3,o4,z0,z1,z2,z3,z4⟩:=Blk.cells (hh1.kp hK39 hn1 hlt)
        go_wp2_with fail
        exact⟨rfl,.agg #[.int .i64 11,.string ⟨#[]⟩,.slice rA38 rL38 rC38,.slice none 0 0,.int .i64 (atP r.e R:Nat)],by simp [results,Tryz.results106,go_sem, *],rule_end (n:=w.heap.size) HX.out.symm hB1 rfl hn1 hI39 hlt hK39 (TrIn.fromB (hkr.tree 11 ([]) [] (atP r.e R) (.nil none 0))) _ _ _ _ _⟩
    | false =>
     have c:=take_any [45,62] (by simp) r w26 (R23) hI26 hwf
     rw [hq] at c
     simp only [if_true,Bool.false_eq_true,if_false] at c
     rw [if_neg (neT hq)] at HX
     go_wp2_with fail
     refine c.mono ?_
     rintro e w40 ⟨rfl,hI40,hk40⟩
     have hK40:=hK26.trans hk40
     clear c hq
     replace hbx:=Blk.kp hbx hk40 hbx.lt (by omega)
     replace hkr:=KRow.kp hkr hk40 (by omega)
     obtain⟨c0,c1,c2,c3,c4,_⟩:=hbx.cells
     obtain⟨o0,o1,o2,o3,o4,z0,z1,z2,z3,z4⟩:=Blk.cells (hh1.kp hK40 hn1 hlt)
     go_wp2_with fail
     exact⟨rfl,.agg #[.int .i64 11,.string ⟨#[]⟩,.slice rA25 rL25 rC25,.slice none 0 0,.int .i64 (atP r.e R:Nat)],by simp [results,Tryz.results106,go_sem, *],rule_end (n:=w.heap.size) HX.out.symm hB1 rfl hn1 hI40 hlt hK40 (TrIn.fromB (hkr.tree 11 ([]) [] (atP r.e R) (.nil none 0))) _ _ _ _ _⟩
   ·skip
    go_simp
    have hal:=below_alloc w23 (.cells #[.int .i64 (t23.kind:Nat),.string (bs t23.name),.slice ka23 t23.kids.length kc23,.slice na23 t23.names.length nc23,.int .i64 (t23.at_:Nat)] 26)
    have hkl:=Kp.of_below (b:=r.b) hal
    obtain⟨w41,hw41⟩:∃ w0,w0=w23.alloc (.cells #[.int .i64 (t23.kind:Nat),.string (bs t23.name),.slice ka23 t23.kids.length kc23,.slice na23 t23.names.length nc23,.int .i64 (t23.at_:Nat)] 26):=⟨_,rfl⟩
    rw [← hw41] at hal hkl ⊢
    have hI41:=hI23.below hal
    have hK41:=chainK hK23 hal
    have Hw41:Hid (_=_):=hw41
    clear hw41
    replace hbx:=Blk.kp hbx hkl hbx.lt (by omega)
    replace hkr:=KRow.kp hkr hkl (by omega)
    replace hz23:=TrIn.kp hz23 hkl (by omega)
    refine hKK _ _ ?_
    clear hKK KK
    refine wpAny_ready (rs:=[1]) (by kernel_rfl) (by simp) ?_
    refine AllReady.cons rfl (fun KK hKK=>?_) AllReady.nil
    obtain⟨c0,c1,c2,c3,c4,_⟩:=hbx.cells
    go_simp
    clear c0 c1 c2 c3 c4
    refine hKK _ _ ?_
    clear hKK KK
    refine wpAny_ready (rs:=[5]) (by kernel_rfl) (by simp) ?_
    refine AllReady.cons rfl (fun KK hKK=>?_) AllReady.nil
    refine step_append_tree (n:=w1.heap.size) (x:=x) (m:=w4.heap.size) rfl (.tmp 10) (.tmp 13) rfl rfl rfl hkr hz23 (one_cells _ _ _ _ _ _ _) hown23 hxl23 hms23 (fun j y hj=>by rw [Hw41.out];exact new_cell _ _ _ _ j y rfl hj) (by simp) hK41.size hbx.lt ?_
    intro v42 w42 hkr42 hg42
    have hI42:=hI41.grownK hkr hg42 (by omega)
    have hK42:=hK41.grownK hkr hg42 (Nat.le_refl _)
    replace hbx:=hbx.grownK hkr hg42
    clear hkr hz23 hg42 Hw41 hal hkl hms23 hown23 hxl23
    have hkr:=hkr42
    clear hkr42
    obtain⟨rA42,rL42,rC42,rfl⟩:=hkr.form2
    refine hKK _ _ ?_
    clear hKK KK
    refine wpAny_ready (rs:=[6]) (by kernel_rfl) (by simp) ?_
    refine AllReady.cons rfl (fun KK hKK=>?_) AllReady.nil
    go_simp
    refine hKK _ _ ?_
    clear hKK KK
    refine wpAny_ready (rs:=[7]) (by kernel_rfl) (by simp) ?_
    refine AllReady.cons rfl (fun KK hKK=>?_) AllReady.nil
    obtain⟨c0,c1,c2,c3,c4,f0,f1,f2,f3,f4⟩:=hbx.cells
    go_simp
    clear c0 c1 c2 c3 c4 f0 f1 f2 f3 f4
    obtain⟨w43,hw⟩:∃ w0,w0=w42.setCell ⟨x,2,none⟩ (.slice rA42 rL42 rC42):=⟨_,rfl⟩
    rw [← hw]
    have hI43:r.In w43 (R23):=by rw [hw];exact hI42.put (by omega) _
    have hK43:Kp r.b w1 w43:=by rw [hw];exact hK42.setCell (.inr hxge) _
    have hs43:w43.heap.size=w42.heap.size:=by rw [hw];exact set_size _ _ _
    replace hbx:=Blk.set2 hbx (.slice rA42 rL42 rC42)
    replace hkr:=KRow.put (i:=2) hkr (.slice rA42 rL42 rC42)
    rw [← hw] at hbx hkr
    clear hw
    refine hKK _ _ ?_
    clear hKK KK
    refine wpAny_done (by kernel_rfl) ?_ _
    cases hq:sees [45,62] (R23) with
    | true =>
     have c:=take_any [45,62] (by simp) r w43 (R23) hI43 hwf
     rw [hq] at c
     simp only [if_true,Bool.false_eq_true,if_false] at c
     rw [if_pos hq] at HX
     go_wp2_with fail
     refine c.mono ?_
     rintro e w44 ⟨rfl,hI44,hk44⟩
     have hK44:=hK43.trans hk44
     clear c hq
     replace hbx:=Blk.kp hbx hk44 hbx.lt (by omega)
     replace hkr:=KRow.kp hkr hk44 (by omega)
     go_wp2_with fail
     obtain⟨w45,hw45⟩:∃ w0,w0=w44.drew:=⟨_,rfl⟩
     have hB45:Below w44.heap.size w44 w45:=by rw [hw45];exact Below.drew (Below.refl _ _)
     have hI45:=hI44.below hB45
     have hK45:=chainK hK44 hB45
     have hk45:=Kp.of_below (b:=r.b) hB45
     refine wp_region_any (by kernel_rfl) ?_
     change wpAny _ _ _ _ _ _ _ (World.drew _)
     rw [← hw45]
     clear hw45
     replace hbx:=Blk.kp hbx hk45 hbx.lt (by omega)
     replace hkr:=KRow.kp hkr hk45 (by omega)
     clear hB45 hk45
     refine wpAny_take (i:=0) (v:=.pointer (some ⟨x,2,none⟩)) rfl (by kernel_rfl) (by kernel_rfl) (by kernel_rfl) (fun _ _ _ h=>h) (Or.inl ⟨by rfl,fun w=>by go_simp⟩) ?_
     simp only [Act.put,List.setIfInBounds_toArray,List.set_cons_zero,List.set_cons_succ]
     refine wpAny_take (i:=2) (v:=r.ptr) rfl (by kernel_rfl) (by kernel_rfl) (by kernel_rfl) (fun _ _ _ h=>h) (Or.inl ⟨by rfl,fun w=>by go_simp⟩) ?_
     simp only [Act.put,List.setIfInBounds_toArray,List.set_cons_zero,List.set_cons_succ]
     refine wpAny_take (i:=3) (v:=.int .i64 (l:Nat)) rfl (by kernel_rfl) (by kernel_rfl) (by kernel_rfl) (fun _ _ _ h=>h) (Or.inl ⟨by rfl,fun w=>by go_simp⟩) ?_
     simp only [Act.put,List.setIfInBounds_toArray,List.set_cons_zero,List.set_cons_succ]
     refine wpAny_take (i:=4) (v:=.int .i64 ((l:Int) + 1)) rfl (by kernel_rfl) (by kernel_rfl) (by kernel_rfl) (fun _ _ _ h=>h) (Or.inl ⟨by rfl,fun w=>by go_simp⟩) ?_
     simp only [Act.put,List.setIfInBounds_toArray,List.set_cons_zero,List.set_cons_succ]
     refine wpAny_ready (rs:=[1,5]) (by kernel_rfl) (by simp) ?_
     refine AllReady.cons rfl (fun KK hKK=>?_) (AllReady.cons rfl (fun KK hKK=>?_) AllReady.nil)
     ·skip
      obtain⟨c0,c1,c2,c3,c4,_⟩:=hbx.cells
      go_simp
      clear c0 c1 c2 c3 c4
      refine hKK _ _ ?_
      clear hKK KK
      refine wpAny_ready (rs:=[5]) (by kernel_rfl) (by simp) ?_
      refine AllReady.cons rfl (fun KK hKK=>?_) AllReady.nil
      go_simp
      have hN46:NF (termP r.e f (l+1) ((R23).tail)):=NF.left (by have h:=hNF;rw [← HX.out] at h;exact h)
      have c:=iht (l+1) ((R23).tail) w45 (by omega) hI45 hN46
      rw [castS] at c
      have hxl46:=hbx.lt
      have hown46:=hkr.own
      cases hq:termP r.e f (l+1) ((R23).tail) using Rs.cs with
      | bad p y =>
       rw [hq] at c HX
       refine c.mono ?_
       rintro e w46 ⟨rfl,hb⟩
       exact⟨rfl,rule_bad HX.out.symm hB1 hK45 hlt hb⟩
      | ok t46 R46 =>
       rw [hq] at c HX
       rw [bnd_ok] at HX
       refine c.mono ?_
       rintro e w46 ⟨v46,rfl,ht46,hI46,hk46⟩
       have hK46:=hK45.trans hk46
       clear c hq
       replace hbx:=Blk.kp hbx hk46 hbx.lt (by omega)
       replace hkr:=KRow.kp hkr hk46 (by omega)
       have hz46:=ht46
       have hms46:=hK45.size
       clear ht46
       obtain⟨vk46,vn46,rfl,hf46,ka46,kc46,rfl⟩:=TrIn.form hz46
       obtain⟨na46,nc46,rfl⟩:=hf46.form
       clear hf46
       refine hKK _ _ ?_
       clear hKK KK
       refine wpAny_ready (rs:=[6]) (by kernel_rfl) (by simp) ?_
       refine AllReady.cons rfl (fun KK hKK=>?_) AllReady.nil
       go_simp
       have hal:=below_alloc w46 (.cells #[.int .i64 (t46.kind:Nat),.string (bs t46.name),.slice ka46 t46.kids.length kc46,.slice na46 t46.names.length nc46,.int .i64 (t46.at_:Nat)] 26)
       have hkl:=Kp.of_below (b:=r.b) hal
       obtain⟨w47,hw47⟩:∃ w0,w0=w46.alloc (.cells #[.int .i64 (t46.kind:Nat),.string (bs t46.name),.slice ka46 t46.kids.length kc46,.slice na46 t46.names.length nc46,.int .i64 (t46.at_:Nat)] 26):=⟨_,rfl⟩
       rw [← hw47] at hal hkl ⊢
       have hI47:=hI46.below hal
       have hK47:=chainK hK46 hal
       have Hw47:Hid (_=_):=hw47
       clear hw47
       replace hbx:=Blk.kp hbx hkl hbx.lt (by omega)
       replace hkr:=KRow.kp hkr hkl (by omega)
       replace hz46:=TrIn.kp hz46 hkl (by omega)
       refine hKK _ _ ?_
       clear hKK KK
       refine wpAny_ready (rs:=[7]) (by kernel_rfl) (by simp) ?_
       refine AllReady.cons rfl (fun KK hKK=>?_) AllReady.nil
       refine step_append_tree (n:=w1.heap.size) (x:=x) (m:=w45.heap.size) rfl (.tmp 19) (.tmp 24) rfl rfl rfl hkr hz46 (one_cells _ _ _ _ _ _ _) hown46 hxl46 hms46 (fun j y hj=>by rw [Hw47.out];exact new_cell _ _ _ _ j y rfl hj) (by simp) hK47.size hbx.lt ?_
       intro v48 w48 hkr48 hg48
       have hI48:=hI47.grownK hkr hg48 (by omega)
       have hK48:=hK47.grownK hkr hg48 (Nat.le_refl _)
       replace hbx:=hbx.grownK hkr hg48
       clear hkr hz46 hg48 Hw47 hal hkl hms46 hown46 hxl46
       have hkr:=hkr48
       clear hkr48
       obtain⟨rA48,rL48,rC48,rfl⟩:=hkr.form2
       refine hKK _ _ ?_
       clear hKK KK
       refine wpAny_ready (rs:=[8]) (by kernel_rfl) (by simp) ?_
       refine AllReady.cons rfl (fun KK hKK=>?_) AllReady.nil
       go_simp
       refine hKK _ _ ?_
       clear hKK KK
       refine wpAny_ready (rs:=[9]) (by kernel_rfl) (by simp) ?_
       refine AllReady.cons rfl (fun KK hKK=>?_) AllReady.nil
       obtain⟨c0,c1,c2,c3,c4,f0,f1,f2,f3,f4⟩:=hbx.cells
       go_simp
       clear c0 c1 c2 c3 c4 f0 f1 f2 f3 f4
       obtain⟨w49,hw⟩:∃ w0,w0=w48.setCell ⟨x,2,none⟩ (.slice rA48 rL48 rC48):=⟨_,rfl⟩
       rw [← hw]
       have hI49:r.In w49 (R46):=by rw [hw];exact hI48.put (by omega) _
       have hK49:Kp r.b w1 w49:=by rw [hw];exact hK48.setCell (.inr hxge) _
       have hs49:w49.heap.size=w48.heap.size:=by rw [hw];exact set_size _ _ _
       replace hbx:=Blk.set2 hbx (.slice rA48 rL48 rC48)
       replace hkr:=KRow.put (i:=2) hkr (.slice rA48 rL48 rC48)
       rw [← hw] at hbx hkr
       clear hw
       refine hKK _ _ ?_
       clear hKK KK
       refine wpAny_done (by kernel_rfl) ?_ _
       obtain⟨c0,c1,c2,c3,c4,_⟩:=hbx.cells
       obtain⟨o0,o1,o2,o3,o4,z0,z1,z2,z3,z4⟩:=Blk.cells (hh1.kp hK49 hn1 hlt)
       go_wp2_with fail
       exact⟨rfl,.agg #[.int .i64 11,.string ⟨#[]⟩,.slice rA48 rL48 rC48,.slice none 0 0,.int .i64 (atP r.e R:Nat)],by simp [results,Tryz.results106,go_sem, *],rule_end (n:=w.heap.size) HX.out.symm hB1 rfl hn1 hI49 hlt hK49 (TrIn.fromB (hkr.tree 11 ([]) [] (atP r.e R) (.nil none 0))) _ _ _ _ _⟩
     ·skip
      go_simp
      have hN50:NF (termP r.e f (l+1) ((R23).tail)):=NF.left (by have h:=hNF;rw [← HX.out] at h;exact h)
      have c:=iht (l+1) ((R23).tail) w45 (by omega) hI45 hN50
      rw [castS] at c
      have hxl50:=hbx.lt
      have hown50:=hkr.own
      cases hq:termP r.e f (l+1) ((R23).tail) using Rs.cs with
      | bad p y =>
       rw [hq] at c HX
       refine c.mono ?_
       rintro e w50 ⟨rfl,hb⟩
       exact⟨rfl,rule_bad HX.out.symm hB1 hK45 hlt hb⟩
      | ok t50 R50 =>
       rw [hq] at c HX
       rw [bnd_ok] at HX
       refine c.mono ?_
       rintro e w50 ⟨v50,rfl,ht50,hI50,hk50⟩
       have hK50:=hK45.trans hk50
       clear c hq
       replace hbx:=Blk.kp hbx hk50 hbx.lt (by omega)
       replace hkr:=KRow.kp hkr hk50 (by omega)
       have hz50:=ht50
       have hms50:=hK45.size
       clear ht50
       obtain⟨vk50,vn50,rfl,hf50,ka50,kc50,rfl⟩:=TrIn.form hz50
       obtain⟨na50,nc50,rfl⟩:=hf50.form
       clear hf50
       refine hKK _ _ ?_
       clear hKK KK
       refine wpAny_ready (rs:=[1,6]) (by kernel_rfl) (by simp) ?_
       refine AllReady.cons rfl (fun KK hKK=>?_) (AllReady.cons rfl (fun KK hKK=>?_) AllReady.nil)
       ·skip
        obtain⟨c0,c1,c2,c3,c4,_⟩:=hbx.cells
        go_simp
        clear c0 c1 c2 c3 c4
        refine hKK _ _ ?_
        clear hKK KK
        refine wpAny_ready (rs:=[6]) (by kernel_rfl) (by simp) ?_
        refine AllReady.cons rfl (fun KK hKK=>?_) AllReady.nil
        go_simp
        have hal:=below_alloc w50 (.cells #[.int .i64 (t50.kind:Nat),.string (bs t50.name),.slice ka50 t50.kids.length kc50,.slice na50 t50.names.length nc50,.int .i64 (t50.at_:Nat)] 26)
        have hkl:=Kp.of_below (b:=r.b) hal
        obtain⟨w51,hw51⟩:∃ w0,w0=w50.alloc (.cells #[.int .i64 (t50.kind:Nat),.string (bs t50.name),.slice ka50 t50.kids.length kc50,.slice na50 t50.names.length nc50,.int .i64 (t50.at_:Nat)] 26):=⟨_,rfl⟩
        rw [← hw51] at hal hkl ⊢
        have hI51:=hI50.below hal
        have hK51:=chainK hK50 hal
        have Hw51:Hid (_=_):=hw51
        clear hw51
        replace hbx:=Blk.kp hbx hkl hbx.lt (by omega)
        replace hkr:=KRow.kp hkr hkl (by omega)
        replace hz50:=TrIn.kp hz50 hkl (by omega)
        refine hKK _ _ ?_
        clear hKK KK
        refine wpAny_ready (rs:=[7]) (by kernel_rfl) (by simp) ?_
        refine AllReady.cons rfl (fun KK hKK=>?_) AllReady.nil
        refine step_append_tree (n:=w1.heap.size) (x:=x) (m:=w45.heap.size) rfl (.tmp 19) (.tmp 24) rfl rfl rfl hkr hz50 (one_cells _ _ _ _ _ _ _) hown50 hxl50 hms50 (fun j y hj=>by rw [Hw51.out];exact new_cell _ _ _ _ j y rfl hj) (by simp) hK51.size hbx.lt ?_
        intro v52 w52 hkr52 hg52
        have hI52:=hI51.grownK hkr hg52 (by omega)
        have hK52:=hK51.grownK hkr hg52 (Nat.le_refl _)
        replace hbx:=hbx.grownK hkr hg52
        clear hkr hz50 hg52 Hw51 hal hkl hms50 hown50 hxl50
        have hkr:=hkr52
        clear hkr52
        obtain⟨rA52,rL52,rC52,rfl⟩:=hkr.form2
        refine hKK _ _ ?_
        clear hKK KK
        refine wpAny_ready (rs:=[8]) (by kernel_rfl) (by simp) ?_
        refine AllReady.cons rfl (fun KK hKK=>?_) AllReady.nil
        go_simp
        refine hKK _ _ ?_
        clear hKK KK
        refine wpAny_ready (rs:=[9]) (by kernel_rfl) (by simp) ?_
        refine AllReady.cons rfl (fun KK hKK=>?_) AllReady.nil
        obtain⟨c0,c1,c2,c3,c4,f0,f1,f2,f3,f4⟩:=hbx.cells
        go_simp
        clear c0 c1 c2 c3 c4 f0 f1 f2 f3 f4
        obtain⟨w53,hw⟩:∃ w0,w0=w52.setCell ⟨x,2,none⟩ (.slice rA52 rL52 rC52):=⟨_,rfl⟩
        rw [← hw]
        have hI53:r.In w53 (R50):=by rw [hw];exact hI52.put (by omega) _
        have hK53:Kp r.b w1 w53:=by rw [hw];exact hK52.setCell (.inr hxge) _
        have hs53:w53.heap.size=w52.heap.size:=by rw [hw];exact set_size _ _ _
        replace hbx:=Blk.set2 hbx (.slice rA52 rL52 rC52)
        replace hkr:=KRow.put (i:=2) hkr (.slice rA52 rL52 rC52)
        rw [← hw] at hbx hkr
        clear hw
        refine hKK _ _ ?_
        clear hKK KK
        refine wpAny_done (by kernel_rfl) ?_ _
        obtain⟨c0,c1,c2,c3,c4,_⟩:=hbx.cells
        obtain⟨o0,o1,o2,o3,o4,z0,z1,z2,z3,z4⟩:=Blk.cells (hh1.kp hK53 hn1 hlt)
        go_wp2_with fail
        exact⟨rfl,.agg #[.int .i64 11,.string ⟨#[]⟩,.slice rA52 rL52 rC52,.slice none 0 0,.int .i64 (atP r.e R:Nat)],by simp [results,Tryz.results106,go_sem, *],rule_end (n:=w.heap.size) HX.out.symm hB1 rfl hn1 hI53 hlt hK53 (TrIn.fromB (hkr.tree 11 ([]) [] (atP r.e R) (.nil none 0))) _ _ _ _ _⟩
       ·skip
        go_simp
        have hal:=below_alloc w50 (.cells #[.int .i64 (t50.kind:Nat),.string (bs t50.name),.slice ka50 t50.kids.length kc50,.slice na50 t50.names.length nc50,.int .i64 (t50.at_:Nat)] 26)
        have hkl:=Kp.of_below (b:=r.b) hal
        obtain⟨w54,hw54⟩:∃ w0,w0=w50.alloc (.cells #[.int .i64 (t50.kind:Nat),.string (bs t50.name),.slice ka50 t50.kids.length kc50,.slice na50 t50.names.length nc50,.int .i64 (t50.at_:Nat)] 26):=⟨_,rfl⟩
        rw [← hw54] at hal hkl ⊢
        have hI54:=hI50.below hal
        have hK54:=chainK hK50 hal
        have Hw54:Hid (_=_):=hw54
        clear hw54
        replace hbx:=Blk.kp hbx hkl hbx.lt (by omega)
        replace hkr:=KRow.kp hkr hkl (by omega)
        replace hz50:=TrIn.kp hz50 hkl (by omega)
        refine hKK _ _ ?_
        clear hKK KK
        refine wpAny_ready (rs:=[1]) (by kernel_rfl) (by simp) ?_
        refine AllReady.cons rfl (fun KK hKK=>?_) AllReady.nil
        obtain⟨c0,c1,c2,c3,c4,_⟩:=hbx.cells
        go_simp
        clear c0 c1 c2 c3 c4
        refine hKK _ _ ?_
        clear hKK KK
        refine wpAny_ready (rs:=[7]) (by kernel_rfl) (by simp) ?_
        refine AllReady.cons rfl (fun KK hKK=>?_) AllReady.nil
        refine step_append_tree (n:=w1.heap.size) (x:=x) (m:=w45.heap.size) rfl (.tmp 19) (.tmp 24) rfl rfl rfl hkr hz50 (one_cells _ _ _ _ _ _ _) hown50 hxl50 hms50 (fun j y hj=>by rw [Hw54.out];exact new_cell _ _ _ _ j y rfl hj) (by simp) hK54.size hbx.lt ?_
        intro v55 w55 hkr55 hg55
        have hI55:=hI54.grownK hkr hg55 (by omega)
        have hK55:=hK54.grownK hkr hg55 (Nat.le_refl _)
        replace hbx:=hbx.grownK hkr hg55
        clear hkr hz50 hg55 Hw54 hal hkl hms50 hown50 hxl50
        have hkr:=hkr55
        clear hkr55
        obtain⟨rA55,rL55,rC55,rfl⟩:=hkr.form2
        refine hKK _ _ ?_
        clear hKK KK
        refine wpAny_ready (rs:=[8]) (by kernel_rfl) (by simp) ?_
        refine AllReady.cons rfl (fun KK hKK=>?_) AllReady.nil
        go_simp
        refine hKK _ _ ?_
        clear hKK KK
        refine wpAny_ready (rs:=[9]) (by kernel_rfl) (by simp) ?_
        refine AllReady.cons rfl (fun KK hKK=>?_) AllReady.nil
        obtain⟨c0,c1,c2,c3,c4,f0,f1,f2,f3,f4⟩:=hbx.cells
        go_simp
        clear c0 c1 c2 c3 c4 f0 f1 f2 f3 f4
        obtain⟨w56,hw⟩:∃ w0,w0=w55.setCell ⟨x,2,none⟩ (.slice rA55 rL55 rC55):=⟨_,rfl⟩
        rw [← hw]
        have hI56:r.In w56 (R50):=by rw [hw];exact hI55.put (by omega) _
        have hK56:Kp r.b w1 w56:=by rw [hw];exact hK55.setCell (.inr hxge) _
        have hs56:w56.heap.size=w55.heap.size:=by rw [hw];exact set_size _ _ _
        replace hbx:=Blk.set2 hbx (.slice rA55 rL55 rC55)
        replace hkr:=KRow.put (i:=2) hkr (.slice rA55 rL55 rC55)
        rw [← hw] at hbx hkr
        clear hw
        refine hKK _ _ ?_
        clear hKK KK
        refine wpAny_done (by kernel_rfl) ?_ _
        obtain⟨c0,c1,c2,c3,c4,_⟩:=hbx.cells
        obtain⟨o0,o1,o2,o3,o4,z0,z1,z2,z3,z4⟩:=Blk.cells (hh1.kp hK56 hn1 hlt)
        go_wp2_with fail
        exact⟨rfl,.agg #[.int .i64 11,.string ⟨#[]⟩,.slice rA55 rL55 rC55,.slice none 0 0,.int .i64 (atP r.e R:Nat)],by simp [results,Tryz.results106,go_sem, *],rule_end (n:=w.heap.size) HX.out.symm hB1 rfl hn1 hI56 hlt hK56 (TrIn.fromB (hkr.tree 11 ([]) [] (atP r.e R) (.nil none 0))) _ _ _ _ _⟩
    | false =>
     have c:=take_any [45,62] (by simp) r w43 (R23) hI43 hwf
     rw [hq] at c
     simp only [if_true,Bool.false_eq_true,if_false] at c
     rw [if_neg (neT hq)] at HX
     go_wp2_with fail
     refine c.mono ?_
     rintro e w57 ⟨rfl,hI57,hk57⟩
     have hK57:=hK43.trans hk57
     clear c hq
     replace hbx:=Blk.kp hbx hk57 hbx.lt (by omega)
     replace hkr:=KRow.kp hkr hk57 (by omega)
     obtain⟨c0,c1,c2,c3,c4,_⟩:=hbx.cells
     obtain⟨o0,o1,o2,o3,o4,z0,z1,z2,z3,z4⟩:=Blk.cells (hh1.kp hK57 hn1 hlt)
     go_wp2_with fail
     exact⟨rfl,.agg #[.int .i64 11,.string ⟨#[]⟩,.slice rA42 rL42 rC42,.slice none 0 0,.int .i64 (atP r.e R:Nat)],by simp [results,Tryz.results106,go_sem, *],rule_end (n:=w.heap.size) HX.out.symm hB1 rfl hn1 hI57 hlt hK57 (TrIn.fromB (hkr.tree 11 ([]) [] (atP r.e R) (.nil none 0))) _ _ _ _ _⟩
end Go.Proofs.YtahnbigkdfmpbaaGreatDoor
