/- Equations and faces. -/
import Derived.Deep.RegionWith
import Derived.Test.YtahnbigkdfmpbaaGreatDoorIPB
import Derived.Test.YtahnbigkdfmpbaaGreatDoorIPRow
set_option linter.unusedVariables false
set_option linter.unusedSimpArgs false
namespace Go.Proofs.YtahnbigkdfmpbaaGreatDoor
open Go.RowKit
set_option maxRecDepth 100000 in
set_option maxHeartbeats 4000000 in
theorem eq_any (r:Rdr) (hwf:r.wf):RuleC0 r 140 (eqP r.e):=by
 intro R w hR hNF
 obtain⟨X,hX⟩:∃ X,eqP r.e R=X:=⟨_,rfl⟩
 rw [hX] at hNF ⊢
 rw [eqP] at hX
 have HX:Hid (_=X):=hX
 clear hX
 have hlt:=hR.lt.2
 obtain⟨w1,hw1⟩:∃ w1,w1=w.alloc (.cells #[.int .i64 0,.string ⟨#[]⟩,.slice none 0 0,.slice none 0 0,.int .i64 0] 26):=⟨_,rfl⟩
 have hB1:Below w.heap.size w w1:=by rw [hw1];exact below_alloc _ _
 have hh1:Hole w1 w.heap.size:=by rw [hw1];exact hole_new w
 have hn1:w.heap.size<w1.heap.size:=by rw [hw1];simp
 have hI1:=hR.below hB1
 have hK1:=Kp.refl r.b w1
 have Hw1:Hid (_=_):=hw1
 clear hw1
 go_enter Tryz.func140,Tryz.ntmps140
 go_wp2_with fail
 rw [← Hw1.out]
 clear Hw1
 go_wp2_with fail
 refine (at_any r w1 (R) hI1 hwf).mono ?_
 rintro e w2 ⟨rfl,hb2⟩
 have hI2:=hI1.below hb2
 have hK2:=chainK hK1 hb2
 have hk2:=Kp.of_below (b:=r.b) hb2
 clear hb2 hk2
 go_wp2_with fail
 have hal:=below_alloc w2 (.cells #[.int .i64 13,.string ⟨#[]⟩,.slice none 0 0,.slice none 0 0,.int .i64 (atP r.e R:Nat)] 26)
 have hbx:=blk_new w2 (.int .i64 13) (.string ⟨#[]⟩) (.slice none 0 0) (.slice none 0 0) (.int .i64 (atP r.e R:Nat))
 have hxge:=hK2.size
 obtain⟨w3,hw⟩:∃ w0,w0=w2.alloc (.cells #[.int .i64 13,.string ⟨#[]⟩,.slice none 0 0,.slice none 0 0,.int .i64 (atP r.e R:Nat)] 26):=⟨_,rfl⟩
 rw [← hw] at hal hbx ⊢
 clear hw
 have hI3:=hI2.below hal
 have hK3:=chainK hK2 hal
 clear hal
 obtain⟨x,hx⟩:∃ x,x=w2.heap.size:=⟨_,rfl⟩
 rw [← hx] at hbx hxge ⊢
 clear hx
 have c:=must_any [40] (by simp) r w3 (R) hI3 hwf
 have hxl4:=hbx.lt
 cases hq:mustP r.e [40] (R) using Rs.cs with
 | bad p y =>
  rw [hq] at c HX
  go_wp2_with fail
  refine c.mono ?_
  rintro e w4 ⟨rfl,hb⟩
  exact⟨rfl,rule_bad HX.out.symm hB1 hK3 hlt hb⟩
 | ok t4 R4 =>
  rw [hq] at c HX
  rw [bnd_ok] at HX
  go_wp2_with fail
  refine c.mono ?_
  rintro e w4 ⟨v4,rfl,rfl,hI4,hk4⟩
  have hK4:=hK3.trans hk4
  clear c hq
  replace hbx:=Blk.kp hbx hk4 hbx.lt (by omega)
  have c:=name_any r w4 (R4) hI4 hwf
  have hxl5:=hbx.lt
  cases hq:nameP r.e (R4) using Rs.cs with
  | bad p y =>
   rw [hq] at c HX
   go_wp2_with fail
   refine c.mono ?_
   rintro e w5 ⟨rfl,hb⟩
   exact⟨rfl,rule_bad HX.out.symm hB1 hK4 hlt hb⟩
  | ok t5 R5 =>
   rw [hq] at c HX
   rw [bnd_ok] at HX
   go_wp2_with fail
   refine c.mono ?_
   rintro e w5 ⟨v5,rfl,rfl,hI5,hk5⟩
   have hK5:=hK4.trans hk5
   clear c hq
   replace hbx:=Blk.kp hbx hk5 hbx.lt (by omega)
   obtain⟨c0,c1,c2,c3,c4,f0,f1,f2,f3,f4⟩:=hbx.cells
   go_wp2_with fail
   clear c0 c1 c2 c3 c4 f0 f1 f2 f3 f4
   obtain⟨w6,hw⟩:∃ w0,w0=w5.setCell ⟨x,1,none⟩ (.string (bs t5)):=⟨_,rfl⟩
   rw [← hw]
   have hI6:r.In w6 (R5):=by rw [hw];exact hI5.put (by omega) _
   have hK6:Kp r.b w1 w6:=by rw [hw];exact hK5.setCell (.inr hxge) _
   have hs6:w6.heap.size=w5.heap.size:=by rw [hw];exact set_size _ _ _
   replace hbx:=Blk.set1 hbx (.string (bs t5))
   rw [← hw] at hbx
   clear hw
   have c:=must_any [61] (by simp) r w6 (R5) hI6 hwf
   have hxl7:=hbx.lt
   cases hq:mustP r.e [61] (R5) using Rs.cs with
   | bad p y =>
    rw [hq] at c HX
    go_wp2_with fail
    refine c.mono ?_
    rintro e w7 ⟨rfl,hb⟩
    exact⟨rfl,rule_bad HX.out.symm hB1 hK6 hlt hb⟩
   | ok t7 R7 =>
    rw [hq] at c HX
    rw [bnd_ok] at HX
    go_wp2_with fail
    refine c.mono ?_
    rintro e w7 ⟨v7,rfl,rfl,hI7,hk7⟩
    have hK7:=hK6.trans hk7
    clear c hq
    replace hbx:=Blk.kp hbx hk7 hbx.lt (by omega)
    have c:=digit_any r w7 (R7) hI7 hwf
    have hxl8:=hbx.lt
    cases hq:digitP r.e (R7) using Rs.cs with
    | bad p y =>
     rw [hq] at c HX
     go_wp2_with fail
     refine c.mono ?_
     rintro e w8 ⟨rfl,hb⟩
     exact⟨rfl,rule_bad HX.out.symm hB1 hK7 hlt hb⟩
    | ok t8 R8 =>
     rw [hq] at c HX
     rw [bnd_ok] at HX
     go_wp2_with fail
     refine c.mono ?_
     rintro e w8 ⟨v8,rfl,rfl,hI8,hk8⟩
     have hK8:=hK7.trans hk8
     clear c hq
     replace hbx:=Blk.kp hbx hk8 hbx.lt (by omega)
     have hxl:=hbx.lt
     have hxl9:=hbx.lt
     have e1:¬ x=w8.heap.size:=by omega
     have e2:¬ w8.heap.size=x:=by omega
     obtain⟨c0,c1,c2,c3,c4,f0,f1,f2,f3,f4⟩:=hbx.cells
     go_wp2_with fail
     clear c0 c1 c2 c3 c4 f0 f1 f2 f3 f4
     clear hxl e1 e2
     obtain⟨w9,hw⟩:∃ w0,w0=w8.setCell ⟨x,3,none⟩ (.slice (some ⟨w8.heap.size,0,none⟩) 1 1):=⟨_,rfl⟩
     rw [← hw]
     have hI9:r.In w9 (R8):=by rw [hw];exact hI8.put (by omega) _
     have hK9:Kp r.b w1 w9:=by rw [hw];exact hK8.setCell (.inr hxge) _
     have hs9:w9.heap.size=w8.heap.size:=by rw [hw];exact set_size _ _ _
     replace hbx:=Blk.set3 hbx (.slice (some ⟨w8.heap.size,0,none⟩) 1 1)
     rw [← hw] at hbx
     clear hw
     have hal:=below_alloc w9 (.cells #[.string (bs t8)] 9)
     have hkl:=Kp.of_below (b:=r.b) hal
     obtain⟨w10,hw10⟩:∃ w0,w0=w9.alloc (.cells #[.string (bs t8)] 9):=⟨_,rfl⟩
     rw [← hw10] at hal hkl ⊢
     have hI10:=hI9.below hal
     have hK10:=chainK hK9 hal
     have Hw10:Hid (_=_):=hw10
     clear hw10
     replace hbx:=Blk.kp hbx hkl hbx.lt (by omega)
     have hm:NmIn (But w1.heap.size x) w10 [t8] (.slice (some ⟨w8.heap.size,0,none⟩) 1 1):=by rw [Hw10.out,← hs9];exact NmIn.toB (names_one w9 t8) hK9.size (by rw [hs9];exact hxl9)
     clear Hw10 hal hkl
     have c:=must_any [41] (by simp) r w10 (R8) hI10 hwf
     have hxl11:=hbx.lt
     cases hq:mustP r.e [41] (R8) using Rs.cs with
     | bad p y =>
      rw [hq] at c HX
      go_wp2_with fail
      refine c.mono ?_
      rintro e w11 ⟨rfl,hb⟩
      exact⟨rfl,rule_bad HX.out.symm hB1 hK10 hlt hb⟩
     | ok t11 R11 =>
      rw [hq] at c HX
      rw [bnd_ok] at HX
      go_wp2_with fail
      refine c.mono ?_
      rintro e w11 ⟨v11,rfl,rfl,hI11,hk11⟩
      have hK11:=hK10.trans hk11
      clear c hq
      replace hbx:=Blk.kp hbx hk11 hbx.lt (by omega)
      replace hm:=NmIn.kpB hm hk11 (by omega)
      obtain⟨c0,c1,c2,c3,c4,_⟩:=hbx.cells
      obtain⟨o0,o1,o2,o3,o4,z0,z1,z2,z3,z4⟩:=Blk.cells (hh1.kp hK11 hn1 hlt)
      go_wp2_with fail
      exact⟨rfl,.agg #[.int .i64 13,.string (bs t5),.slice none 0 0,.slice (some ⟨w8.heap.size,0,none⟩) 1 1,.int .i64 (atP r.e R:Nat)],by simp [results,Tryz.results140,go_sem, *],rule_end (n:=w.heap.size) HX.out.symm hB1 rfl hn1 hI11 hlt hK11 (.leaf 13 t5 [t8] (atP r.e R) none 0 _ (NmIn.fromB hm)) _ _ _ _ _⟩
set_option maxRecDepth 100000 in
set_option maxHeartbeats 4000000 in
theorem face_any (r:Rdr) (hwf:r.wf) (f:Nat) (hf:f≤1000000) (ihq:RuleC0 r 140 (eqP r.e)):RuleC0 r 124 (faceP r.e f):=by
 intro R w hR hNF
 obtain⟨X,hX⟩:∃ X,faceP r.e f R=X:=⟨_,rfl⟩
 rw [hX] at hNF ⊢
 rw [faceP] at hX
 have HX:Hid (_=X):=hX
 clear hX
 have hlt:=hR.lt.2
 obtain⟨w1,hw1⟩:∃ w1,w1=w.alloc (.cells #[.int .i64 0,.string ⟨#[]⟩,.slice none 0 0,.slice none 0 0,.int .i64 0] 26):=⟨_,rfl⟩
 have hB1:Below w.heap.size w w1:=by rw [hw1];exact below_alloc _ _
 have hh1:Hole w1 w.heap.size:=by rw [hw1];exact hole_new w
 have hn1:w.heap.size<w1.heap.size:=by rw [hw1];simp
 have hI1:=hR.below hB1
 have hK1:=Kp.refl r.b w1
 have Hw1:Hid (_=_):=hw1
 clear hw1
 go_enter Tryz.func124,Tryz.ntmps124
 go_wp2_with fail
 rw [← Hw1.out]
 clear Hw1
 go_wp2_with fail
 refine (at_any r w1 (R) hI1 hwf).mono ?_
 rintro e w2 ⟨rfl,hb2⟩
 have hI2:=hI1.below hb2
 have hK2:=chainK hK1 hb2
 have hk2:=Kp.of_below (b:=r.b) hb2
 clear hb2 hk2
 go_wp2_with fail
 have hal:=below_alloc w2 (.cells #[.int .i64 12,.string ⟨#[]⟩,.slice none 0 0,.slice none 0 0,.int .i64 (atP r.e R:Nat)] 26)
 have hbx:=blk_new w2 (.int .i64 12) (.string ⟨#[]⟩) (.slice none 0 0) (.slice none 0 0) (.int .i64 (atP r.e R:Nat))
 have hxge:=hK2.size
 obtain⟨w3,hw⟩:∃ w0,w0=w2.alloc (.cells #[.int .i64 12,.string ⟨#[]⟩,.slice none 0 0,.slice none 0 0,.int .i64 (atP r.e R:Nat)] 26):=⟨_,rfl⟩
 rw [← hw] at hal hbx ⊢
 clear hw
 have hI3:=hI2.below hal
 have hK3:=chainK hK2 hal
 clear hal
 obtain⟨x,hx⟩:∃ x,x=w2.heap.size:=⟨_,rfl⟩
 rw [← hx] at hbx hxge ⊢
 clear hx
 cases hq:sees [49] (R) with
 | true =>
  have c:=take_any [49] (by simp) r w3 (R) hI3 hwf
  rw [hq] at c
  simp only [if_true,Bool.false_eq_true,if_false] at c
  rw [if_pos hq] at HX
  go_wp2_with fail
  refine c.mono ?_
  rintro e w4 ⟨rfl,hI4,hk4⟩
  have hK4:=hK3.trans hk4
  clear c hq
  replace hbx:=Blk.kp hbx hk4 hbx.lt (by omega)
  obtain⟨c0,c1,c2,c3,c4,_⟩:=hbx.cells
  obtain⟨o0,o1,o2,o3,o4,z0,z1,z2,z3,z4⟩:=Blk.cells (hh1.kp hK4 hn1 hlt)
  go_wp2_with fail
  exact⟨rfl,.agg #[.int .i64 12,.string ⟨#[]⟩,.slice none 0 0,.slice none 0 0,.int .i64 (atP r.e R:Nat)],by simp [results,Tryz.results124,go_sem, *],rule_end (n:=w.heap.size) HX.out.symm hB1 rfl hn1 hI4 hlt hK4 (.leaf 12 [] [] (atP r.e R) none 0 _ (.nil none 0)) _ _ _ _ _⟩
 | false =>
  have c:=take_any [49] (by simp) r w3 (R) hI3 hwf
  rw [hq] at c
  simp only [if_true,Bool.false_eq_true,if_false] at c
  rw [if_neg (neT hq)] at HX
  go_wp2_with fail
  refine c.mono ?_
  rintro e w5 ⟨rfl,hI5,hk5⟩
  have hK5:=hK3.trans hk5
  clear c hq
  replace hbx:=Blk.kp hbx hk5 hbx.lt (by omega)
  have hkr:=KRow.nil w1.heap.size x w5
  go_wp2_with fail
  obtain⟨w6,hw6⟩:∃ w0,w0=w5.drew:=⟨_,rfl⟩
  have hB6:Below w5.heap.size w5 w6:=by rw [hw6];exact Below.drew (Below.refl _ _)
  have hI6:=hI5.below hB6
  have hK6:=chainK hK5 hB6
  have hk6:=Kp.of_below (b:=r.b) hB6
  refine wp_region_any (by kernel_rfl) ?_
  change wpAny _ _ _ _ _ _ _ (World.drew _)
  rw [← hw6]
  clear hw6
  replace hbx:=Blk.kp hbx hk6 hbx.lt (by omega)
  replace hkr:=KRow.kp hkr hk6 (by omega)
  clear hB6 hk6
  refine wpAny_take (i:=0) (v:=.pointer (some ⟨x,2,none⟩)) rfl (by kernel_rfl) (by kernel_rfl) (by kernel_rfl) (fun _ _ _ h=>h) (Or.inl ⟨by rfl,fun w=>by go_simp⟩) ?_
  simp only [Act.put,List.setIfInBounds_toArray,List.set_cons_zero,List.set_cons_succ]
  refine wpAny_take (i:=2) (v:=r.ptr) rfl (by kernel_rfl) (by kernel_rfl) (by kernel_rfl) (fun _ _ _ h=>h) (Or.inl ⟨by rfl,fun w=>by go_simp⟩) ?_
  simp only [Act.put,List.setIfInBounds_toArray,List.set_cons_zero,List.set_cons_succ]
  refine wpAny_ready (rs:=[1,3]) (by kernel_rfl) (by simp) ?_
  refine AllReady.cons rfl (fun KK hKK=>?_) (AllReady.cons rfl (fun KK hKK=>?_) AllReady.nil)
  ·skip
   obtain⟨c0,c1,c2,c3,c4,_⟩:=hbx.cells
   go_simp
   clear c0 c1 c2 c3 c4
   refine hKK _ _ ?_
   clear hKK KK
   refine wpAny_ready (rs:=[3]) (by kernel_rfl) (by simp) ?_
   refine AllReady.cons rfl (fun KK hKK=>?_) AllReady.nil
   go_simp
   have hN7:NF (eqP r.e (R)):=NF.left (by have h:=hNF;rw [← HX.out] at h;exact h)
   have c:=ihq (R) w6 hI6 hN7
   have hxl7:=hbx.lt
   have hown7:=hkr.own
   cases hq:eqP r.e (R) using Rs.cs with
   | bad p y =>
    rw [hq] at c HX
    refine c.mono ?_
    rintro e w7 ⟨rfl,hb⟩
    exact⟨rfl,rule_bad HX.out.symm hB1 hK6 hlt hb⟩
   | ok t7 R7 =>
    rw [hq] at c HX
    rw [bnd_ok] at HX
    refine c.mono ?_
    rintro e w7 ⟨v7,rfl,ht7,hI7,hk7⟩
    have hK7:=hK6.trans hk7
    clear c hq
    replace hbx:=Blk.kp hbx hk7 hbx.lt (by omega)
    replace hkr:=KRow.kp hkr hk7 (by omega)
    have hz7:=ht7
    have hms7:=hK6.size
    clear ht7
    obtain⟨vk7,vn7,rfl,hf7,ka7,kc7,rfl⟩:=TrIn.form hz7
    obtain⟨na7,nc7,rfl⟩:=hf7.form
    clear hf7
    refine hKK _ _ ?_
    clear hKK KK
    refine wpAny_ready (rs:=[4]) (by kernel_rfl) (by simp) ?_
    refine AllReady.cons rfl (fun KK hKK=>?_) AllReady.nil
    go_simp
    have hal:=below_alloc w7 (.cells #[.int .i64 (t7.kind:Nat),.string (bs t7.name),.slice ka7 t7.kids.length kc7,.slice na7 t7.names.length nc7,.int .i64 (t7.at_:Nat)] 26)
    have hkl:=Kp.of_below (b:=r.b) hal
    obtain⟨w8,hw8⟩:∃ w0,w0=w7.alloc (.cells #[.int .i64 (t7.kind:Nat),.string (bs t7.name),.slice ka7 t7.kids.length kc7,.slice na7 t7.names.length nc7,.int .i64 (t7.at_:Nat)] 26):=⟨_,rfl⟩
    rw [← hw8] at hal hkl ⊢
    have hI8:=hI7.below hal
    have hK8:=chainK hK7 hal
    have Hw8:Hid (_=_):=hw8
    clear hw8
    replace hbx:=Blk.kp hbx hkl hbx.lt (by omega)
    replace hkr:=KRow.kp hkr hkl (by omega)
    replace hz7:=TrIn.kp hz7 hkl (by omega)
    refine hKK _ _ ?_
    clear hKK KK
    refine wpAny_ready (rs:=[5]) (by kernel_rfl) (by simp) ?_
    refine AllReady.cons rfl (fun KK hKK=>?_) AllReady.nil
    refine step_append_tree (n:=w1.heap.size) (x:=x) (m:=w6.heap.size) rfl (.tmp 11) (.tmp 14) rfl rfl rfl hkr hz7 (one_cells _ _ _ _ _ _ _) hown7 hxl7 hms7 (fun j y hj=>by rw [Hw8.out];exact new_cell _ _ _ _ j y rfl hj) (by simp) hK8.size hbx.lt ?_
    intro v9 w9 hkr9 hg9
    have hI9:=hI8.grownK hkr hg9 (by omega)
    have hK9:=hK8.grownK hkr hg9 (Nat.le_refl _)
    replace hbx:=hbx.grownK hkr hg9
    clear hkr hz7 hg9 Hw8 hal hkl hms7 hown7 hxl7
    have hkr:=hkr9
    clear hkr9
    obtain⟨rA9,rL9,rC9,rfl⟩:=hkr.form2
    refine hKK _ _ ?_
    clear hKK KK
    refine wpAny_ready (rs:=[6]) (by kernel_rfl) (by simp) ?_
    refine AllReady.cons rfl (fun KK hKK=>?_) AllReady.nil
    go_simp
    refine hKK _ _ ?_
    clear hKK KK
    refine wpAny_ready (rs:=[7]) (by kernel_rfl) (by simp) ?_
    refine AllReady.cons rfl (fun KK hKK=>?_) AllReady.nil
    obtain⟨c0,c1,c2,c3,c4,f0,f1,f2,f3,f4⟩:=hbx.cells
    go_simp
    clear c0 c1 c2 c3 c4 f0 f1 f2 f3 f4
    obtain⟨w10,hw⟩:∃ w0,w0=w9.setCell ⟨x,2,none⟩ (.slice rA9 rL9 rC9):=⟨_,rfl⟩
    rw [← hw]
    have hI10:r.In w10 (R7):=by rw [hw];exact hI9.put (by omega) _
    have hK10:Kp r.b w1 w10:=by rw [hw];exact hK9.setCell (.inr hxge) _
    have hs10:w10.heap.size=w9.heap.size:=by rw [hw];exact set_size _ _ _
    replace hbx:=Blk.set2 hbx (.slice rA9 rL9 rC9)
    replace hkr:=KRow.put (i:=2) hkr (.slice rA9 rL9 rC9)
    rw [← hw] at hbx hkr
    clear hw
    refine hKK _ _ ?_
    clear hKK KK
    refine wpAny_done (by kernel_rfl) ?_ _
    go_wp2_with fail
    go_loopg [] f (fun k wr=>∃ acc R' aA lA cA,Blk wr x (.int .i64 12) (.string ⟨#[]⟩) (.slice aA lA cA) (.slice none 0 0) (.int .i64 (atP r.e R:Nat))∧KRow w1.heap.size x wr (.slice aA lA cA) acc∧r.In wr R'∧Kp r.b w1 wr∧Hid (acc.length+k≤f+1∧faceL r.e k (atP r.e R) acc R'=X))
    case atStart=>exact⟨[t7],R7,rA9,rL9,rC9,hbx,hkr,hI10,hK10,⟨by simp;omega,HX.out⟩⟩
    case round =>
     obtain⟨acc,R',aA,lA,cA,hbx,hkr,hI11,hK11,HK⟩:=hrel
     clear HX
     cases gk with
     | zero=>exact absurd HK.out.2 (fun h=>by rw [faceL] at h;exact hNF 0 h.symm)
     | succ k =>
      have HX:Hid (_=X):=HK.out.2
      have HF:Hid (acc.length+(k+1)≤f+1):=HK.out.1
      rw [faceL] at HX
      clear HK
      obtain⟨w11,hw11⟩:∃ w0,w0=wr:=⟨_,rfl⟩
      subst hw11
      cases hq:sees [40] (R') with
      | true =>
       have c:=sees_any [40] r w11 (R') hI11 hwf
       rw [hq] at c
       rw [if_pos hq] at HX
       go_wp2_with fail
       refine (c).mono ?_
       rintro e w12 ⟨rfl,hb12⟩
       have hI12:=hI11.below hb12
       have hK12:=chainK hK11 hb12
       have hk12:=Kp.of_below (b:=r.b) hb12
       replace hbx:=Blk.kp hbx hk12 hbx.lt (by omega)
       replace hkr:=KRow.kp hkr hk12 (by omega)
       clear hb12 hk12
       clear c hq
       go_wp2_with fail
       obtain⟨w13,hw13⟩:∃ w0,w0=w12.drew:=⟨_,rfl⟩
       have hB13:Below w12.heap.size w12 w13:=by rw [hw13];exact Below.drew (Below.refl _ _)
       have hI13:=hI12.below hB13
       have hK13:=chainK hK12 hB13
       have hk13:=Kp.of_below (b:=r.b) hB13
       refine wp_region_any (by kernel_rfl) ?_
       change wpAny _ _ _ _ _ _ _ (World.drew _)
       rw [← hw13]
       clear hw13
       replace hbx:=Blk.kp hbx hk13 hbx.lt (by omega)
       replace hkr:=KRow.kp hkr hk13 (by omega)
       clear hB13 hk13
       refine wpAny_take (i:=0) (v:=.pointer (some ⟨x,2,none⟩)) rfl (by kernel_rfl) (by kernel_rfl) (by kernel_rfl) (fun _ _ _ h=>h) (Or.inl ⟨by rfl,fun w=>by go_simp⟩) ?_
       simp only [Act.put,List.setIfInBounds_toArray,List.set_cons_zero,List.set_cons_succ]
       refine wpAny_take (i:=2) (v:=r.ptr) rfl (by kernel_rfl) (by kernel_rfl) (by kernel_rfl) (fun _ _ _ h=>h) (Or.inl ⟨by rfl,fun w=>by go_simp⟩) ?_
       simp only [Act.put,List.setIfInBounds_toArray,List.set_cons_zero,List.set_cons_succ]
       refine wpAny_ready (rs:=[1,3]) (by kernel_rfl) (by simp) ?_
       refine AllReady.cons rfl (fun KK hKK=>?_) (AllReady.cons rfl (fun KK hKK=>?_) AllReady.nil)
       ·skip
        obtain⟨c0,c1,c2,c3,c4,_⟩:=hbx.cells
        go_simp
        clear c0 c1 c2 c3 c4
        refine hKK _ _ ?_
        clear hKK KK
        refine wpAny_ready (rs:=[3]) (by kernel_rfl) (by simp) ?_
        refine AllReady.cons rfl (fun KK hKK=>?_) AllReady.nil
        go_simp
        have hN14:NF (eqP r.e (R')):=NF.left (by have h:=hNF;rw [← HX.out] at h;exact h)
        have c:=ihq (R') w13 hI13 hN14
        have hxl14:=hbx.lt
        have hown14:=hkr.own
        cases hq:eqP r.e (R') using Rs.cs with
        | bad p y =>
         rw [hq] at c HX
         refine c.mono ?_
         rintro e w14 ⟨rfl,hb⟩
         exact⟨rfl,rule_bad HX.out.symm hB1 hK13 hlt hb⟩
        | ok t14 R14 =>
         rw [hq] at c HX
         rw [bnd_ok] at HX
         refine c.mono ?_
         rintro e w14 ⟨v14,rfl,ht14,hI14,hk14⟩
         have hK14:=hK13.trans hk14
         clear c hq
         replace hbx:=Blk.kp hbx hk14 hbx.lt (by omega)
         replace hkr:=KRow.kp hkr hk14 (by omega)
         have hz14:=ht14
         have hms14:=hK13.size
         clear ht14
         obtain⟨vk14,vn14,rfl,hf14,ka14,kc14,rfl⟩:=TrIn.form hz14
         obtain⟨na14,nc14,rfl⟩:=hf14.form
         clear hf14
         refine hKK _ _ ?_
         clear hKK KK
         refine wpAny_ready (rs:=[4]) (by kernel_rfl) (by simp) ?_
         refine AllReady.cons rfl (fun KK hKK=>?_) AllReady.nil
         go_simp
         have hal:=below_alloc w14 (.cells #[.int .i64 (t14.kind:Nat),.string (bs t14.name),.slice ka14 t14.kids.length kc14,.slice na14 t14.names.length nc14,.int .i64 (t14.at_:Nat)] 26)
         have hkl:=Kp.of_below (b:=r.b) hal
         obtain⟨w15,hw15⟩:∃ w0,w0=w14.alloc (.cells #[.int .i64 (t14.kind:Nat),.string (bs t14.name),.slice ka14 t14.kids.length kc14,.slice na14 t14.names.length nc14,.int .i64 (t14.at_:Nat)] 26):=⟨_,rfl⟩
         rw [← hw15] at hal hkl ⊢
         have hI15:=hI14.below hal
         have hK15:=chainK hK14 hal
         have Hw15:Hid (_=_):=hw15
         clear hw15
         replace hbx:=Blk.kp hbx hkl hbx.lt (by omega)
         replace hkr:=KRow.kp hkr hkl (by omega)
         replace hz14:=TrIn.kp hz14 hkl (by omega)
         refine hKK _ _ ?_
         clear hKK KK
         refine wpAny_ready (rs:=[5]) (by kernel_rfl) (by simp) ?_
         refine AllReady.cons rfl (fun KK hKK=>?_) AllReady.nil
         refine step_append_tree (n:=w1.heap.size) (x:=x) (m:=w13.heap.size) rfl (.tmp 20) (.tmp 23) rfl rfl rfl hkr hz14 (one_cells _ _ _ _ _ _ _) hown14 hxl14 hms14 (fun j y hj=>by rw [Hw15.out];exact new_cell _ _ _ _ j y rfl hj) (by have:=HF.out;omega) hK15.size hbx.lt ?_
         intro v16 w16 hkr16 hg16
         have hI16:=hI15.grownK hkr hg16 (by omega)
         have hK16:=hK15.grownK hkr hg16 (Nat.le_refl _)
         replace hbx:=hbx.grownK hkr hg16
         clear hkr hz14 hg16 Hw15 hal hkl hms14 hown14 hxl14
         have hkr:=hkr16
         clear hkr16
         obtain⟨rA16,rL16,rC16,rfl⟩:=hkr.form2
         refine hKK _ _ ?_
         clear hKK KK
         refine wpAny_ready (rs:=[6]) (by kernel_rfl) (by simp) ?_
         refine AllReady.cons rfl (fun KK hKK=>?_) AllReady.nil
         go_simp
         refine hKK _ _ ?_
         clear hKK KK
         refine wpAny_ready (rs:=[7]) (by kernel_rfl) (by simp) ?_
         refine AllReady.cons rfl (fun KK hKK=>?_) AllReady.nil
         obtain⟨c0,c1,c2,c3,c4,f0,f1,f2,f3,f4⟩:=hbx.cells
         go_simp
         clear c0 c1 c2 c3 c4 f0 f1 f2 f3 f4
         obtain⟨w17,hw⟩:∃ w0,w0=w16.setCell ⟨x,2,none⟩ (.slice rA16 rL16 rC16):=⟨_,rfl⟩
         rw [← hw]
         have hI17:r.In w17 (R14):=by rw [hw];exact hI16.put (by omega) _
         have hK17:Kp r.b w1 w17:=by rw [hw];exact hK16.setCell (.inr hxge) _
         have hs17:w17.heap.size=w16.heap.size:=by rw [hw];exact set_size _ _ _
         replace hbx:=Blk.set2 hbx (.slice rA16 rL16 rC16)
         replace hkr:=KRow.put (i:=2) hkr (.slice rA16 rL16 rC16)
         rw [← hw] at hbx hkr
         clear hw
         refine hKK _ _ ?_
         clear hKK KK
         refine wpAny_done (by kernel_rfl) ?_ _
         go_wp2_with fail
         go_roundg k
         case measure=>omega
         case rel=>exact⟨acc ++ [t14],R14,rA16,rL16,rC16,hbx,hkr,hI17,hK17,⟨by have:=HF.out;simp;omega,HX.out⟩⟩
       ·skip
        go_simp
        have hN18:NF (eqP r.e (R')):=NF.left (by have h:=hNF;rw [← HX.out] at h;exact h)
        have c:=ihq (R') w13 hI13 hN18
        have hxl18:=hbx.lt
        have hown18:=hkr.own
        cases hq:eqP r.e (R') using Rs.cs with
        | bad p y =>
         rw [hq] at c HX
         refine c.mono ?_
         rintro e w18 ⟨rfl,hb⟩
         exact⟨rfl,rule_bad HX.out.symm hB1 hK13 hlt hb⟩
        | ok t18 R18 =>
         rw [hq] at c HX
         rw [bnd_ok] at HX
         refine c.mono ?_
         rintro e w18 ⟨v18,rfl,ht18,hI18,hk18⟩
         have hK18:=hK13.trans hk18
         clear c hq
         replace hbx:=Blk.kp hbx hk18 hbx.lt (by omega)
         replace hkr:=KRow.kp hkr hk18 (by omega)
         have hz18:=ht18
         have hms18:=hK13.size
         clear ht18
         obtain⟨vk18,vn18,rfl,hf18,ka18,kc18,rfl⟩:=TrIn.form hz18
         obtain⟨na18,nc18,rfl⟩:=hf18.form
         clear hf18
         refine hKK _ _ ?_
         clear hKK KK
         refine wpAny_ready (rs:=[1,4]) (by kernel_rfl) (by simp) ?_
         refine AllReady.cons rfl (fun KK hKK=>?_) (AllReady.cons rfl (fun KK hKK=>?_) AllReady.nil)
         ·skip
          obtain⟨c0,c1,c2,c3,c4,_⟩:=hbx.cells
          go_simp
          clear c0 c1 c2 c3 c4
          refine hKK _ _ ?_
          clear hKK KK
          refine wpAny_ready (rs:=[4]) (by kernel_rfl) (by simp) ?_
          refine AllReady.cons rfl (fun KK hKK=>?_) AllReady.nil
          go_simp
          have hal:=below_alloc w18 (.cells #[.int .i64 (t18.kind:Nat),.string (bs t18.name),.slice ka18 t18.kids.length kc18,.slice na18 t18.names.length nc18,.int .i64 (t18.at_:Nat)] 26)
          have hkl:=Kp.of_below (b:=r.b) hal
          obtain⟨w19,hw19⟩:∃ w0,w0=w18.alloc (.cells #[.int .i64 (t18.kind:Nat),.string (bs t18.name),.slice ka18 t18.kids.length kc18,.slice na18 t18.names.length nc18,.int .i64 (t18.at_:Nat)] 26):=⟨_,rfl⟩
          rw [← hw19] at hal hkl ⊢
          have hI19:=hI18.below hal
          have hK19:=chainK hK18 hal
          have Hw19:Hid (_=_):=hw19
          clear hw19
          replace hbx:=Blk.kp hbx hkl hbx.lt (by omega)
          replace hkr:=KRow.kp hkr hkl (by omega)
          replace hz18:=TrIn.kp hz18 hkl (by omega)
          refine hKK _ _ ?_
          clear hKK KK
          refine wpAny_ready (rs:=[5]) (by kernel_rfl) (by simp) ?_
          refine AllReady.cons rfl (fun KK hKK=>?_) AllReady.nil
          refine step_append_tree (n:=w1.heap.size) (x:=x) (m:=w13.heap.size) rfl (.tmp 20) (.tmp 23) rfl rfl rfl hkr hz18 (one_cells _ _ _ _ _ _ _) hown18 hxl18 hms18 (fun j y hj=>by rw [Hw19.out];exact new_cell _ _ _ _ j y rfl hj) (by have:=HF.out;omega) hK19.size hbx.lt ?_
          intro v20 w20 hkr20 hg20
          have hI20:=hI19.grownK hkr hg20 (by omega)
          have hK20:=hK19.grownK hkr hg20 (Nat.le_refl _)
          replace hbx:=hbx.grownK hkr hg20
          clear hkr hz18 hg20 Hw19 hal hkl hms18 hown18 hxl18
          have hkr:=hkr20
          clear hkr20
          obtain⟨rA20,rL20,rC20,rfl⟩:=hkr.form2
          refine hKK _ _ ?_
          clear hKK KK
          refine wpAny_ready (rs:=[6]) (by kernel_rfl) (by simp) ?_
          refine AllReady.cons rfl (fun KK hKK=>?_) AllReady.nil
          go_simp
          refine hKK _ _ ?_
          clear hKK KK
          refine wpAny_ready (rs:=[7]) (by kernel_rfl) (by simp) ?_
          refine AllReady.cons rfl (fun KK hKK=>?_) AllReady.nil
          obtain⟨c0,c1,c2,c3,c4,f0,f1,f2,f3,f4⟩:=hbx.cells
          go_simp
          clear c0 c1 c2 c3 c4 f0 f1 f2 f3 f4
          obtain⟨w21,hw⟩:∃ w0,w0=w20.setCell ⟨x,2,none⟩ (.slice rA20 rL20 rC20):=⟨_,rfl⟩
          rw [← hw]
          have hI21:r.In w21 (R18):=by rw [hw];exact hI20.put (by omega) _
          have hK21:Kp r.b w1 w21:=by rw [hw];exact hK20.setCell (.inr hxge) _
          have hs21:w21.heap.size=w20.heap.size:=by rw [hw];exact set_size _ _ _
          replace hbx:=Blk.set2 hbx (.slice rA20 rL20 rC20)
          replace hkr:=KRow.put (i:=2) hkr (.slice rA20 rL20 rC20)
          rw [← hw] at hbx hkr
          clear hw
          refine hKK _ _ ?_
          clear hKK KK
          refine wpAny_done (by kernel_rfl) ?_ _
          go_wp2_with fail
          go_roundg k
          case measure=>omega
          case rel=>exact⟨acc ++ [t18],R18,rA20,rL20,rC20,hbx,hkr,hI21,hK21,⟨by have:=HF.out;simp;omega,HX.out⟩⟩
         ·skip
          go_simp
          have hal:=below_alloc w18 (.cells #[.int .i64 (t18.kind:Nat),.string (bs t18.name),.slice ka18 t18.kids.length kc18,.slice na18 t18.names.length nc18,.int .i64 (t18.at_:Nat)] 26)
          have hkl:=Kp.of_below (b:=r.b) hal
          obtain⟨w22,hw22⟩:∃ w0,w0=w18.alloc (.cells #[.int .i64 (t18.kind:Nat),.string (bs t18.name),.slice ka18 t18.kids.length kc18,.slice na18 t18.names.length nc18,.int .i64 (t18.at_:Nat)] 26):=⟨_,rfl⟩
          rw [← hw22] at hal hkl ⊢
          have hI22:=hI18.below hal
          have hK22:=chainK hK18 hal
          have Hw22:Hid (_=_):=hw22
          clear hw22
          replace hbx:=Blk.kp hbx hkl hbx.lt (by omega)
          replace hkr:=KRow.kp hkr hkl (by omega)
          replace hz18:=TrIn.kp hz18 hkl (by omega)
          refine hKK _ _ ?_
          clear hKK KK
          refine wpAny_ready (rs:=[1]) (by kernel_rfl) (by simp) ?_
          refine AllReady.cons rfl (fun KK hKK=>?_) AllReady.nil
          obtain⟨c0,c1,c2,c3,c4,_⟩:=hbx.cells
          go_simp
          clear c0 c1 c2 c3 c4
          refine hKK _ _ ?_
          clear hKK KK
          refine wpAny_ready (rs:=[5]) (by kernel_rfl) (by simp) ?_
          refine AllReady.cons rfl (fun KK hKK=>?_) AllReady.nil
          refine step_append_tree (n:=w1.heap.size) (x:=x) (m:=w13.heap.size) rfl (.tmp 20) (.tmp 23) rfl rfl rfl hkr hz18 (one_cells _ _ _ _ _ _ _) hown18 hxl18 hms18 (fun j y hj=>by rw [Hw22.out];exact new_cell _ _ _ _ j y rfl hj) (by have:=HF.out;omega) hK22.size hbx.lt ?_
          intro v23 w23 hkr23 hg23
          have hI23:=hI22.grownK hkr hg23 (by omega)
          have hK23:=hK22.grownK hkr hg23 (Nat.le_refl _)
          replace hbx:=hbx.grownK hkr hg23
          clear hkr hz18 hg23 Hw22 hal hkl hms18 hown18 hxl18
          have hkr:=hkr23
          clear hkr23
          obtain⟨rA23,rL23,rC23,rfl⟩:=hkr.form2
          refine hKK _ _ ?_
          clear hKK KK
          refine wpAny_ready (rs:=[6]) (by kernel_rfl) (by simp) ?_
          refine AllReady.cons rfl (fun KK hKK=>?_) AllReady.nil
          go_simp
          refine hKK _ _ ?_
          clear hKK KK
          refine wpAny_ready (rs:=[7]) (by kernel_rfl) (by simp) ?_
          refine AllReady.cons rfl (fun KK hKK=>?_) AllReady.nil
          obtain⟨c0,c1,c2,c3,c4,f0,f1,f2,f3,f4⟩:=hbx.cells
          go_simp
          clear c0 c1 c2 c3 c4 f0 f1 f2 f3 f4
          obtain⟨w24,hw⟩:∃ w0,w0=w23.setCell ⟨x,2,none⟩ (.slice rA23 rL23 rC23):=⟨_,rfl⟩
          rw [← hw]
          have hI24:r.In w24 (R18):=by rw [hw];exact hI23.put (by omega) _
          have hK24:Kp r.b w1 w24:=by rw [hw];exact hK23.setCell (.inr hxge) _
          have hs24:w24.heap.size=w23.heap.size:=by rw [hw];exact set_size _ _ _
          replace hbx:=Blk.set2 hbx (.slice rA23 rL23 rC23)
          replace hkr:=KRow.put (i:=2) hkr (.slice rA23 rL23 rC23)
          rw [← hw] at hbx hkr
          clear hw
          refine hKK _ _ ?_
          clear hKK KK
          refine wpAny_done (by kernel_rfl) ?_ _
          go_wp2_with fail
          go_roundg k
          case measure=>omega
          case rel=>exact⟨acc ++ [t18],R18,rA23,rL23,rC23,hbx,hkr,hI24,hK24,⟨by have:=HF.out;simp;omega,HX.out⟩⟩
      | false =>
       have c:=sees_any [40] r w11 (R') hI11 hwf
       rw [hq] at c
       rw [if_neg (neT hq)] at HX
       go_wp2_with fail
       refine (c).mono ?_
       rintro e w25 ⟨rfl,hb25⟩
       have hI25:=hI11.below hb25
       have hK25:=chainK hK11 hb25
       have hk25:=Kp.of_below (b:=r.b) hb25
       replace hbx:=Blk.kp hbx hk25 hbx.lt (by omega)
       replace hkr:=KRow.kp hkr hk25 (by omega)
       clear hb25 hk25
       clear c hq
       obtain⟨c0,c1,c2,c3,c4,_⟩:=hbx.cells
       obtain⟨o0,o1,o2,o3,o4,z0,z1,z2,z3,z4⟩:=Blk.cells (hh1.kp hK25 hn1 hlt)
       go_wp2_with fail
       exact⟨rfl,.agg #[.int .i64 12,.string ⟨#[]⟩,.slice aA lA cA,.slice none 0 0,.int .i64 (atP r.e R:Nat)],by simp [results,Tryz.results124,go_sem, *],rule_end (n:=w.heap.size) HX.out.symm hB1 rfl hn1 hI25 hlt hK25 (TrIn.fromB (hkr.tree 12 [] [] (atP r.e R) (.nil none 0))) _ _ _ _ _⟩
  ·skip
   go_simp
   have hN26:NF (eqP r.e (R)):=NF.left (by have h:=hNF;rw [← HX.out] at h;exact h)
   have c:=ihq (R) w6 hI6 hN26
   have hxl26:=hbx.lt
   have hown26:=hkr.own
   cases hq:eqP r.e (R) using Rs.cs with
   | bad p y =>
    rw [hq] at c HX
    refine c.mono ?_
    rintro e w26 ⟨rfl,hb⟩
    exact⟨rfl,rule_bad HX.out.symm hB1 hK6 hlt hb⟩
   | ok t26 R26 =>
    rw [hq] at c HX
    rw [bnd_ok] at HX
    refine c.mono ?_
    rintro e w26 ⟨v26,rfl,ht26,hI26,hk26⟩
    have hK26:=hK6.trans hk26
    clear c hq
    replace hbx:=Blk.kp hbx hk26 hbx.lt (by omega)
    replace hkr:=KRow.kp hkr hk26 (by omega)
    have hz26:=ht26
    have hms26:=hK6.size
    clear ht26
    obtain⟨vk26,vn26,rfl,hf26,ka26,kc26,rfl⟩:=TrIn.form hz26
    obtain⟨na26,nc26,rfl⟩:=hf26.form
    clear hf26
    refine hKK _ _ ?_
    clear hKK KK
    refine wpAny_ready (rs:=[1,4]) (by kernel_rfl) (by simp) ?_
    refine AllReady.cons rfl (fun KK hKK=>?_) (AllReady.cons rfl (fun KK hKK=>?_) AllReady.nil)
    ·skip
     obtain⟨c0,c1,c2,c3,c4,_⟩:=hbx.cells
     go_simp
     clear c0 c1 c2 c3 c4
     refine hKK _ _ ?_
     clear hKK KK
     refine wpAny_ready (rs:=[4]) (by kernel_rfl) (by simp) ?_
     refine AllReady.cons rfl (fun KK hKK=>?_) AllReady.nil
     go_simp
     have hal:=below_alloc w26 (.cells #[.int .i64 (t26.kind:Nat),.string (bs t26.name),.slice ka26 t26.kids.length kc26,.slice na26 t26.names.length nc26,.int .i64 (t26.at_:Nat)] 26)
     have hkl:=Kp.of_below (b:=r.b) hal
     obtain⟨w27,hw27⟩:∃ w0,w0=w26.alloc (.cells #[.int .i64 (t26.kind:Nat),.string (bs t26.name),.slice ka26 t26.kids.length kc26,.slice na26 t26.names.length nc26,.int .i64 (t26.at_:Nat)] 26):=⟨_,rfl⟩
     rw [← hw27] at hal hkl ⊢
     have hI27:=hI26.below hal
     have hK27:=chainK hK26 hal
     have Hw27:Hid (_=_):=hw27
     clear hw27
     replace hbx:=Blk.kp hbx hkl hbx.lt (by omega)
     replace hkr:=KRow.kp hkr hkl (by omega)
     replace hz26:=TrIn.kp hz26 hkl (by omega)
     refine hKK _ _ ?_
     clear hKK KK
     refine wpAny_ready (rs:=[5]) (by kernel_rfl) (by simp) ?_
     refine AllReady.cons rfl (fun KK hKK=>?_) AllReady.nil
     refine step_append_tree (n:=w1.heap.size) (x:=x) (m:=w6.heap.size) rfl (.tmp 11) (.tmp 14) rfl rfl rfl hkr hz26 (one_cells _ _ _ _ _ _ _) hown26 hxl26 hms26 (fun j y hj=>by rw [Hw27.out];exact new_cell _ _ _ _ j y rfl hj) (by simp) hK27.size hbx.lt ?_
     intro v28 w28 hkr28 hg28
     have hI28:=hI27.grownK hkr hg28 (by omega)
     have hK28:=hK27.grownK hkr hg28 (Nat.le_refl _)
     replace hbx:=hbx.grownK hkr hg28
     clear hkr hz26 hg28 Hw27 hal hkl hms26 hown26 hxl26
     have hkr:=hkr28
     clear hkr28
     obtain⟨rA28,rL28,rC28,rfl⟩:=hkr.form2
     refine hKK _ _ ?_
     clear hKK KK
     refine wpAny_ready (rs:=[6]) (by kernel_rfl) (by simp) ?_
     refine AllReady.cons rfl (fun KK hKK=>?_) AllReady.nil
     go_simp
     refine hKK _ _ ?_
     clear hKK KK
     refine wpAny_ready (rs:=[7]) (by kernel_rfl) (by simp) ?_
     refine AllReady.cons rfl (fun KK hKK=>?_) AllReady.nil
     obtain⟨c0,c1,c2,c3,c4,f0,f1,f2,f3,f4⟩:=hbx.cells
     go_simp
     clear c0 c1 c2 c3 c4 f0 f1 f2 f3 f4
     obtain⟨w29,hw⟩:∃ w0,w0=w28.setCell ⟨x,2,none⟩ (.slice rA28 rL28 rC28):=⟨_,rfl⟩
     rw [← hw]
     have hI29:r.In w29 (R26):=by rw [hw];exact hI28.put (by omega) _
     have hK29:Kp r.b w1 w29:=by rw [hw];exact hK28.setCell (.inr hxge) _
     have hs29:w29.heap.size=w28.heap.size:=by rw [hw];exact set_size _ _ _
     replace hbx:=Blk.set2 hbx (.slice rA28 rL28 rC28)
     replace hkr:=KRow.put (i:=2) hkr (.slice rA28 rL28 rC28)
     rw [← hw] at hbx hkr
     clear hw
     refine hKK _ _ ?_
     clear hKK KK
     refine wpAny_done (by kernel_rfl) ?_ _
     go_wp2_with fail
     go_loopg [] f (fun k wr=>∃ acc R' aA lA cA,Blk wr x (.int .i64 12) (.string ⟨#[]⟩) (.slice aA lA cA) (.slice none 0 0) (.int .i64 (atP r.e R:Nat))∧KRow w1.heap.size x wr (.slice aA lA cA) acc∧r.In wr R'∧Kp r.b w1 wr∧Hid (acc.length+k≤f+1∧faceL r.e k (atP r.e R) acc R'=X))
     case atStart=>exact⟨[t26],R26,rA28,rL28,rC28,hbx,hkr,hI29,hK29,⟨by simp;omega,HX.out⟩⟩
     case round =>
      obtain⟨acc,R',aA,lA,cA,hbx,hkr,hI30,hK30,HK⟩:=hrel
      clear HX
      cases gk with
      | zero=>exact absurd HK.out.2 (fun h=>by rw [faceL] at h;exact hNF 0 h.symm)
      | succ k =>
       have HX:Hid (_=X):=HK.out.2
       have HF:Hid (acc.length+(k+1)≤f+1):=HK.out.1
       rw [faceL] at HX
       clear HK
       obtain⟨w30,hw30⟩:∃ w0,w0=wr:=⟨_,rfl⟩
       subst hw30
       cases hq:sees [40] (R') with
       | true =>
        have c:=sees_any [40] r w30 (R') hI30 hwf
        rw [hq] at c
        rw [if_pos hq] at HX
        go_wp2_with fail
        refine (c).mono ?_
        rintro e w31 ⟨rfl,hb31⟩
        have hI31:=hI30.below hb31
        have hK31:=chainK hK30 hb31
        have hk31:=Kp.of_below (b:=r.b) hb31
        replace hbx:=Blk.kp hbx hk31 hbx.lt (by omega)
        replace hkr:=KRow.kp hkr hk31 (by omega)
        clear hb31 hk31
        clear c hq
        go_wp2_with fail
        obtain⟨w32,hw32⟩:∃ w0,w0=w31.drew:=⟨_,rfl⟩
        have hB32:Below w31.heap.size w31 w32:=by rw [hw32];exact Below.drew (Below.refl _ _)
        have hI32:=hI31.below hB32
        have hK32:=chainK hK31 hB32
        have hk32:=Kp.of_below (b:=r.b) hB32
        refine wp_region_any (by kernel_rfl) ?_
        change wpAny _ _ _ _ _ _ _ (World.drew _)
        rw [← hw32]
        clear hw32
        replace hbx:=Blk.kp hbx hk32 hbx.lt (by omega)
        replace hkr:=KRow.kp hkr hk32 (by omega)
        clear hB32 hk32
        refine wpAny_take (i:=0) (v:=.pointer (some ⟨x,2,none⟩)) rfl (by kernel_rfl) (by kernel_rfl) (by kernel_rfl) (fun _ _ _ h=>h) (Or.inl ⟨by rfl,fun w=>by go_simp⟩) ?_
        simp only [Act.put,List.setIfInBounds_toArray,List.set_cons_zero,List.set_cons_succ]
        refine wpAny_take (i:=2) (v:=r.ptr) rfl (by kernel_rfl) (by kernel_rfl) (by kernel_rfl) (fun _ _ _ h=>h) (Or.inl ⟨by rfl,fun w=>by go_simp⟩) ?_
        simp only [Act.put,List.setIfInBounds_toArray,List.set_cons_zero,List.set_cons_succ]
        refine wpAny_ready (rs:=[1,3]) (by kernel_rfl) (by simp) ?_
        refine AllReady.cons rfl (fun KK hKK=>?_) (AllReady.cons rfl (fun KK hKK=>?_) AllReady.nil)
        ·skip
         obtain⟨c0,c1,c2,c3,c4,_⟩:=hbx.cells
         go_simp
         clear c0 c1 c2 c3 c4
         refine hKK _ _ ?_
         clear hKK KK
         refine wpAny_ready (rs:=[3]) (by kernel_rfl) (by simp) ?_
         refine AllReady.cons rfl (fun KK hKK=>?_) AllReady.nil
         go_simp
         have hN33:NF (eqP r.e (R')):=NF.left (by have h:=hNF;rw [← HX.out] at h;exact h)
         have c:=ihq (R') w32 hI32 hN33
         have hxl33:=hbx.lt
         have hown33:=hkr.own
         cases hq:eqP r.e (R') using Rs.cs with
         | bad p y =>
          rw [hq] at c HX
          refine c.mono ?_
          rintro e w33 ⟨rfl,hb⟩
          exact⟨rfl,rule_bad HX.out.symm hB1 hK32 hlt hb⟩
         | ok t33 R33 =>
          rw [hq] at c HX
          rw [bnd_ok] at HX
          refine c.mono ?_
          rintro e w33 ⟨v33,rfl,ht33,hI33,hk33⟩
          have hK33:=hK32.trans hk33
          clear c hq
          replace hbx:=Blk.kp hbx hk33 hbx.lt (by omega)
          replace hkr:=KRow.kp hkr hk33 (by omega)
          have hz33:=ht33
          have hms33:=hK32.size
          clear ht33
          obtain⟨vk33,vn33,rfl,hf33,ka33,kc33,rfl⟩:=TrIn.form hz33
          obtain⟨na33,nc33,rfl⟩:=hf33.form
          clear hf33
          refine hKK _ _ ?_
          clear hKK KK
          refine wpAny_ready (rs:=[4]) (by kernel_rfl) (by simp) ?_
          refine AllReady.cons rfl (fun KK hKK=>?_) AllReady.nil
          go_simp
          have hal:=below_alloc w33 (.cells #[.int .i64 (t33.kind:Nat),.string (bs t33.name),.slice ka33 t33.kids.length kc33,.slice na33 t33.names.length nc33,.int .i64 (t33.at_:Nat)] 26)
          have hkl:=Kp.of_below (b:=r.b) hal
          obtain⟨w34,hw34⟩:∃ w0,w0=w33.alloc (.cells #[.int .i64 (t33.kind:Nat),.string (bs t33.name),.slice ka33 t33.kids.length kc33,.slice na33 t33.names.length nc33,.int .i64 (t33.at_:Nat)] 26):=⟨_,rfl⟩
          rw [← hw34] at hal hkl ⊢
          have hI34:=hI33.below hal
          have hK34:=chainK hK33 hal
          have Hw34:Hid (_=_):=hw34
          clear hw34
          replace hbx:=Blk.kp hbx hkl hbx.lt (by omega)
          replace hkr:=KRow.kp hkr hkl (by omega)
          replace hz33:=TrIn.kp hz33 hkl (by omega)
          refine hKK _ _ ?_
          clear hKK KK
          refine wpAny_ready (rs:=[5]) (by kernel_rfl) (by simp) ?_
          refine AllReady.cons rfl (fun KK hKK=>?_) AllReady.nil
          refine step_append_tree (n:=w1.heap.size) (x:=x) (m:=w32.heap.size) rfl (.tmp 20) (.tmp 23) rfl rfl rfl hkr hz33 (one_cells _ _ _ _ _ _ _) hown33 hxl33 hms33 (fun j y hj=>by rw [Hw34.out];exact new_cell _ _ _ _ j y rfl hj) (by have:=HF.out;omega) hK34.size hbx.lt ?_
          intro v35 w35 hkr35 hg35
          have hI35:=hI34.grownK hkr hg35 (by omega)
          have hK35:=hK34.grownK hkr hg35 (Nat.le_refl _)
          replace hbx:=hbx.grownK hkr hg35
          clear hkr hz33 hg35 Hw34 hal hkl hms33 hown33 hxl33
          have hkr:=hkr35
          clear hkr35
          obtain⟨rA35,rL35,rC35,rfl⟩:=hkr.form2
          refine hKK _ _ ?_
          clear hKK KK
          refine wpAny_ready (rs:=[6]) (by kernel_rfl) (by simp) ?_
          refine AllReady.cons rfl (fun KK hKK=>?_) AllReady.nil
          go_simp
          refine hKK _ _ ?_
          clear hKK KK
          refine wpAny_ready (rs:=[7]) (by kernel_rfl) (by simp) ?_
          refine AllReady.cons rfl (fun KK hKK=>?_) AllReady.nil
          obtain⟨c0,c1,c2,c3,c4,f0,f1,f2,f3,f4⟩:=hbx.cells
          go_simp
          clear c0 c1 c2 c3 c4 f0 f1 f2 f3 f4
          obtain⟨w36,hw⟩:∃ w0,w0=w35.setCell ⟨x,2,none⟩ (.slice rA35 rL35 rC35):=⟨_,rfl⟩
          rw [← hw]
          have hI36:r.In w36 (R33):=by rw [hw];exact hI35.put (by omega) _
          have hK36:Kp r.b w1 w36:=by rw [hw];exact hK35.setCell (.inr hxge) _
          have hs36:w36.heap.size=w35.heap.size:=by rw [hw];exact set_size _ _ _
          replace hbx:=Blk.set2 hbx (.slice rA35 rL35 rC35)
          replace hkr:=KRow.put (i:=2) hkr (.slice rA35 rL35 rC35)
          rw [← hw] at hbx hkr
          clear hw
          refine hKK _ _ ?_
          clear hKK KK
          refine wpAny_done (by kernel_rfl) ?_ _
          go_wp2_with fail
          go_roundg k
          case measure=>omega
          case rel=>exact⟨acc ++ [t33],R33,rA35,rL35,rC35,hbx,hkr,hI36,hK36,⟨by have:=HF.out;simp;omega,HX.out⟩⟩
        ·skip
         go_simp
         have hN37:NF (eqP r.e (R')):=NF.left (by have h:=hNF;rw [← HX.out] at h;exact h)
         have c:=ihq (R') w32 hI32 hN37
         have hxl37:=hbx.lt
         have hown37:=hkr.own
         cases hq:eqP r.e (R') using Rs.cs with
         | bad p y =>
          rw [hq] at c HX
          refine c.mono ?_
          rintro e w37 ⟨rfl,hb⟩
          exact⟨rfl,rule_bad HX.out.symm hB1 hK32 hlt hb⟩
         | ok t37 R37 =>
          rw [hq] at c HX
          rw [bnd_ok] at HX
          refine c.mono ?_
          rintro e w37 ⟨v37,rfl,ht37,hI37,hk37⟩
          have hK37:=hK32.trans hk37
          clear c hq
          replace hbx:=Blk.kp hbx hk37 hbx.lt (by omega)
          replace hkr:=KRow.kp hkr hk37 (by omega)
          have hz37:=ht37
          have hms37:=hK32.size
          clear ht37
          obtain⟨vk37,vn37,rfl,hf37,ka37,kc37,rfl⟩:=TrIn.form hz37
          obtain⟨na37,nc37,rfl⟩:=hf37.form
          clear hf37
          refine hKK _ _ ?_
          clear hKK KK
          refine wpAny_ready (rs:=[1,4]) (by kernel_rfl) (by simp) ?_
          refine AllReady.cons rfl (fun KK hKK=>?_) (AllReady.cons rfl (fun KK hKK=>?_) AllReady.nil)
          ·skip
           obtain⟨c0,c1,c2,c3,c4,_⟩:=hbx.cells
           go_simp
           clear c0 c1 c2 c3 c4
           refine hKK _ _ ?_
           clear hKK KK
           refine wpAny_ready (rs:=[4]) (by kernel_rfl) (by simp) ?_
           refine AllReady.cons rfl (fun KK hKK=>?_) AllReady.nil
           go_simp
           have hal:=below_alloc w37 (.cells #[.int .i64 (t37.kind:Nat),.string (bs t37.name),.slice ka37 t37.kids.length kc37,.slice na37 t37.names.length nc37,.int .i64 (t37.at_:Nat)] 26)
           have hkl:=Kp.of_below (b:=r.b) hal
           obtain⟨w38,hw38⟩:∃ w0,w0=w37.alloc (.cells #[.int .i64 (t37.kind:Nat),.string (bs t37.name),.slice ka37 t37.kids.length kc37,.slice na37 t37.names.length nc37,.int .i64 (t37.at_:Nat)] 26):=⟨_,rfl⟩
           rw [← hw38] at hal hkl ⊢
           have hI38:=hI37.below hal
           have hK38:=chainK hK37 hal
           have Hw38:Hid (_=_):=hw38
           clear hw38
           replace hbx:=Blk.kp hbx hkl hbx.lt (by omega)
           replace hkr:=KRow.kp hkr hkl (by omega)
           replace hz37:=TrIn.kp hz37 hkl (by omega)
           refine hKK _ _ ?_
           clear hKK KK
           refine wpAny_ready (rs:=[5]) (by kernel_rfl) (by simp) ?_
           refine AllReady.cons rfl (fun KK hKK=>?_) AllReady.nil
           refine step_append_tree (n:=w1.heap.size) (x:=x) (m:=w32.heap.size) rfl (.tmp 20) (.tmp 23) rfl rfl rfl hkr hz37 (one_cells _ _ _ _ _ _ _) hown37 hxl37 hms37 (fun j y hj=>by rw [Hw38.out];exact new_cell _ _ _ _ j y rfl hj) (by have:=HF.out;omega) hK38.size hbx.lt ?_
           intro v39 w39 hkr39 hg39
           have hI39:=hI38.grownK hkr hg39 (by omega)
           have hK39:=hK38.grownK hkr hg39 (Nat.le_refl _)
           replace hbx:=hbx.grownK hkr hg39
           clear hkr hz37 hg39 Hw38 hal hkl hms37 hown37 hxl37
           have hkr:=hkr39
           clear hkr39
           obtain⟨rA39,rL39,rC39,rfl⟩:=hkr.form2
           refine hKK _ _ ?_
           clear hKK KK
           refine wpAny_ready (rs:=[6]) (by kernel_rfl) (by simp) ?_
           refine AllReady.cons rfl (fun KK hKK=>?_) AllReady.nil
           go_simp
           refine hKK _ _ ?_
           clear hKK KK
           refine wpAny_ready (rs:=[7]) (by kernel_rfl) (by simp) ?_
           refine AllReady.cons rfl (fun KK hKK=>?_) AllReady.nil
           obtain⟨c0,c1,c2,c3,c4,f0,f1,f2,f3,f4⟩:=hbx.cells
           go_simp
           clear c0 c1 c2 c3 c4 f0 f1 f2 f3 f4
           obtain⟨w40,hw⟩:∃ w0,w0=w39.setCell ⟨x,2,none⟩ (.slice rA39 rL39 rC39):=⟨_,rfl⟩
           rw [← hw]
           have hI40:r.In w40 (R37):=by rw [hw];exact hI39.put (by omega) _
           have hK40:Kp r.b w1 w40:=by rw [hw];exact hK39.setCell (.inr hxge) _
           have hs40:w40.heap.size=w39.heap.size:=by rw [hw];exact set_size _ _ _
           replace hbx:=Blk.set2 hbx (.slice rA39 rL39 rC39)
           replace hkr:=KRow.put (i:=2) hkr (.slice rA39 rL39 rC39)
           rw [← hw] at hbx hkr
           clear hw
           refine hKK _ _ ?_
           clear hKK KK
           refine wpAny_done (by kernel_rfl) ?_ _
           go_wp2_with fail
           go_roundg k
           case measure=>omega
           case rel=>exact⟨acc ++ [t37],R37,rA39,rL39,rC39,hbx,hkr,hI40,hK40,⟨by have:=HF.out;simp;omega,HX.out⟩⟩
          ·skip
           go_simp
           have hal:=below_alloc w37 (.cells #[.int .i64 (t37.kind:Nat),.string (bs t37.name),.slice ka37 t37.kids.length kc37,.slice na37 t37.names.length nc37,.int .i64 (t37.at_:Nat)] 26)
           have hkl:=Kp.of_below (b:=r.b) hal
           obtain⟨w41,hw41⟩:∃ w0,w0=w37.alloc (.cells #[.int .i64 (t37.kind:Nat),.string (bs t37.name),.slice ka37 t37.kids.length kc37,.slice na37 t37.names.length nc37,.int .i64 (t37.at_:Nat)] 26):=⟨_,rfl⟩
           rw [← hw41] at hal hkl ⊢
           have hI41:=hI37.below hal
           have hK41:=chainK hK37 hal
           have Hw41:Hid (_=_):=hw41
           clear hw41
           replace hbx:=Blk.kp hbx hkl hbx.lt (by omega)
           replace hkr:=KRow.kp hkr hkl (by omega)
           replace hz37:=TrIn.kp hz37 hkl (by omega)
           refine hKK _ _ ?_
           clear hKK KK
           refine wpAny_ready (rs:=[1]) (by kernel_rfl) (by simp) ?_
           refine AllReady.cons rfl (fun KK hKK=>?_) AllReady.nil
           obtain⟨c0,c1,c2,c3,c4,_⟩:=hbx.cells
           go_simp
           clear c0 c1 c2 c3 c4
           refine hKK _ _ ?_
           clear hKK KK
           refine wpAny_ready (rs:=[5]) (by kernel_rfl) (by simp) ?_
           refine AllReady.cons rfl (fun KK hKK=>?_) AllReady.nil
           refine step_append_tree (n:=w1.heap.size) (x:=x) (m:=w32.heap.size) rfl (.tmp 20) (.tmp 23) rfl rfl rfl hkr hz37 (one_cells _ _ _ _ _ _ _) hown37 hxl37 hms37 (fun j y hj=>by rw [Hw41.out];exact new_cell _ _ _ _ j y rfl hj) (by have:=HF.out;omega) hK41.size hbx.lt ?_
           intro v42 w42 hkr42 hg42
           have hI42:=hI41.grownK hkr hg42 (by omega)
           have hK42:=hK41.grownK hkr hg42 (Nat.le_refl _)
           replace hbx:=hbx.grownK hkr hg42
           clear hkr hz37 hg42 Hw41 hal hkl hms37 hown37 hxl37
           have hkr:=hkr42
           clear hkr42
           obtain⟨rA42,rL42,rC42,rfl⟩:=hkr.form2
           refine hKK _ _ ?_
           clear hKK KK
           refine wpAny_ready (rs:=[6]) (by kernel_rfl) (by simp) ?_
           refine AllReady.cons rfl (fun KK hKK=>?_) AllReady.nil
           go_simp
           refine hKK _ _ ?_
           clear hKK KK
           refine wpAny_ready (rs:=[7]) (by kernel_rfl) (by simp) ?_
           refine AllReady.cons rfl (fun KK hKK=>?_) AllReady.nil
           obtain⟨c0,c1,c2,c3,c4,f0,f1,f2,f3,f4⟩:=hbx.cells
           go_simp
           clear c0 c1 c2 c3 c4 f0 f1 f2 f3 f4
           obtain⟨w43,hw⟩:∃ w0,w0=w42.setCell ⟨x,2,none⟩ (.slice rA42 rL42 rC42):=⟨_,rfl⟩
           rw [← hw]
           have hI43:r.In w43 (R37):=by rw [hw];exact hI42.put (by omega) _
           have hK43:Kp r.b w1 w43:=by rw [hw];exact hK42.setCell (.inr hxge) _
           have hs43:w43.heap.size=w42.heap.size:=by rw [hw];exact set_size _ _ _
           replace hbx:=Blk.set2 hbx (.slice rA42 rL42 rC42)
           replace hkr:=KRow.put (i:=2) hkr (.slice rA42 rL42 rC42)
           rw [← hw] at hbx hkr
           clear hw
           refine hKK _ _ ?_
           clear hKK KK
           refine wpAny_done (by kernel_rfl) ?_ _
           go_wp2_with fail
           go_roundg k
           case measure=>omega
           case rel=>exact⟨acc ++ [t37],R37,rA42,rL42,rC42,hbx,hkr,hI43,hK43,⟨by have:=HF.out;simp;omega,HX.out⟩⟩
       | false =>
        have c:=sees_any [40] r w30 (R') hI30 hwf
        rw [hq] at c
        rw [if_neg (neT hq)] at HX
        go_wp2_with fail
        refine (c).mono ?_
        rintro e w44 ⟨rfl,hb44⟩
        have hI44:=hI30.below hb44
        have hK44:=chainK hK30 hb44
        have hk44:=Kp.of_below (b:=r.b) hb44
        replace hbx:=Blk.kp hbx hk44 hbx.lt (by omega)
        replace hkr:=KRow.kp hkr hk44 (by omega)
        clear hb44 hk44
        clear c hq
        obtain⟨c0,c1,c2,c3,c4,_⟩:=hbx.cells
        obtain⟨o0,o1,o2,o3,o4,z0,z1,z2,z3,z4⟩:=Blk.cells (hh1.kp hK44 hn1 hlt)
        go_wp2_with fail
        exact⟨rfl,.agg #[.int .i64 12,.string ⟨#[]⟩,.slice aA lA cA,.slice none 0 0,.int .i64 (atP r.e R:Nat)],by simp [results,Tryz.results124,go_sem, *],rule_end (n:=w.heap.size) HX.out.symm hB1 rfl hn1 hI44 hlt hK44 (TrIn.fromB (hkr.tree 12 [] [] (atP r.e R) (.nil none 0))) _ _ _ _ _⟩
    ·skip
     go_simp
     have hal:=below_alloc w26 (.cells #[.int .i64 (t26.kind:Nat),.string (bs t26.name),.slice ka26 t26.kids.length kc26,.slice na26 t26.names.length nc26,.int .i64 (t26.at_:Nat)] 26)
     have hkl:=Kp.of_below (b:=r.b) hal
     obtain⟨w45,hw45⟩:∃ w0,w0=w26.alloc (.cells #[.int .i64 (t26.kind:Nat),.string (bs t26.name),.slice ka26 t26.kids.length kc26,.slice na26 t26.names.length nc26,.int .i64 (t26.at_:Nat)] 26):=⟨_,rfl⟩
     rw [← hw45] at hal hkl ⊢
     have hI45:=hI26.below hal
     have hK45:=chainK hK26 hal
     have Hw45:Hid (_=_):=hw45
     clear hw45
     replace hbx:=Blk.kp hbx hkl hbx.lt (by omega)
     replace hkr:=KRow.kp hkr hkl (by omega)
     replace hz26:=TrIn.kp hz26 hkl (by omega)
     refine hKK _ _ ?_
     clear hKK KK
     refine wpAny_ready (rs:=[1]) (by kernel_rfl) (by simp) ?_
     refine AllReady.cons rfl (fun KK hKK=>?_) AllReady.nil
     obtain⟨c0,c1,c2,c3,c4,_⟩:=hbx.cells
     go_simp
     clear c0 c1 c2 c3 c4
     refine hKK _ _ ?_
     clear hKK KK
     refine wpAny_ready (rs:=[5]) (by kernel_rfl) (by simp) ?_
     refine AllReady.cons rfl (fun KK hKK=>?_) AllReady.nil
     refine step_append_tree (n:=w1.heap.size) (x:=x) (m:=w6.heap.size) rfl (.tmp 11) (.tmp 14) rfl rfl rfl hkr hz26 (one_cells _ _ _ _ _ _ _) hown26 hxl26 hms26 (fun j y hj=>by rw [Hw45.out];exact new_cell _ _ _ _ j y rfl hj) (by simp) hK45.size hbx.lt ?_
     intro v46 w46 hkr46 hg46
     have hI46:=hI45.grownK hkr hg46 (by omega)
     have hK46:=hK45.grownK hkr hg46 (Nat.le_refl _)
     replace hbx:=hbx.grownK hkr hg46
     clear hkr hz26 hg46 Hw45 hal hkl hms26 hown26 hxl26
     have hkr:=hkr46
     clear hkr46
     obtain⟨rA46,rL46,rC46,rfl⟩:=hkr.form2
     refine hKK _ _ ?_
     clear hKK KK
     refine wpAny_ready (rs:=[6]) (by kernel_rfl) (by simp) ?_
     refine AllReady.cons rfl (fun KK hKK=>?_) AllReady.nil
     go_simp
     refine hKK _ _ ?_
     clear hKK KK
     refine wpAny_ready (rs:=[7]) (by kernel_rfl) (by simp) ?_
     refine AllReady.cons rfl (fun KK hKK=>?_) AllReady.nil
     obtain⟨c0,c1,c2,c3,c4,f0,f1,f2,f3,f4⟩:=hbx.cells
     go_simp
     clear c0 c1 c2 c3 c4 f0 f1 f2 f3 f4
     obtain⟨w47,hw⟩:∃ w0,w0=w46.setCell ⟨x,2,none⟩ (.slice rA46 rL46 rC46):=⟨_,rfl⟩
     rw [← hw]
     have hI47:r.In w47 (R26):=by rw [hw];exact hI46.put (by omega) _
     have hK47:Kp r.b w1 w47:=by rw [hw];exact hK46.setCell (.inr hxge) _
     have hs47:w47.heap.size=w46.heap.size:=by rw [hw];exact set_size _ _ _
     replace hbx:=Blk.set2 hbx (.slice rA46 rL46 rC46)
     replace hkr:=KRow.put (i:=2) hkr (.slice rA46 rL46 rC46)
     rw [← hw] at hbx hkr
     clear hw
     refine hKK _ _ ?_
     clear hKK KK
     refine wpAny_done (by kernel_rfl) ?_ _
     go_wp2_with fail
     go_loopg [] f (fun k wr=>∃ acc R' aA lA cA,Blk wr x (.int .i64 12) (.string ⟨#[]⟩) (.slice aA lA cA) (.slice none 0 0) (.int .i64 (atP r.e R:Nat))∧KRow w1.heap.size x wr (.slice aA lA cA) acc∧r.In wr R'∧Kp r.b w1 wr∧Hid (acc.length+k≤f+1∧faceL r.e k (atP r.e R) acc R'=X))
     case atStart=>exact⟨[t26],R26,rA46,rL46,rC46,hbx,hkr,hI47,hK47,⟨by simp;omega,HX.out⟩⟩
     case round =>
      obtain⟨acc,R',aA,lA,cA,hbx,hkr,hI48,hK48,HK⟩:=hrel
      clear HX
      cases gk with
      | zero=>exact absurd HK.out.2 (fun h=>by rw [faceL] at h;exact hNF 0 h.symm)
      | succ k =>
       have HX:Hid (_=X):=HK.out.2
       have HF:Hid (acc.length+(k+1)≤f+1):=HK.out.1
       rw [faceL] at HX
       clear HK
       obtain⟨w48,hw48⟩:∃ w0,w0=wr:=⟨_,rfl⟩
       subst hw48
       cases hq:sees [40] (R') with
       | true =>
        have c:=sees_any [40] r w48 (R') hI48 hwf
        rw [hq] at c
        rw [if_pos hq] at HX
        go_wp2_with fail
        refine (c).mono ?_
        rintro e w49 ⟨rfl,hb49⟩
        have hI49:=hI48.below hb49
        have hK49:=chainK hK48 hb49
        have hk49:=Kp.of_below (b:=r.b) hb49
        replace hbx:=Blk.kp hbx hk49 hbx.lt (by omega)
        replace hkr:=KRow.kp hkr hk49 (by omega)
        clear hb49 hk49
        clear c hq
        go_wp2_with fail
        obtain⟨w50,hw50⟩:∃ w0,w0=w49.drew:=⟨_,rfl⟩
        have hB50:Below w49.heap.size w49 w50:=by rw [hw50];exact Below.drew (Below.refl _ _)
        have hI50:=hI49.below hB50
        have hK50:=chainK hK49 hB50
        have hk50:=Kp.of_below (b:=r.b) hB50
        refine wp_region_any (by kernel_rfl) ?_
        change wpAny _ _ _ _ _ _ _ (World.drew _)
        rw [← hw50]
        clear hw50
        replace hbx:=Blk.kp hbx hk50 hbx.lt (by omega)
        replace hkr:=KRow.kp hkr hk50 (by omega)
        clear hB50 hk50
        refine wpAny_take (i:=0) (v:=.pointer (some ⟨x,2,none⟩)) rfl (by kernel_rfl) (by kernel_rfl) (by kernel_rfl) (fun _ _ _ h=>h) (Or.inl ⟨by rfl,fun w=>by go_simp⟩) ?_
        simp only [Act.put,List.setIfInBounds_toArray,List.set_cons_zero,List.set_cons_succ]
        refine wpAny_take (i:=2) (v:=r.ptr) rfl (by kernel_rfl) (by kernel_rfl) (by kernel_rfl) (fun _ _ _ h=>h) (Or.inl ⟨by rfl,fun w=>by go_simp⟩) ?_
        simp only [Act.put,List.setIfInBounds_toArray,List.set_cons_zero,List.set_cons_succ]
        refine wpAny_ready (rs:=[1,3]) (by kernel_rfl) (by simp) ?_
        refine AllReady.cons rfl (fun KK hKK=>?_) (AllReady.cons rfl (fun KK hKK=>?_) AllReady.nil)
        ·skip
         obtain⟨c0,c1,c2,c3,c4,_⟩:=hbx.cells
         go_simp
         clear c0 c1 c2 c3 c4
         refine hKK _ _ ?_
         clear hKK KK
         refine wpAny_ready (rs:=[3]) (by kernel_rfl) (by simp) ?_
         refine AllReady.cons rfl (fun KK hKK=>?_) AllReady.nil
         go_simp
         have hN51:NF (eqP r.e (R')):=NF.left (by have h:=hNF;rw [← HX.out] at h;exact h)
         have c:=ihq (R') w50 hI50 hN51
         have hxl51:=hbx.lt
         have hown51:=hkr.own
         cases hq:eqP r.e (R') using Rs.cs with
         | bad p y =>
          rw [hq] at c HX
          refine c.mono ?_
          rintro e w51 ⟨rfl,hb⟩
          exact⟨rfl,rule_bad HX.out.symm hB1 hK50 hlt hb⟩
         | ok t51 R51 =>
          rw [hq] at c HX
          rw [bnd_ok] at HX
          refine c.mono ?_
          rintro e w51 ⟨v51,rfl,ht51,hI51,hk51⟩
          have hK51:=hK50.trans hk51
          clear c hq
          replace hbx:=Blk.kp hbx hk51 hbx.lt (by omega)
          replace hkr:=KRow.kp hkr hk51 (by omega)
          have hz51:=ht51
          have hms51:=hK50.size
          clear ht51
          obtain⟨vk51,vn51,rfl,hf51,ka51,kc51,rfl⟩:=TrIn.form hz51
          obtain⟨na51,nc51,rfl⟩:=hf51.form
          clear hf51
          refine hKK _ _ ?_
          clear hKK KK
          refine wpAny_ready (rs:=[4]) (by kernel_rfl) (by simp) ?_
          refine AllReady.cons rfl (fun KK hKK=>?_) AllReady.nil
          go_simp
          have hal:=below_alloc w51 (.cells #[.int .i64 (t51.kind:Nat),.string (bs t51.name),.slice ka51 t51.kids.length kc51,.slice na51 t51.names.length nc51,.int .i64 (t51.at_:Nat)] 26)
          have hkl:=Kp.of_below (b:=r.b) hal
          obtain⟨w52,hw52⟩:∃ w0,w0=w51.alloc (.cells #[.int .i64 (t51.kind:Nat),.string (bs t51.name),.slice ka51 t51.kids.length kc51,.slice na51 t51.names.length nc51,.int .i64 (t51.at_:Nat)] 26):=⟨_,rfl⟩
          rw [← hw52] at hal hkl ⊢
          have hI52:=hI51.below hal
          have hK52:=chainK hK51 hal
          have Hw52:Hid (_=_):=hw52
          clear hw52
          replace hbx:=Blk.kp hbx hkl hbx.lt (by omega)
          replace hkr:=KRow.kp hkr hkl (by omega)
          replace hz51:=TrIn.kp hz51 hkl (by omega)
          refine hKK _ _ ?_
          clear hKK KK
          refine wpAny_ready (rs:=[5]) (by kernel_rfl) (by simp) ?_
          refine AllReady.cons rfl (fun KK hKK=>?_) AllReady.nil
          refine step_append_tree (n:=w1.heap.size) (x:=x) (m:=w50.heap.size) rfl (.tmp 20) (.tmp 23) rfl rfl rfl hkr hz51 (one_cells _ _ _ _ _ _ _) hown51 hxl51 hms51 (fun j y hj=>by rw [Hw52.out];exact new_cell _ _ _ _ j y rfl hj) (by have:=HF.out;omega) hK52.size hbx.lt ?_
          intro v53 w53 hkr53 hg53
          have hI53:=hI52.grownK hkr hg53 (by omega)
          have hK53:=hK52.grownK hkr hg53 (Nat.le_refl _)
          replace hbx:=hbx.grownK hkr hg53
          clear hkr hz51 hg53 Hw52 hal hkl hms51 hown51 hxl51
          have hkr:=hkr53
          clear hkr53
          obtain⟨rA53,rL53,rC53,rfl⟩:=hkr.form2
          refine hKK _ _ ?_
          clear hKK KK
          refine wpAny_ready (rs:=[6]) (by kernel_rfl) (by simp) ?_
          refine AllReady.cons rfl (fun KK hKK=>?_) AllReady.nil
          go_simp
          refine hKK _ _ ?_
          clear hKK KK
          refine wpAny_ready (rs:=[7]) (by kernel_rfl) (by simp) ?_
          refine AllReady.cons rfl (fun KK hKK=>?_) AllReady.nil
          obtain⟨c0,c1,c2,c3,c4,f0,f1,f2,f3,f4⟩:=hbx.cells
          go_simp
          clear c0 c1 c2 c3 c4 f0 f1 f2 f3 f4
          obtain⟨w54,hw⟩:∃ w0,w0=w53.setCell ⟨x,2,none⟩ (.slice rA53 rL53 rC53):=⟨_,rfl⟩
          rw [← hw]
          have hI54:r.In w54 (R51):=by rw [hw];exact hI53.put (by omega) _
          have hK54:Kp r.b w1 w54:=by rw [hw];exact hK53.setCell (.inr hxge) _
          have hs54:w54.heap.size=w53.heap.size:=by rw [hw];exact set_size _ _ _
          replace hbx:=Blk.set2 hbx (.slice rA53 rL53 rC53)
          replace hkr:=KRow.put (i:=2) hkr (.slice rA53 rL53 rC53)
          rw [← hw] at hbx hkr
          clear hw
          refine hKK _ _ ?_
          clear hKK KK
          refine wpAny_done (by kernel_rfl) ?_ _
          go_wp2_with fail
          go_roundg k
          case measure=>omega
          case rel=>exact⟨acc ++ [t51],R51,rA53,rL53,rC53,hbx,hkr,hI54,hK54,⟨by have:=HF.out;simp;omega,HX.out⟩⟩
        ·skip
         go_simp
         have hN55:NF (eqP r.e (R')):=NF.left (by have h:=hNF;rw [← HX.out] at h;exact h)
         have c:=ihq (R') w50 hI50 hN55
         have hxl55:=hbx.lt
         have hown55:=hkr.own
         cases hq:eqP r.e (R') using Rs.cs with
         | bad p y =>
          rw [hq] at c HX
          refine c.mono ?_
          rintro e w55 ⟨rfl,hb⟩
          exact⟨rfl,rule_bad HX.out.symm hB1 hK50 hlt hb⟩
         | ok t55 R55 =>
          rw [hq] at c HX
          rw [bnd_ok] at HX
          refine c.mono ?_
          rintro e w55 ⟨v55,rfl,ht55,hI55,hk55⟩
          have hK55:=hK50.trans hk55
          clear c hq
          replace hbx:=Blk.kp hbx hk55 hbx.lt (by omega)
          replace hkr:=KRow.kp hkr hk55 (by omega)
          have hz55:=ht55
          have hms55:=hK50.size
          clear ht55
          obtain⟨vk55,vn55,rfl,hf55,ka55,kc55,rfl⟩:=TrIn.form hz55
          obtain⟨na55,nc55,rfl⟩:=hf55.form
          clear hf55
          refine hKK _ _ ?_
          clear hKK KK
          refine wpAny_ready (rs:=[1,4]) (by kernel_rfl) (by simp) ?_
          refine AllReady.cons rfl (fun KK hKK=>?_) (AllReady.cons rfl (fun KK hKK=>?_) AllReady.nil)
          ·skip
           obtain⟨c0,c1,c2,c3,c4,_⟩:=hbx.cells
           go_simp
           clear c0 c1 c2 c3 c4
           refine hKK _ _ ?_
           clear hKK KK
           refine wpAny_ready (rs:=[4]) (by kernel_rfl) (by simp) ?_
           refine AllReady.cons rfl (fun KK hKK=>?_) AllReady.nil
           go_simp
           have hal:=below_alloc w55 (.cells #[.int .i64 (t55.kind:Nat),.string (bs t55.name),.slice ka55 t55.kids.length kc55,.slice na55 t55.names.length nc55,.int .i64 (t55.at_:Nat)] 26)
           have hkl:=Kp.of_below (b:=r.b) hal
           obtain⟨w56,hw56⟩:∃ w0,w0=w55.alloc (.cells #[.int .i64 (t55.kind:Nat),.string (bs t55.name),.slice ka55 t55.kids.length kc55,.slice na55 t55.names.length nc55,.int .i64 (t55.at_:Nat)] 26):=⟨_,rfl⟩
           rw [← hw56] at hal hkl ⊢
           have hI56:=hI55.below hal
           have hK56:=chainK hK55 hal
           have Hw56:Hid (_=_):=hw56
           clear hw56
           replace hbx:=Blk.kp hbx hkl hbx.lt (by omega)
           replace hkr:=KRow.kp hkr hkl (by omega)
           replace hz55:=TrIn.kp hz55 hkl (by omega)
           refine hKK _ _ ?_
           clear hKK KK
           refine wpAny_ready (rs:=[5]) (by kernel_rfl) (by simp) ?_
           refine AllReady.cons rfl (fun KK hKK=>?_) AllReady.nil
           refine step_append_tree (n:=w1.heap.size) (x:=x) (m:=w50.heap.size) rfl (.tmp 20) (.tmp 23) rfl rfl rfl hkr hz55 (one_cells _ _ _ _ _ _ _) hown55 hxl55 hms55 (fun j y hj=>by rw [Hw56.out];exact new_cell _ _ _ _ j y rfl hj) (by have:=HF.out;omega) hK56.size hbx.lt ?_
           intro v57 w57 hkr57 hg57
           have hI57:=hI56.grownK hkr hg57 (by omega)
           have hK57:=hK56.grownK hkr hg57 (Nat.le_refl _)
           replace hbx:=hbx.grownK hkr hg57
           clear hkr hz55 hg57 Hw56 hal hkl hms55 hown55 hxl55
           have hkr:=hkr57
           clear hkr57
           obtain⟨rA57,rL57,rC57,rfl⟩:=hkr.form2
           refine hKK _ _ ?_
           clear hKK KK
           refine wpAny_ready (rs:=[6]) (by kernel_rfl) (by simp) ?_
           refine AllReady.cons rfl (fun KK hKK=>?_) AllReady.nil
           go_simp
           refine hKK _ _ ?_
           clear hKK KK
           refine wpAny_ready (rs:=[7]) (by kernel_rfl) (by simp) ?_
           refine AllReady.cons rfl (fun KK hKK=>?_) AllReady.nil
           obtain⟨c0,c1,c2,c3,c4,f0,f1,f2,f3,f4⟩:=hbx.cells
           go_simp
           clear c0 c1 c2 c3 c4 f0 f1 f2 f3 f4
           obtain⟨w58,hw⟩:∃ w0,w0=w57.setCell ⟨x,2,none⟩ (.slice rA57 rL57 rC57):=⟨_,rfl⟩
           rw [← hw]
           have hI58:r.In w58 (R55):=by rw [hw];exact hI57.put (by omega) _
           have hK58:Kp r.b w1 w58:=by rw [hw];exact hK57.setCell (.inr hxge) _
           have hs58:w58.heap.size=w57.heap.size:=by rw [hw];exact set_size _ _ _
           replace hbx:=Blk.set2 hbx (.slice rA57 rL57 rC57)
           replace hkr:=KRow.put (i:=2) hkr (.slice rA57 rL57 rC57)
           rw [← hw] at hbx hkr
           clear hw
           refine hKK _ _ ?_
           clear hKK KK
           refine wpAny_done (by kernel_rfl) ?_ _
           go_wp2_with fail
           go_roundg k
           case measure=>omega
           case rel=>exact⟨acc ++ [t55],R55,rA57,rL57,rC57,hbx,hkr,hI58,hK58,⟨by have:=HF.out;simp;omega,HX.out⟩⟩
          ·skip
           go_simp
           have hal:=below_alloc w55 (.cells #[.int .i64 (t55.kind:Nat),.string (bs t55.name),.slice ka55 t55.kids.length kc55,.slice na55 t55.names.length nc55,.int .i64 (t55.at_:Nat)] 26)
           have hkl:=Kp.of_below (b:=r.b) hal
           obtain⟨w59,hw59⟩:∃ w0,w0=w55.alloc (.cells #[.int .i64 (t55.kind:Nat),.string (bs t55.name),.slice ka55 t55.kids.length kc55,.slice na55 t55.names.length nc55,.int .i64 (t55.at_:Nat)] 26):=⟨_,rfl⟩
           rw [← hw59] at hal hkl ⊢
           have hI59:=hI55.below hal
           have hK59:=chainK hK55 hal
           have Hw59:Hid (_=_):=hw59
           clear hw59
           replace hbx:=Blk.kp hbx hkl hbx.lt (by omega)
           replace hkr:=KRow.kp hkr hkl (by omega)
           replace hz55:=TrIn.kp hz55 hkl (by omega)
           refine hKK _ _ ?_
           clear hKK KK
           refine wpAny_ready (rs:=[1]) (by kernel_rfl) (by simp) ?_
           refine AllReady.cons rfl (fun KK hKK=>?_) AllReady.nil
           obtain⟨c0,c1,c2,c3,c4,_⟩:=hbx.cells
           go_simp
           clear c0 c1 c2 c3 c4
           refine hKK _ _ ?_
           clear hKK KK
           refine wpAny_ready (rs:=[5]) (by kernel_rfl) (by simp) ?_
           refine AllReady.cons rfl (fun KK hKK=>?_) AllReady.nil
           refine step_append_tree (n:=w1.heap.size) (x:=x) (m:=w50.heap.size) rfl (.tmp 20) (.tmp 23) rfl rfl rfl hkr hz55 (one_cells _ _ _ _ _ _ _) hown55 hxl55 hms55 (fun j y hj=>by rw [Hw59.out];exact new_cell _ _ _ _ j y rfl hj) (by have:=HF.out;omega) hK59.size hbx.lt ?_
           intro v60 w60 hkr60 hg60
           have hI60:=hI59.grownK hkr hg60 (by omega)
           have hK60:=hK59.grownK hkr hg60 (Nat.le_refl _)
           replace hbx:=hbx.grownK hkr hg60
           clear hkr hz55 hg60 Hw59 hal hkl hms55 hown55 hxl55
           have hkr:=hkr60
           clear hkr60
           obtain⟨rA60,rL60,rC60,rfl⟩:=hkr.form2
           refine hKK _ _ ?_
           clear hKK KK
           refine wpAny_ready (rs:=[6]) (by kernel_rfl) (by simp) ?_
           refine AllReady.cons rfl (fun KK hKK=>?_) AllReady.nil
           go_simp
           refine hKK _ _ ?_
           clear hKK KK
           refine wpAny_ready (rs:=[7]) (by kernel_rfl) (by simp) ?_
           refine AllReady.cons rfl (fun KK hKK=>?_) AllReady.nil
           obtain⟨c0,c1,c2,c3,c4,f0,f1,f2,f3,f4⟩:=hbx.cells
           go_simp
           clear c0 c1 c2 c3 c4 f0 f1 f2 f3 f4
           obtain⟨w61,hw⟩:∃ w0,w0=w60.setCell ⟨x,2,none⟩ (.slice rA60 rL60 rC60):=⟨_,rfl⟩
           rw [← hw]
           have hI61:r.In w61 (R55):=by rw [hw];exact hI60.put (by omega) _
           have hK61:Kp r.b w1 w61:=by rw [hw];exact hK60.setCell (.inr hxge) _
           have hs61:w61.heap.size=w60.heap.size:=by rw [hw];exact set_size _ _ _
           replace hbx:=Blk.set2 hbx (.slice rA60 rL60 rC60)
           replace hkr:=KRow.put (i:=2) hkr (.slice rA60 rL60 rC60)
           rw [← hw] at hbx hkr
           clear hw
           refine hKK _ _ ?_
           clear hKK KK
           refine wpAny_done (by kernel_rfl) ?_ _
           go_wp2_with fail
           go_roundg k
           case measure=>omega
           case rel=>exact⟨acc ++ [t55],R55,rA60,rL60,rC60,hbx,hkr,hI61,hK61,⟨by have:=HF.out;simp;omega,HX.out⟩⟩
       | false =>
        have c:=sees_any [40] r w48 (R') hI48 hwf
        rw [hq] at c
        rw [if_neg (neT hq)] at HX
        go_wp2_with fail
        refine (c).mono ?_
        rintro e w62 ⟨rfl,hb62⟩
        have hI62:=hI48.below hb62
        have hK62:=chainK hK48 hb62
        have hk62:=Kp.of_below (b:=r.b) hb62
        replace hbx:=Blk.kp hbx hk62 hbx.lt (by omega)
        replace hkr:=KRow.kp hkr hk62 (by omega)
        clear hb62 hk62
        clear c hq
        obtain⟨c0,c1,c2,c3,c4,_⟩:=hbx.cells
        obtain⟨o0,o1,o2,o3,o4,z0,z1,z2,z3,z4⟩:=Blk.cells (hh1.kp hK62 hn1 hlt)
        go_wp2_with fail
        exact⟨rfl,.agg #[.int .i64 12,.string ⟨#[]⟩,.slice aA lA cA,.slice none 0 0,.int .i64 (atP r.e R:Nat)],by simp [results,Tryz.results124,go_sem, *],rule_end (n:=w.heap.size) HX.out.symm hB1 rfl hn1 hI62 hlt hK62 (TrIn.fromB (hkr.tree 12 [] [] (atP r.e R) (.nil none 0))) _ _ _ _ _⟩
end Go.Proofs.YtahnbigkdfmpbaaGreatDoor
