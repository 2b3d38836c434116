/- Atoms and brackets. -/
import Derived.Deep.RegionWith
import Derived.Test.YtahnbigkdfmpbaaGreatDoorIPB
import Derived.Test.YtahnbigkdfmpbaaGreatDoorIPRow
set_option linter.unusedVariables false
set_option linter.unusedSimpArgs false
namespace Go.Proofs.YtahnbigkdfmpbaaGreatDoor
open Go.RowKit
set_option maxRecDepth 100000 in
set_option maxHeartbeats 4000000 in
theorem atom_step (r:Rdr) (hwf:r.wf) (f:Nat) (ihb:∀ (l:Nat) (R:Ts) (w:World),l≤200→r.In w R→sees [91] R=true→NF (boxP r.e f l R)→Calls Tryz.prog 86 #[r.ptr,.int .i64 (l:Nat)] w (Out r w (TrV w.heap.size) (boxP r.e f l R))) (ihk:RuleD r 87 (brackP r.e f)):RuleD r 62 (atomP r.e (f+1)):=by
 intro l R w hl hR hNF
 obtain⟨X,hX⟩:∃ X,atomP r.e (f+1) l R=X:=⟨_,rfl⟩
 rw [hX] at hNF ⊢
 rw [atomP_s] at hX
 have HX:Hid (_=X):=hX
 clear hX
 have hlt:=hR.lt.2
 obtain⟨w1,hw1⟩:∃ w1,w1=w.alloc (.cells #[.int .i64 0,.string ⟨#[]⟩,.slice none 0 0,.slice none 0 0,.int .i64 0] 26):=⟨_,rfl⟩
 have hB1:Below w.heap.size w w1:=by rw [hw1];exact below_alloc _ _
 have hh1:Hole w1 w.heap.size:=by rw [hw1];exact hole_new w
 have hn1:w.heap.size<w1.heap.size:=by rw [hw1];simp
 have hI1:=hR.below hB1
 have hK1:=Kp.refl r.b w1
 have Hw1:Hid (_=_):=hw1
 clear hw1
 go_enter Tryz.func62,Tryz.ntmps62
 go_wp2_with fail
 rw [← Hw1.out]
 clear Hw1
 cases hq:isN (R) with
 | true =>
  have c:=seesName_any r w1 (R) hI1 hwf
  rw [hq] at c
  rw [if_pos hq] at HX
  go_wp2_with fail
  refine (c).mono ?_
  rintro e w2 ⟨rfl,hb2⟩
  have hI2:=hI1.below hb2
  have hK2:=chainK hK1 hb2
  have hk2:=Kp.of_below (b:=r.b) hb2
  clear hb2 hk2
  have hqn:=hq
  clear c hq
  go_wp2_with fail
  refine (at_any r w2 (R) hI2 hwf).mono ?_
  rintro e w3 ⟨rfl,hb3⟩
  have hI3:=hI2.below hb3
  have hK3:=chainK hK2 hb3
  have hk3:=Kp.of_below (b:=r.b) hb3
  clear hb3 hk3
  have c:=name_any r w3 (R) hI3 hwf
  rw [nameP_t hqn] at c
  go_wp2_with fail
  refine c.mono ?_
  rintro e w4 ⟨v4,rfl,rfl,hI4,hk4⟩
  have hK4:=hK3.trans hk4
  clear c
  obtain⟨o0,o1,o2,o3,o4,z0,z1,z2,z3,z4⟩:=Blk.cells (hh1.kp hK4 hn1 hlt)
  go_wp2_with fail
  exact⟨rfl,.agg #[.int .i64 1,.string (bs (txt R)),.slice none 0 0,.slice none 0 0,.int .i64 (atP r.e R:Nat)],by simp [results,Tryz.results62,go_sem, *],rule_end (n:=w.heap.size) HX.out.symm hB1 rfl hn1 hI4 hlt hK4 (.leaf 1 (txt R) [] (atP r.e R) none 0 _ (.nil none 0)) _ _ _ _ _⟩
 | false =>
  have c:=seesName_any r w1 (R) hI1 hwf
  rw [hq] at c
  rw [if_neg (neT hq)] at HX
  go_wp2_with fail
  refine (c).mono ?_
  rintro e w5 ⟨rfl,hb5⟩
  have hI5:=hI1.below hb5
  have hK5:=chainK hK1 hb5
  have hk5:=Kp.of_below (b:=r.b) hb5
  clear hb5 hk5
  have hqn:=hq
  clear c hq
  cases hq:sees [91] (R) with
  | true =>
   have c:=sees_any [91] r w5 (R) hI5 hwf
   rw [hq] at c
   rw [if_pos hq] at HX
   go_wp2_with fail
   refine (c).mono ?_
   rintro e w6 ⟨rfl,hb6⟩
   have hI6:=hI5.below hb6
   have hK6:=chainK hK5 hb6
   have hk6:=Kp.of_below (b:=r.b) hb6
   clear hb6 hk6
   have hqn:=hq
   clear c hq
   have c:=ihb l R w6 hl hI6 hqn (by have h:=hNF;rw [← HX.out] at h;exact h)
   cases hq:boxP r.e f l R using Rs.cs with
   | bad p y =>
    rw [hq] at c HX
    go_wp2_with fail
    refine c.mono ?_
    rintro e w7 ⟨rfl,hb⟩
    exact⟨rfl,rule_bad HX.out.symm hB1 hK6 hlt hb⟩
   | ok t7 R7 =>
    rw [hq] at c HX
    go_wp2_with fail
    refine c.mono ?_
    rintro e w7 ⟨v7,rfl,ht7,hI7,hk7⟩
    have hK7:=hK6.trans hk7
    clear c hq
    replace ht7:=TrIn.from ht7 hK6.size
    obtain⟨vk7,vn7,rfl,hf7,ka7,kc7,rfl⟩:=TrIn.form ht7
    obtain⟨na7,nc7,rfl⟩:=hf7.form
    clear hf7
    obtain⟨o0,o1,o2,o3,o4,z0,z1,z2,z3,z4⟩:=Blk.cells (hh1.kp hK7 hn1 hlt)
    go_wp2_with fail
    exact⟨rfl,.agg #[.int .i64 (t7.kind:Nat),.string (bs t7.name),.slice ka7 t7.kids.length kc7,.slice na7 t7.names.length nc7,.int .i64 (t7.at_:Nat)],by simp [results,Tryz.results62,go_sem, *],rule_end (n:=w.heap.size) HX.out.symm hB1 rfl hn1 hI7 hlt hK7 (ht7) _ _ _ _ _⟩
  | false =>
   have c:=sees_any [91] r w5 (R) hI5 hwf
   rw [hq] at c
   rw [if_neg (neT hq)] at HX
   go_wp2_with fail
   refine (c).mono ?_
   rintro e w8 ⟨rfl,hb8⟩
   have hI8:=hI5.below hb8
   have hK8:=chainK hK5 hb8
   have hk8:=Kp.of_below (b:=r.b) hb8
   clear hb8 hk8
   have hqn:=hq
   clear c hq
   have c:=ihk l R w8 hl hI8 (by have h:=hNF;rw [← HX.out] at h;exact h)
   cases hq:brackP r.e f l R using Rs.cs with
   | bad p y =>
    rw [hq] at c HX
    go_wp2_with fail
    refine c.mono ?_
    rintro e w9 ⟨rfl,hb⟩
    exact⟨rfl,rule_bad HX.out.symm hB1 hK8 hlt hb⟩
   | ok t9 R9 =>
    rw [hq] at c HX
    go_wp2_with fail
    refine c.mono ?_
    rintro e w9 ⟨v9,rfl,ht9,hI9,hk9⟩
    have hK9:=hK8.trans hk9
    clear c hq
    replace ht9:=TrIn.from ht9 hK8.size
    obtain⟨vk9,vn9,rfl,hf9,ka9,kc9,rfl⟩:=TrIn.form ht9
    obtain⟨na9,nc9,rfl⟩:=hf9.form
    clear hf9
    obtain⟨o0,o1,o2,o3,o4,z0,z1,z2,z3,z4⟩:=Blk.cells (hh1.kp hK9 hn1 hlt)
    go_wp2_with fail
    exact⟨rfl,.agg #[.int .i64 (t9.kind:Nat),.string (bs t9.name),.slice ka9 t9.kids.length kc9,.slice na9 t9.names.length nc9,.int .i64 (t9.at_:Nat)],by simp [results,Tryz.results62,go_sem, *],rule_end (n:=w.heap.size) HX.out.symm hB1 rfl hn1 hI9 hlt hK9 (ht9) _ _ _ _ _⟩
set_option maxRecDepth 100000 in
set_option maxHeartbeats 4000000 in
theorem brack_step (r:Rdr) (hwf:r.wf) (f:Nat) (iht:RuleC r 18 (termP r.e f)):RuleD r 87 (brackP r.e (f+1)):=by
 intro l R w hl hR hNF
 obtain⟨X,hX⟩:∃ X,brackP r.e (f+1) l R=X:=⟨_,rfl⟩
 rw [hX] at hNF ⊢
 rw [brackP_s] at hX
 have HX:Hid (_=X):=hX
 clear hX
 have hlt:=hR.lt.2
 obtain⟨w1,hw1⟩:∃ w1,w1=w.alloc (.cells #[.int .i64 0,.string ⟨#[]⟩,.slice none 0 0,.slice none 0 0,.int .i64 0] 26):=⟨_,rfl⟩
 have hB1:Below w.heap.size w w1:=by rw [hw1];exact below_alloc _ _
 have hh1:Hole w1 w.heap.size:=by rw [hw1];exact hole_new w
 have hn1:w.heap.size<w1.heap.size:=by rw [hw1];simp
 have hI1:=hR.below hB1
 have hK1:=Kp.refl r.b w1
 have Hw1:Hid (_=_):=hw1
 clear hw1
 go_enter Tryz.func87,Tryz.ntmps87
 go_wp2_with fail
 rw [← Hw1.out]
 clear Hw1
 have g1:IntKind.i64.wrap ((l:Int) + 1)=(l:Int) + 1:=wrap_in (by omega) (by omega)
 go_wp2_with fail
 refine (at_any r w1 (R) hI1 hwf).mono ?_
 rintro e w2 ⟨rfl,hb2⟩
 have hI2:=hI1.below hb2
 have hK2:=chainK hK1 hb2
 have hk2:=Kp.of_below (b:=r.b) hb2
 clear hb2 hk2
 have c:=must_any [40] (by simp) r w2 (R) hI2 hwf
 cases hq:mustP r.e [40] (R) using Rs.cs with
 | bad p y =>
  rw [hq] at c HX
  go_wp2_with fail
  refine c.mono ?_
  rintro e w3 ⟨rfl,hb⟩
  exact⟨rfl,rule_bad HX.out.symm hB1 hK2 hlt hb⟩
 | ok t3 R3 =>
  rw [hq] at c HX
  rw [bnd_ok] at HX
  go_wp2_with fail
  refine c.mono ?_
  rintro e w3 ⟨v3,rfl,rfl,hI3,hk3⟩
  have hK3:=hK2.trans hk3
  clear c hq
  have hN4:NF (termP r.e f (l+1) (R3)):=NF.left (by have h:=hNF;rw [← HX.out] at h;exact h)
  have c:=iht (l+1) (R3) w3 (by omega) hI3 hN4
  rw [castS] at c
  cases hq:termP r.e f (l+1) (R3) using Rs.cs with
  | bad p y =>
   rw [hq] at c HX
   go_wp2_with fail
   refine c.mono ?_
   rintro e w4 ⟨rfl,hb⟩
   exact⟨rfl,rule_bad HX.out.symm hB1 hK3 hlt hb⟩
  | ok t4 R4 =>
   rw [hq] at c HX
   rw [bnd_ok] at HX
   go_wp2_with fail
   refine c.mono ?_
   rintro e w4 ⟨v4,rfl,ht4,hI4,hk4⟩
   have hK4:=hK3.trans hk4
   clear c hq
   replace ht4:=TrIn.from ht4 hK3.size
   obtain⟨vk4,vn4,rfl,hf4,ka4,kc4,rfl⟩:=TrIn.form ht4
   obtain⟨na4,nc4,rfl⟩:=hf4.form
   clear hf4
   go_wp2_with fail
   have hal:=below_alloc w4 (.cells #[.int .i64 (t4.kind:Nat),.string (bs t4.name),.slice ka4 t4.kids.length kc4,.slice na4 t4.names.length nc4,.int .i64 (t4.at_:Nat)] 26)
   have hbx:=blk_new w4 (.int .i64 (t4.kind:Nat)) (.string (bs t4.name)) (.slice ka4 t4.kids.length kc4) (.slice na4 t4.names.length nc4) (.int .i64 (t4.at_:Nat))
   have hxge:=hK4.size
   obtain⟨w5,hw⟩:∃ w0,w0=w4.alloc (.cells #[.int .i64 (t4.kind:Nat),.string (bs t4.name),.slice ka4 t4.kids.length kc4,.slice na4 t4.names.length nc4,.int .i64 (t4.at_:Nat)] 26):=⟨_,rfl⟩
   rw [← hw] at hal hbx ⊢
   clear hw
   have hI5:=hI4.below hal
   have hK5:=chainK hK4 hal
   replace ht4:=TrIn.ahead ht4 (Nat.le_refl _) hal
   clear hal
   obtain⟨x,hx⟩:∃ x,x=w4.heap.size:=⟨_,rfl⟩
   rw [← hx] at ht4 hbx hxge ⊢
   clear hx
   cases hq:sees [44] (R4) with
   | true =>
    have c:=take_any [44] (by simp) r w5 (R4) hI5 hwf
    rw [hq] at c
    simp only [if_true,Bool.false_eq_true,if_false] at c
    rw [if_pos hq] at HX
    go_wp2_with fail
    refine c.mono ?_
    rintro e w6 ⟨rfl,hI6,hk6⟩
    have hK6:=hK5.trans hk6
    clear c hq
    replace ht4:=TrIn.kpB ht4 hk6 (by omega)
    replace hbx:=Blk.kp hbx hk6 hbx.lt (by omega)
    go_wp2_with fail
    obtain⟨w7,hw7⟩:∃ w0,w0=w6.drew:=⟨_,rfl⟩
    have hB7:Below w6.heap.size w6 w7:=by rw [hw7];exact Below.drew (Below.refl _ _)
    have hI7:=hI6.below hB7
    have hK7:=chainK hK6 hB7
    have hk7:=Kp.of_below (b:=r.b) hB7
    refine wp_region_any (by kernel_rfl) ?_
    change wpAny _ _ _ _ _ _ _ (World.drew _)
    rw [← hw7]
    clear hw7
    replace ht4:=TrIn.kpB ht4 hk7 (by omega)
    replace hbx:=Blk.kp hbx hk7 hbx.lt (by omega)
    clear hB7 hk7
    refine wpAny_take (i:=1) (v:=r.ptr) rfl (by kernel_rfl) (by kernel_rfl) (by kernel_rfl) (fun _ _ _ h=>h) (Or.inl ⟨by rfl,fun w=>by go_simp⟩) ?_
    simp only [Act.put,List.setIfInBounds_toArray,List.set_cons_zero,List.set_cons_succ]
    refine wpAny_take (i:=2) (v:=.int .i64 (l:Nat)) rfl (by kernel_rfl) (by kernel_rfl) (by kernel_rfl) (fun _ _ _ h=>h) (Or.inl ⟨by rfl,fun w=>by go_simp⟩) ?_
    simp only [Act.put,List.setIfInBounds_toArray,List.set_cons_zero,List.set_cons_succ]
    refine wpAny_take (i:=3) (v:=.int .i64 ((l:Int) + 1)) rfl (by kernel_rfl) (by kernel_rfl) (by kernel_rfl) (fun _ _ _ h=>h) (Or.inl ⟨by rfl,fun w=>by go_simp⟩) ?_
    simp only [Act.put,List.setIfInBounds_toArray,List.set_cons_zero,List.set_cons_succ]
    refine wpAny_take (i:=6) (v:=.int .i64 (atP r.e R:Nat)) rfl (by kernel_rfl) (by kernel_rfl) (by kernel_rfl) (fun _ _ _ h=>h) (Or.inl ⟨by rfl,fun w=>by go_simp⟩) ?_
    simp only [Act.put,List.setIfInBounds_toArray,List.set_cons_zero,List.set_cons_succ]
    refine wpAny_ready (rs:=[0,4]) (by kernel_rfl) (by simp) ?_
    refine AllReady.cons rfl (fun KK hKK=>?_) (AllReady.cons rfl (fun KK hKK=>?_) AllReady.nil)
    ·skip
     obtain⟨c0,c1,c2,c3,c4,_⟩:=hbx.cells
     go_simp
     clear c0 c1 c2 c3 c4
     refine hKK _ _ ?_
     clear hKK KK
     refine wpAny_ready (rs:=[4]) (by kernel_rfl) (by simp) ?_
     refine AllReady.cons rfl (fun KK hKK=>?_) AllReady.nil
     go_simp
     have hN8:NF (termP r.e f (l+1) ((R4).tail)):=NF.left (by have h:=hNF;rw [← HX.out] at h;exact h)
     have c:=iht (l+1) ((R4).tail) w7 (by omega) hI7 hN8
     rw [castS] at c
     have hxl8:=hbx.lt
     cases hq:termP r.e f (l+1) ((R4).tail) using Rs.cs with
     | bad p y =>
      rw [hq] at c HX
      refine c.mono ?_
      rintro e w8 ⟨rfl,hb⟩
      exact⟨rfl,rule_bad HX.out.symm hB1 hK7 hlt hb⟩
     | ok t8 R8 =>
      rw [hq] at c HX
      rw [bnd_ok] at HX
      refine c.mono ?_
      rintro e w8 ⟨v8,rfl,ht8,hI8,hk8⟩
      have hK8:=hK7.trans hk8
      clear c hq
      replace ht4:=TrIn.kpB ht4 hk8 (by omega)
      replace hbx:=Blk.kp hbx hk8 hbx.lt (by omega)
      have hz8:=ht8
      replace ht8:=TrIn.toB ht8 hK7.size (by omega)
      obtain⟨vk8,vn8,rfl,hf8,ka8,kc8,rfl⟩:=TrIn.form ht8
      obtain⟨na8,nc8,rfl⟩:=hf8.form
      clear hf8
      refine hKK _ _ ?_
      clear hKK KK
      refine wpAny_ready (rs:=[5]) (by kernel_rfl) (by simp) ?_
      refine AllReady.cons rfl (fun KK hKK=>?_) AllReady.nil
      have hxj:=hbx.lt
      go_simp
      have hal:=below_alloc w8 (.cells #[.int .i64 (t4.kind:Nat),.string (bs t4.name),.slice ka4 t4.kids.length kc4,.slice na4 t4.names.length nc4,.int .i64 (t4.at_:Nat),.int .i64 (t8.kind:Nat),.string (bs t8.name),.slice ka8 t8.kids.length kc8,.slice na8 t8.names.length nc8,.int .i64 (t8.at_:Nat)] 26)
      have hkl:=Kp.of_below (b:=r.b) hal
      obtain⟨w9,hw9⟩:∃ w0,w0=w8.alloc (.cells #[.int .i64 (t4.kind:Nat),.string (bs t4.name),.slice ka4 t4.kids.length kc4,.slice na4 t4.names.length nc4,.int .i64 (t4.at_:Nat),.int .i64 (t8.kind:Nat),.string (bs t8.name),.slice ka8 t8.kids.length kc8,.slice na8 t8.names.length nc8,.int .i64 (t8.at_:Nat)] 26):=⟨_,rfl⟩
      rw [← hw9] at hal hkl ⊢
      have hI9:=hI8.below hal
      have hK9:=chainK hK8 hal
      have Hw9:Hid (_=_):=hw9
      clear hw9
      replace ht4:=TrIn.kpB ht4 hkl (by omega)
      replace hbx:=Blk.kp hbx hkl hbx.lt (by omega)
      replace ht8:=TrIn.kpB ht8 hkl (by omega)
      have hT:TrIn (But w1.heap.size x) w9 (.mk 8 [] [t4,t8] [] (atP r.e R)) (.agg #[.int .i64 8,.string ⟨#[]⟩,.slice (some ⟨w8.heap.size,0,none⟩) 2 2,.slice none 0 0,.int .i64 (atP r.e R:Nat)]):=TrIn.pair 8 [] [] (atP r.e R) ht4 ht8 (.nil none 0) ⟨hK8.size,by omega⟩ (by rw [Hw9.out];simp) (fun j y hj=>by rw [Hw9.out];exact new_cell _ _ _ _ j y rfl hj)
      refine hKK _ _ ?_
      clear hKK KK
      clear ht4 ht8 Hw9 hal hkl
      refine wpAny_ready (rs:=[7]) (by kernel_rfl) (by simp) ?_
      refine AllReady.cons rfl (fun KK hKK=>?_) AllReady.nil
      go_simp
      refine hKK _ _ ?_
      clear hKK KK
      refine wpAny_ready (rs:=[8]) (by kernel_rfl) (by simp) ?_
      refine AllReady.cons rfl (fun KK hKK=>?_) AllReady.nil
      obtain⟨c0,c1,c2,c3,c4,f0,f1,f2,f3,f4⟩:=hbx.cells
      go_simp
      clear c0 c1 c2 c3 c4 f0 f1 f2 f3 f4
      obtain⟨w10,hw⟩:∃ w0,w0=((((w9.setCell ⟨x,0,none⟩ (.int .i64 8)).setCell ⟨x,1,none⟩ (.string ⟨#[]⟩)).setCell ⟨x,2,none⟩ (.slice (some ⟨w8.heap.size,0,none⟩) 2 2)).setCell ⟨x,3,none⟩ (.slice none 0 0)).setCell ⟨x,4,none⟩ (.int .i64 (atP r.e R:Nat)):=⟨_,rfl⟩
      rw [← hw]
      have hI10:r.In w10 (R8):=by rw [hw];exact hI9.put5 (by omega) _ _ _ _ _
      have hK10:Kp r.b w1 w10:=by rw [hw];exact hK9.put5 hxge _ _ _ _ _
      have hbx2:Blk w10 x (.int .i64 8) (.string ⟨#[]⟩) (.slice (some ⟨w8.heap.size,0,none⟩) 2 2) (.slice none 0 0) (.int .i64 (atP r.e R:Nat)):=by rw [hw];exact blk_put w9 x _ _ _ _ _ _ _ _ _ _ hbx
      clear hbx
      have hbx:=hbx2
      clear hbx2
      replace hT:=TrIn.putE hT hw
      clear hw
      refine hKK _ _ ?_
      clear hKK KK
      refine wpAny_done (by kernel_rfl) ?_ _
      have c:=must_any [41] (by simp) r w10 (R8) hI10 hwf
      have hxl11:=hbx.lt
      cases hq:mustP r.e [41] (R8) using Rs.cs with
      | bad p y =>
       rw [hq] at c HX
       go_wp2_with fail
       refine c.mono ?_
       rintro e w11 ⟨rfl,hb⟩
       exact⟨rfl,rule_bad HX.out.symm hB1 hK10 hlt hb⟩
      | ok t11 R11 =>
       rw [hq] at c HX
       rw [bnd_ok] at HX
       go_wp2_with fail
       refine c.mono ?_
       rintro e w11 ⟨v11,rfl,rfl,hI11,hk11⟩
       have hK11:=hK10.trans hk11
       clear c hq
       replace hbx:=Blk.kp hbx hk11 hbx.lt (by omega)
       replace hT:=TrIn.kpB hT hk11 (by omega)
       obtain⟨c0,c1,c2,c3,c4,_⟩:=hbx.cells
       obtain⟨o0,o1,o2,o3,o4,z0,z1,z2,z3,z4⟩:=Blk.cells (hh1.kp hK11 hn1 hlt)
       go_wp2_with fail
       exact⟨rfl,.agg #[.int .i64 8,.string ⟨#[]⟩,.slice (some ⟨w8.heap.size,0,none⟩) 2 2,.slice none 0 0,.int .i64 (atP r.e R:Nat)],by simp [results,Tryz.results87,go_sem, *],rule_end (n:=w.heap.size) HX.out.symm hB1 rfl hn1 hI11 hlt hK11 (TrIn.fromB hT) _ _ _ _ _⟩
    ·skip
     go_simp
     have hN12:NF (termP r.e f (l+1) ((R4).tail)):=NF.left (by have h:=hNF;rw [← HX.out] at h;exact h)
     have c:=iht (l+1) ((R4).tail) w7 (by omega) hI7 hN12
     rw [castS] at c
     have hxl12:=hbx.lt
     cases hq:termP r.e f (l+1) ((R4).tail) using Rs.cs with
     | bad p y =>
      rw [hq] at c HX
      refine c.mono ?_
      rintro e w12 ⟨rfl,hb⟩
      exact⟨rfl,rule_bad HX.out.symm hB1 hK7 hlt hb⟩
     | ok t12 R12 =>
      rw [hq] at c HX
      rw [bnd_ok] at HX
      refine c.mono ?_
      rintro e w12 ⟨v12,rfl,ht12,hI12,hk12⟩
      have hK12:=hK7.trans hk12
      clear c hq
      replace ht4:=TrIn.kpB ht4 hk12 (by omega)
      replace hbx:=Blk.kp hbx hk12 hbx.lt (by omega)
      have hz12:=ht12
      replace ht12:=TrIn.toB ht12 hK7.size (by omega)
      obtain⟨vk12,vn12,rfl,hf12,ka12,kc12,rfl⟩:=TrIn.form ht12
      obtain⟨na12,nc12,rfl⟩:=hf12.form
      clear hf12
      refine hKK _ _ ?_
      clear hKK KK
      refine wpAny_ready (rs:=[0]) (by kernel_rfl) (by simp) ?_
      refine AllReady.cons rfl (fun KK hKK=>?_) AllReady.nil
      obtain⟨c0,c1,c2,c3,c4,_⟩:=hbx.cells
      go_simp
      clear c0 c1 c2 c3 c4
      refine hKK _ _ ?_
      clear hKK KK
      refine wpAny_ready (rs:=[5]) (by kernel_rfl) (by simp) ?_
      refine AllReady.cons rfl (fun KK hKK=>?_) AllReady.nil
      have hxj:=hbx.lt
      go_simp
      have hal:=below_alloc w12 (.cells #[.int .i64 (t4.kind:Nat),.string (bs t4.name),.slice ka4 t4.kids.length kc4,.slice na4 t4.names.length nc4,.int .i64 (t4.at_:Nat),.int .i64 (t12.kind:Nat),.string (bs t12.name),.slice ka12 t12.kids.length kc12,.slice na12 t12.names.length nc12,.int .i64 (t12.at_:Nat)] 26)
      have hkl:=Kp.of_below (b:=r.b) hal
      obtain⟨w13,hw13⟩:∃ w0,w0=w12.alloc (.cells #[.int .i64 (t4.kind:Nat),.string (bs t4.name),.slice ka4 t4.kids.length kc4,.slice na4 t4.names.length nc4,.int .i64 (t4.at_:Nat),.int .i64 (t12.kind:Nat),.string (bs t12.name),.slice ka12 t12.kids.length kc12,.slice na12 t12.names.length nc12,.int .i64 (t12.at_:Nat)] 26):=⟨_,rfl⟩
      rw [← hw13] at hal hkl ⊢
      have hI13:=hI12.below hal
      have hK13:=chainK hK12 hal
      have Hw13:Hid (_=_):=hw13
      clear hw13
      replace ht4:=TrIn.kpB ht4 hkl (by omega)
      replace hbx:=Blk.kp hbx hkl hbx.lt (by omega)
      replace ht12:=TrIn.kpB ht12 hkl (by omega)
      have hT:TrIn (But w1.heap.size x) w13 (.mk 8 [] [t4,t12] [] (atP r.e R)) (.agg #[.int .i64 8,.string ⟨#[]⟩,.slice (some ⟨w12.heap.size,0,none⟩) 2 2,.slice none 0 0,.int .i64 (atP r.e R:Nat)]):=TrIn.pair 8 [] [] (atP r.e R) ht4 ht12 (.nil none 0) ⟨hK12.size,by omega⟩ (by rw [Hw13.out];simp) (fun j y hj=>by rw [Hw13.out];exact new_cell _ _ _ _ j y rfl hj)
      refine hKK _ _ ?_
      clear hKK KK
      clear ht4 ht12 Hw13 hal hkl
      refine wpAny_ready (rs:=[7]) (by kernel_rfl) (by simp) ?_
      refine AllReady.cons rfl (fun KK hKK=>?_) AllReady.nil
      go_simp
      refine hKK _ _ ?_
      clear hKK KK
      refine wpAny_ready (rs:=[8]) (by kernel_rfl) (by simp) ?_
      refine AllReady.cons rfl (fun KK hKK=>?_) AllReady.nil
      obtain⟨c0,c1,c2,c3,c4,f0,f1,f2,f3,f4⟩:=hbx.cells
      go_simp
      clear c0 c1 c2 c3 c4 f0 f1 f2 f3 f4
      obtain⟨w14,hw⟩:∃ w0,w0=((((w13.setCell ⟨x,0,none⟩ (.int .i64 8)).setCell ⟨x,1,none⟩ (.string ⟨#[]⟩)).setCell ⟨x,2,none⟩ (.slice (some ⟨w12.heap.size,0,none⟩) 2 2)).setCell ⟨x,3,none⟩ (.slice none 0 0)).setCell ⟨x,4,none⟩ (.int .i64 (atP r.e R:Nat)):=⟨_,rfl⟩
      rw [← hw]
      have hI14:r.In w14 (R12):=by rw [hw];exact hI13.put5 (by omega) _ _ _ _ _
      have hK14:Kp r.b w1 w14:=by rw [hw];exact hK13.put5 hxge _ _ _ _ _
      have hbx2:Blk w14 x (.int .i64 8) (.string ⟨#[]⟩) (.slice (some ⟨w12.heap.size,0,none⟩) 2 2) (.slice none 0 0) (.int .i64 (atP r.e R:Nat)):=by rw [hw];exact blk_put w13 x _ _ _ _ _ _ _ _ _ _ hbx
      clear hbx
      have hbx:=hbx2
      clear hbx2
      replace hT:=TrIn.putE hT hw
      clear hw
      refine hKK _ _ ?_
      clear hKK KK
      refine wpAny_done (by kernel_rfl) ?_ _
      have c:=must_any [41] (by simp) r w14 (R12) hI14 hwf
      have hxl15:=hbx.lt
      cases hq:mustP r.e [41] (R12) using Rs.cs with
      | bad p y =>
       rw [hq] at c HX
       go_wp2_with fail
       refine c.mono ?_
       rintro e w15 ⟨rfl,hb⟩
       exact⟨rfl,rule_bad HX.out.symm hB1 hK14 hlt hb⟩
      | ok t15 R15 =>
       rw [hq] at c HX
       rw [bnd_ok] at HX
       go_wp2_with fail
       refine c.mono ?_
       rintro e w15 ⟨v15,rfl,rfl,hI15,hk15⟩
       have hK15:=hK14.trans hk15
       clear c hq
       replace hbx:=Blk.kp hbx hk15 hbx.lt (by omega)
       replace hT:=TrIn.kpB hT hk15 (by omega)
       obtain⟨c0,c1,c2,c3,c4,_⟩:=hbx.cells
       obtain⟨o0,o1,o2,o3,o4,z0,z1,z2,z3,z4⟩:=Blk.cells (hh1.kp hK15 hn1 hlt)
       go_wp2_with fail
       exact⟨rfl,.agg #[.int .i64 8,.string ⟨#[]⟩,.slice (some ⟨w12.heap.size,0,none⟩) 2 2,.slice none 0 0,.int .i64 (atP r.e R:Nat)],by simp [results,Tryz.results87,go_sem, *],rule_end (n:=w.heap.size) HX.out.symm hB1 rfl hn1 hI15 hlt hK15 (TrIn.fromB hT) _ _ _ _ _⟩
   | false =>
    have c:=take_any [44] (by simp) r w5 (R4) hI5 hwf
    rw [hq] at c
    simp only [if_true,Bool.false_eq_true,if_false] at c
    rw [if_neg (neT hq)] at HX
    go_wp2_with fail
    refine c.mono ?_
    rintro e w16 ⟨rfl,hI16,hk16⟩
    have hK16:=hK5.trans hk16
    clear c hq
    replace ht4:=TrIn.kpB ht4 hk16 (by omega)
    replace hbx:=Blk.kp hbx hk16 hbx.lt (by omega)
    cases hq:sees [58] (R4) with
    | true =>
     have c:=take_any [58] (by simp) r w16 (R4) hI16 hwf
     rw [hq] at c
     simp only [if_true,Bool.false_eq_true,if_false] at c
     rw [if_pos hq] at HX
     go_wp2_with fail
     refine c.mono ?_
     rintro e w17 ⟨rfl,hI17,hk17⟩
     have hK17:=hK16.trans hk17
     clear c hq
     replace ht4:=TrIn.kpB ht4 hk17 (by omega)
     replace hbx:=Blk.kp hbx hk17 hbx.lt (by omega)
     go_wp2_with fail
     obtain⟨w18,hw18⟩:∃ w0,w0=w17.drew:=⟨_,rfl⟩
     have hB18:Below w17.heap.size w17 w18:=by rw [hw18];exact Below.drew (Below.refl _ _)
     have hI18:=hI17.below hB18
     have hK18:=chainK hK17 hB18
     have hk18:=Kp.of_below (b:=r.b) hB18
     refine wp_region_any (by kernel_rfl) ?_
     change wpAny _ _ _ _ _ _ _ (World.drew _)
     rw [← hw18]
     clear hw18
     replace ht4:=TrIn.kpB ht4 hk18 (by omega)
     replace hbx:=Blk.kp hbx hk18 hbx.lt (by omega)
     clear hB18 hk18
     refine wpAny_take (i:=1) (v:=r.ptr) rfl (by kernel_rfl) (by kernel_rfl) (by kernel_rfl) (fun _ _ _ h=>h) (Or.inl ⟨by rfl,fun w=>by go_simp⟩) ?_
     simp only [Act.put,List.setIfInBounds_toArray,List.set_cons_zero,List.set_cons_succ]
     refine wpAny_take (i:=2) (v:=.int .i64 (l:Nat)) rfl (by kernel_rfl) (by kernel_rfl) (by kernel_rfl) (fun _ _ _ h=>h) (Or.inl ⟨by rfl,fun w=>by go_simp⟩) ?_
     simp only [Act.put,List.setIfInBounds_toArray,List.set_cons_zero,List.set_cons_succ]
     refine wpAny_take (i:=3) (v:=.int .i64 ((l:Int) + 1)) rfl (by kernel_rfl) (by kernel_rfl) (by kernel_rfl) (fun _ _ _ h=>h) (Or.inl ⟨by rfl,fun w=>by go_simp⟩) ?_
     simp only [Act.put,List.setIfInBounds_toArray,List.set_cons_zero,List.set_cons_succ]
     refine wpAny_take (i:=6) (v:=.int .i64 (atP r.e R:Nat)) rfl (by kernel_rfl) (by kernel_rfl) (by kernel_rfl) (fun _ _ _ h=>h) (Or.inl ⟨by rfl,fun w=>by go_simp⟩) ?_
     simp only [Act.put,List.setIfInBounds_toArray,List.set_cons_zero,List.set_cons_succ]
     refine wpAny_ready (rs:=[0,4]) (by kernel_rfl) (by simp) ?_
     refine AllReady.cons rfl (fun KK hKK=>?_) (AllReady.cons rfl (fun KK hKK=>?_) AllReady.nil)
     ·skip
      obtain⟨c0,c1,c2,c3,c4,_⟩:=hbx.cells
      go_simp
      clear c0 c1 c2 c3 c4
      refine hKK _ _ ?_
      clear hKK KK
      refine wpAny_ready (rs:=[4]) (by kernel_rfl) (by simp) ?_
      refine AllReady.cons rfl (fun KK hKK=>?_) AllReady.nil
      go_simp
      have hN19:NF (termP r.e f (l+1) ((R4).tail)):=NF.left (by have h:=hNF;rw [← HX.out] at h;exact h)
      have c:=iht (l+1) ((R4).tail) w18 (by omega) hI18 hN19
      rw [castS] at c
      have hxl19:=hbx.lt
      cases hq:termP r.e f (l+1) ((R4).tail) using Rs.cs with
      | bad p y =>
       rw [hq] at c HX
       refine c.mono ?_
       rintro e w19 ⟨rfl,hb⟩
       exact⟨rfl,rule_bad HX.out.symm hB1 hK18 hlt hb⟩
      | ok t19 R19 =>
       rw [hq] at c HX
       rw [bnd_ok] at HX
       refine c.mono ?_
       rintro e w19 ⟨v19,rfl,ht19,hI19,hk19⟩
       have hK19:=hK18.trans hk19
       clear c hq
       replace ht4:=TrIn.kpB ht4 hk19 (by omega)
       replace hbx:=Blk.kp hbx hk19 hbx.lt (by omega)
       have hz19:=ht19
       replace ht19:=TrIn.toB ht19 hK18.size (by omega)
       obtain⟨vk19,vn19,rfl,hf19,ka19,kc19,rfl⟩:=TrIn.form ht19
       obtain⟨na19,nc19,rfl⟩:=hf19.form
       clear hf19
       refine hKK _ _ ?_
       clear hKK KK
       refine wpAny_ready (rs:=[5]) (by kernel_rfl) (by simp) ?_
       refine AllReady.cons rfl (fun KK hKK=>?_) AllReady.nil
       have hxj:=hbx.lt
       go_simp
       have hal:=below_alloc w19 (.cells #[.int .i64 (t4.kind:Nat),.string (bs t4.name),.slice ka4 t4.kids.length kc4,.slice na4 t4.names.length nc4,.int .i64 (t4.at_:Nat),.int .i64 (t19.kind:Nat),.string (bs t19.name),.slice ka19 t19.kids.length kc19,.slice na19 t19.names.length nc19,.int .i64 (t19.at_:Nat)] 26)
       have hkl:=Kp.of_below (b:=r.b) hal
       obtain⟨w20,hw20⟩:∃ w0,w0=w19.alloc (.cells #[.int .i64 (t4.kind:Nat),.string (bs t4.name),.slice ka4 t4.kids.length kc4,.slice na4 t4.names.length nc4,.int .i64 (t4.at_:Nat),.int .i64 (t19.kind:Nat),.string (bs t19.name),.slice ka19 t19.kids.length kc19,.slice na19 t19.names.length nc19,.int .i64 (t19.at_:Nat)] 26):=⟨_,rfl⟩
       rw [← hw20] at hal hkl ⊢
       have hI20:=hI19.below hal
       have hK20:=chainK hK19 hal
       have Hw20:Hid (_=_):=hw20
       clear hw20
       replace ht4:=TrIn.kpB ht4 hkl (by omega)
       replace hbx:=Blk.kp hbx hkl hbx.lt (by omega)
       replace ht19:=TrIn.kpB ht19 hkl (by omega)
       have hT:TrIn (But w1.heap.size x) w20 (.mk 9 [] [t4,t19] [] (atP r.e R)) (.agg #[.int .i64 9,.string ⟨#[]⟩,.slice (some ⟨w19.heap.size,0,none⟩) 2 2,.slice none 0 0,.int .i64 (atP r.e R:Nat)]):=TrIn.pair 9 [] [] (atP r.e R) ht4 ht19 (.nil none 0) ⟨hK19.size,by omega⟩ (by rw [Hw20.out];simp) (fun j y hj=>by rw [Hw20.out];exact new_cell _ _ _ _ j y rfl hj)
       refine hKK _ _ ?_
       clear hKK KK
       clear ht4 ht19 Hw20 hal hkl
       refine wpAny_ready (rs:=[7]) (by kernel_rfl) (by simp) ?_
       refine AllReady.cons rfl (fun KK hKK=>?_) AllReady.nil
       go_simp
       refine hKK _ _ ?_
       clear hKK KK
       refine wpAny_ready (rs:=[8]) (by kernel_rfl) (by simp) ?_
       refine AllReady.cons rfl (fun KK hKK=>?_) AllReady.nil
       obtain⟨c0,c1,c2,c3,c4,f0,f1,f2,f3,f4⟩:=hbx.cells
       go_simp
       clear c0 c1 c2 c3 c4 f0 f1 f2 f3 f4
       obtain⟨w21,hw⟩:∃ w0,w0=((((w20.setCell ⟨x,0,none⟩ (.int .i64 9)).setCell ⟨x,1,none⟩ (.string ⟨#[]⟩)).setCell ⟨x,2,none⟩ (.slice (some ⟨w19.heap.size,0,none⟩) 2 2)).setCell ⟨x,3,none⟩ (.slice none 0 0)).setCell ⟨x,4,none⟩ (.int .i64 (atP r.e R:Nat)):=⟨_,rfl⟩
       rw [← hw]
       have hI21:r.In w21 (R19):=by rw [hw];exact hI20.put5 (by omega) _ _ _ _ _
       have hK21:Kp r.b w1 w21:=by rw [hw];exact hK20.put5 hxge _ _ _ _ _
       have hbx2:Blk w21 x (.int .i64 9) (.string ⟨#[]⟩) (.slice (some ⟨w19.heap.size,0,none⟩) 2 2) (.slice none 0 0) (.int .i64 (atP r.e R:Nat)):=by rw [hw];exact blk_put w20 x _ _ _ _ _ _ _ _ _ _ hbx
       clear hbx
       have hbx:=hbx2
       clear hbx2
       replace hT:=TrIn.putE hT hw
       clear hw
       refine hKK _ _ ?_
       clear hKK KK
       refine wpAny_done (by kernel_rfl) ?_ _
       have c:=must_any [41] (by simp) r w21 (R19) hI21 hwf
       have hxl22:=hbx.lt
       cases hq:mustP r.e [41] (R19) using Rs.cs with
       | bad p y =>
        rw [hq] at c HX
        go_wp2_with fail
        refine c.mono ?_
        rintro e w22 ⟨rfl,hb⟩
        exact⟨rfl,rule_bad HX.out.symm hB1 hK21 hlt hb⟩
       | ok t22 R22 =>
        rw [hq] at c HX
        rw [bnd_ok] at HX
        go_wp2_with fail
        refine c.mono ?_
        rintro e w22 ⟨v22,rfl,rfl,hI22,hk22⟩
        have hK22:=hK21.trans hk22
        clear c hq
        replace hbx:=Blk.kp hbx hk22 hbx.lt (by omega)
        replace hT:=TrIn.kpB hT hk22 (by omega)
        obtain⟨c0,c1,c2,c3,c4,_⟩:=hbx.cells
        obtain⟨o0,o1,o2,o3,o4,z0,z1,z2,z3,z4⟩:=Blk.cells (hh1.kp hK22 hn1 hlt)
        go_wp2_with fail
        exact⟨rfl,.agg #[.int .i64 9,.string ⟨#[]⟩,.slice (some ⟨w19.heap.size,0,none⟩) 2 2,.slice none 0 0,.int .i64 (atP r.e R:Nat)],by simp [results,Tryz.results87,go_sem, *],rule_end (n:=w.heap.size) HX.out.symm hB1 rfl hn1 hI22 hlt hK22 (TrIn.fromB hT) _ _ _ _ _⟩
     ·skip
      go_simp
      have hN23:NF (termP r.e f (l+1) ((R4).tail)):=NF.left (by have h:=hNF;rw [← HX.out] at h;exact h)
      have c:=iht (l+1) ((R4).tail) w18 (by omega) hI18 hN23
      rw [castS] at c
      have hxl23:=hbx.lt
      cases hq:termP r.e f (l+1) ((R4).tail) using Rs.cs with
      | bad p y =>
       rw [hq] at c HX
       refine c.mono ?_
       rintro e w23 ⟨rfl,hb⟩
       exact⟨rfl,rule_bad HX.out.symm hB1 hK18 hlt hb⟩
      | ok t23 R23 =>
       rw [hq] at c HX
       rw [bnd_ok] at HX
       refine c.mono ?_
       rintro e w23 ⟨v23,rfl,ht23,hI23,hk23⟩
       have hK23:=hK18.trans hk23
       clear c hq
       replace ht4:=TrIn.kpB ht4 hk23 (by omega)
       replace hbx:=Blk.kp hbx hk23 hbx.lt (by omega)
       have hz23:=ht23
       replace ht23:=TrIn.toB ht23 hK18.size (by omega)
       obtain⟨vk23,vn23,rfl,hf23,ka23,kc23,rfl⟩:=TrIn.form ht23
       obtain⟨na23,nc23,rfl⟩:=hf23.form
       clear hf23
       refine hKK _ _ ?_
       clear hKK KK
       refine wpAny_ready (rs:=[0]) (by kernel_rfl) (by simp) ?_
       refine AllReady.cons rfl (fun KK hKK=>?_) AllReady.nil
       obtain⟨c0,c1,c2,c3,c4,_⟩:=hbx.cells
       go_simp
       clear c0 c1 c2 c3 c4
       refine hKK _ _ ?_
       clear hKK KK
       refine wpAny_ready (rs:=[5]) (by kernel_rfl) (by simp) ?_
       refine AllReady.cons rfl (fun KK hKK=>?_) AllReady.nil
       have hxj:=hbx.lt
       go_simp
       have hal:=below_alloc w23 (.cells #[.int .i64 (t4.kind:Nat),.string (bs t4.name),.slice ka4 t4.kids.length kc4,.slice na4 t4.names.length nc4,.int .i64 (t4.at_:Nat),.int .i64 (t23.kind:Nat),.string (bs t23.name),.slice ka23 t23.kids.length kc23,.slice na23 t23.names.length nc23,.int .i64 (t23.at_:Nat)] 26)
       have hkl:=Kp.of_below (b:=r.b) hal
       obtain⟨w24,hw24⟩:∃ w0,w0=w23.alloc (.cells #[.int .i64 (t4.kind:Nat),.string (bs t4.name),.slice ka4 t4.kids.length kc4,.slice na4 t4.names.length nc4,.int .i64 (t4.at_:Nat),.int .i64 (t23.kind:Nat),.string (bs t23.name),.slice ka23 t23.kids.length kc23,.slice na23 t23.names.length nc23,.int .i64 (t23.at_:Nat)] 26):=⟨_,rfl⟩
       rw [← hw24] at hal hkl ⊢
       have hI24:=hI23.below hal
       have hK24:=chainK hK23 hal
       have Hw24:Hid (_=_):=hw24
       clear hw24
       replace ht4:=TrIn.kpB ht4 hkl (by omega)
       replace hbx:=Blk.kp hbx hkl hbx.lt (by omega)
       replace ht23:=TrIn.kpB ht23 hkl (by omega)
       have hT:TrIn (But w1.heap.size x) w24 (.mk 9 [] [t4,t23] [] (atP r.e R)) (.agg #[.int .i64 9,.string ⟨#[]⟩,.slice (some ⟨w23.heap.size,0,none⟩) 2 2,.slice none 0 0,.int .i64 (atP r.e R:Nat)]):=TrIn.pair 9 [] [] (atP r.e R) ht4 ht23 (.nil none 0) ⟨hK23.size,by omega⟩ (by rw [Hw24.out];simp) (fun j y hj=>by rw [Hw24.out];exact new_cell _ _ _ _ j y rfl hj)
       refine hKK _ _ ?_
       clear hKK KK
       clear ht4 ht23 Hw24 hal hkl
       refine wpAny_ready (rs:=[7]) (by kernel_rfl) (by simp) ?_
       refine AllReady.cons rfl (fun KK hKK=>?_) AllReady.nil
       go_simp
       refine hKK _ _ ?_
       clear hKK KK
       refine wpAny_ready (rs:=[8]) (by kernel_rfl) (by simp) ?_
       refine AllReady.cons rfl (fun KK hKK=>?_) AllReady.nil
       obtain⟨c0,c1,c2,c3,c4,f0,f1,f2,f3,f4⟩:=hbx.cells
       go_simp
       clear c0 c1 c2 c3 c4 f0 f1 f2 f3 f4
       obtain⟨w25,hw⟩:∃ w0,w0=((((w24.setCell ⟨x,0,none⟩ (.int .i64 9)).setCell ⟨x,1,none⟩ (.string ⟨#[]⟩)).setCell ⟨x,2,none⟩ (.slice (some ⟨w23.heap.size,0,none⟩) 2 2)).setCell ⟨x,3,none⟩ (.slice none 0 0)).setCell ⟨x,4,none⟩ (.int .i64 (atP r.e R:Nat)):=⟨_,rfl⟩
       rw [← hw]
       have hI25:r.In w25 (R23):=by rw [hw];exact hI24.put5 (by omega) _ _ _ _ _
       have hK25:Kp r.b w1 w25:=by rw [hw];exact hK24.put5 hxge _ _ _ _ _
       have hbx2:Blk w25 x (.int .i64 9) (.string ⟨#[]⟩) (.slice (some ⟨w23.heap.size,0,none⟩) 2 2) (.slice none 0 0) (.int .i64 (atP r.e R:Nat)):=by rw [hw];exact blk_put w24 x _ _ _ _ _ _ _ _ _ _ hbx
       clear hbx
       have hbx:=hbx2
       clear hbx2
       replace hT:=TrIn.putE hT hw
       clear hw
       refine hKK _ _ ?_
       clear hKK KK
       refine wpAny_done (by kernel_rfl) ?_ _
       have c:=must_any [41] (by simp) r w25 (R23) hI25 hwf
       have hxl26:=hbx.lt
       cases hq:mustP r.e [41] (R23) using Rs.cs with
       | bad p y =>
        rw [hq] at c HX
        go_wp2_with fail
        refine c.mono ?_
        rintro e w26 ⟨rfl,hb⟩
        exact⟨rfl,rule_bad HX.out.symm hB1 hK25 hlt hb⟩
       | ok t26 R26 =>
        rw [hq] at c HX
        rw [bnd_ok] at HX
        go_wp2_with fail
        refine c.mono ?_
        rintro e w26 ⟨v26,rfl,rfl,hI26,hk26⟩
        have hK26:=hK25.trans hk26
        clear c hq
        replace hbx:=Blk.kp hbx hk26 hbx.lt (by omega)
        replace hT:=TrIn.kpB hT hk26 (by omega)
        obtain⟨c0,c1,c2,c3,c4,_⟩:=hbx.cells
        obtain⟨o0,o1,o2,o3,o4,z0,z1,z2,z3,z4⟩:=Blk.cells (hh1.kp hK26 hn1 hlt)
        go_wp2_with fail
        exact⟨rfl,.agg #[.int .i64 9,.string ⟨#[]⟩,.slice (some ⟨w23.heap.size,0,none⟩) 2 2,.slice none 0 0,.int .i64 (atP r.e R:Nat)],by simp [results,Tryz.results87,go_sem, *],rule_end (n:=w.heap.size) HX.out.symm hB1 rfl hn1 hI26 hlt hK26 (TrIn.fromB hT) _ _ _ _ _⟩
    | false =>
     have c:=take_any [58] (by simp) r w16 (R4) hI16 hwf
     rw [hq] at c
     simp only [if_true,Bool.false_eq_true,if_false] at c
     rw [if_neg (neT hq)] at HX
     go_wp2_with fail
     refine c.mono ?_
     rintro e w27 ⟨rfl,hI27,hk27⟩
     have hK27:=hK16.trans hk27
     clear c hq
     replace ht4:=TrIn.kpB ht4 hk27 (by omega)
     replace hbx:=Blk.kp hbx hk27 hbx.lt (by omega)
     have c:=must_any [41] (by simp) r w27 (R4) hI27 hwf
     have hxl28:=hbx.lt
     cases hq:mustP r.e [41] (R4) using Rs.cs with
     | bad p y =>
      rw [hq] at c HX
      go_wp2_with fail
      refine c.mono ?_
      rintro e w28 ⟨rfl,hb⟩
      exact⟨rfl,rule_bad HX.out.symm hB1 hK27 hlt hb⟩
     | ok t28 R28 =>
      rw [hq] at c HX
      rw [bnd_ok] at HX
      go_wp2_with fail
      refine c.mono ?_
      rintro e w28 ⟨v28,rfl,rfl,hI28,hk28⟩
      have hK28:=hK27.trans hk28
      clear c hq
      replace ht4:=TrIn.kpB ht4 hk28 (by omega)
      replace hbx:=Blk.kp hbx hk28 hbx.lt (by omega)
      obtain⟨c0,c1,c2,c3,c4,_⟩:=hbx.cells
      obtain⟨o0,o1,o2,o3,o4,z0,z1,z2,z3,z4⟩:=Blk.cells (hh1.kp hK28 hn1 hlt)
      go_wp2_with fail
      exact⟨rfl,.agg #[.int .i64 (t4.kind:Nat),.string (bs t4.name),.slice ka4 t4.kids.length kc4,.slice na4 t4.names.length nc4,.int .i64 (t4.at_:Nat)],by simp [results,Tryz.results87,go_sem, *],rule_end (n:=w.heap.size) HX.out.symm hB1 rfl hn1 hI28 hlt hK28 (TrIn.fromB ht4) _ _ _ _ _⟩
end Go.Proofs.YtahnbigkdfmpbaaGreatDoor
