/- Boxes. -/
import Derived.Deep.RegionWith
import Derived.Test.YtahnbigkdfmpbaaGreatDoorIPB
import Derived.Test.YtahnbigkdfmpbaaGreatDoorIPRow
set_option linter.unusedVariables false
set_option linter.unusedSimpArgs false
namespace Go.Proofs.YtahnbigkdfmpbaaGreatDoor
open Go.RowKit
set_option maxRecDepth 100000 in
set_option maxHeartbeats 4000000 in
theorem box_step (r:Rdr) (hwf:r.wf) (f:Nat) (hf:f≤1000000) (ihe:∀ g,g≤f→RuleD r 106 (elemP r.e g)):∀ (l:Nat) (R:Ts) (w:World),l≤200→r.In w R→sees [91] R=true→NF (boxP r.e (f+1) l R)→Calls Tryz.prog 86 #[r.ptr,.int .i64 (l:Nat)] w (Out r w (TrV w.heap.size) (boxP r.e (f+1) l R)):=by
 intro l R w hl hR hse hNF
 obtain⟨X,hX⟩:∃ X,boxP r.e (f+1) l R=X:=⟨_,rfl⟩
 rw [hX] at hNF ⊢
 rw [boxP_s] at hX
 have HX:Hid (_=X):=hX
 clear hX
 have hlt:=hR.lt.2
 obtain⟨w1,hw1⟩:∃ w1,w1=w.alloc (.cells #[.int .i64 0,.string ⟨#[]⟩,.slice none 0 0,.slice none 0 0,.int .i64 0] 26):=⟨_,rfl⟩
 have hB1:Below w.heap.size w w1:=by rw [hw1];exact below_alloc _ _
 have hh1:Hole w1 w.heap.size:=by rw [hw1];exact hole_new w
 have hn1:w.heap.size<w1.heap.size:=by rw [hw1];simp
 have hI1:=hR.below hB1
 have hK1:=Kp.refl r.b w1
 have Hw1:Hid (_=_):=hw1
 clear hw1
 go_enter Tryz.func86,Tryz.ntmps86
 go_wp2_with fail
 rw [← Hw1.out]
 clear Hw1
 go_wp2_with fail
 refine (at_any r w1 (R) hI1 hwf).mono ?_
 rintro e w2 ⟨rfl,hb2⟩
 have hI2:=hI1.below hb2
 have hK2:=chainK hK1 hb2
 have hk2:=Kp.of_below (b:=r.b) hb2
 clear hb2 hk2
 go_wp2_with fail
 have hal:=below_alloc w2 (.cells #[.int .i64 10,.string ⟨#[]⟩,.slice none 0 0,.slice none 0 0,.int .i64 (atP r.e R:Nat)] 26)
 have hbx:=blk_new w2 (.int .i64 10) (.string ⟨#[]⟩) (.slice none 0 0) (.slice none 0 0) (.int .i64 (atP r.e R:Nat))
 have hxge:=hK2.size
 obtain⟨w3,hw⟩:∃ w0,w0=w2.alloc (.cells #[.int .i64 10,.string ⟨#[]⟩,.slice none 0 0,.slice none 0 0,.int .i64 (atP r.e R:Nat)] 26):=⟨_,rfl⟩
 rw [← hw] at hal hbx ⊢
 clear hw
 have hI3:=hI2.below hal
 have hK3:=chainK hK2 hal
 clear hal
 obtain⟨x,hx⟩:∃ x,x=w2.heap.size:=⟨_,rfl⟩
 rw [← hx] at hbx hxge ⊢
 clear hx
 have c:=must_any [91] (by simp) r w3 R hI3 hwf
 rw [mustP_t hse] at c
 go_wp2_with fail
 refine c.mono ?_
 rintro e w4 ⟨v4,rfl,rfl,hI4,hk4⟩
 have hK4:=hK3.trans hk4
 clear c
 replace hbx:=Blk.kp hbx hk4 hbx.lt (by omega)
 cases hq:sees [93] (R.tail) with
 | true =>
  have c:=take_any [93] (by simp) r w4 (R.tail) hI4 hwf
  rw [hq] at c
  simp only [if_true,Bool.false_eq_true,if_false] at c
  rw [if_pos hq] at HX
  go_wp2_with fail
  refine c.mono ?_
  rintro e w5 ⟨rfl,hI5,hk5⟩
  have hK5:=hK4.trans hk5
  clear c hq
  replace hbx:=Blk.kp hbx hk5 hbx.lt (by omega)
  obtain⟨c0,c1,c2,c3,c4,_⟩:=hbx.cells
  obtain⟨o0,o1,o2,o3,o4,z0,z1,z2,z3,z4⟩:=Blk.cells (hh1.kp hK5 hn1 hlt)
  go_wp2_with fail
  exact⟨rfl,.agg #[.int .i64 10,.string ⟨#[]⟩,.slice none 0 0,.slice none 0 0,.int .i64 (atP r.e R:Nat)],by simp [results,Tryz.results86,go_sem, *],rule_end (n:=w.heap.size) HX.out.symm hB1 rfl hn1 hI5 hlt hK5 (.leaf 10 [] [] (atP r.e R) none 0 _ (.nil none 0)) _ _ _ _ _⟩
 | false =>
  have c:=take_any [93] (by simp) r w4 (R.tail) hI4 hwf
  rw [hq] at c
  simp only [if_true,Bool.false_eq_true,if_false] at c
  rw [if_neg (neT hq)] at HX
  go_wp2_with fail
  refine c.mono ?_
  rintro e w6 ⟨rfl,hI6,hk6⟩
  have hK6:=hK4.trans hk6
  clear c hq
  replace hbx:=Blk.kp hbx hk6 hbx.lt (by omega)
  have hkr:=KRow.nil w1.heap.size x w6
  go_wp2_with fail
  obtain⟨w7,hw7⟩:∃ w0,w0=w6.drew:=⟨_,rfl⟩
  have hB7:Below w6.heap.size w6 w7:=by rw [hw7];exact Below.drew (Below.refl _ _)
  have hI7:=hI6.below hB7
  have hK7:=chainK hK6 hB7
  have hk7:=Kp.of_below (b:=r.b) hB7
  refine wp_region_any (by kernel_rfl) ?_
  change wpAny _ _ _ _ _ _ _ (World.drew _)
  rw [← hw7]
  clear hw7
  replace hbx:=Blk.kp hbx hk7 hbx.lt (by omega)
  replace hkr:=KRow.kp hkr hk7 (by omega)
  clear hB7 hk7
  refine wpAny_take (i:=0) (v:=.pointer (some ⟨x,2,none⟩)) rfl (by kernel_rfl) (by kernel_rfl) (by kernel_rfl) (fun _ _ _ h=>h) (Or.inl ⟨by rfl,fun w=>by go_simp⟩) ?_
  simp only [Act.put,List.setIfInBounds_toArray,List.set_cons_zero,List.set_cons_succ]
  refine wpAny_take (i:=2) (v:=r.ptr) rfl (by kernel_rfl) (by kernel_rfl) (by kernel_rfl) (fun _ _ _ h=>h) (Or.inl ⟨by rfl,fun w=>by go_simp⟩) ?_
  simp only [Act.put,List.setIfInBounds_toArray,List.set_cons_zero,List.set_cons_succ]
  refine wpAny_take (i:=3) (v:=.int .i64 (l:Nat)) rfl (by kernel_rfl) (by kernel_rfl) (by kernel_rfl) (fun _ _ _ h=>h) (Or.inl ⟨by rfl,fun w=>by go_simp⟩) ?_
  simp only [Act.put,List.setIfInBounds_toArray,List.set_cons_zero,List.set_cons_succ]
  refine wpAny_ready (rs:=[1,4]) (by kernel_rfl) (by simp) ?_
  refine AllReady.cons rfl (fun KK hKK=>?_) (AllReady.cons rfl (fun KK hKK=>?_) AllReady.nil)
  ·skip
   obtain⟨c0,c1,c2,c3,c4,_⟩:=hbx.cells
   go_simp
   clear c0 c1 c2 c3 c4
   refine hKK _ _ ?_
   clear hKK KK
   refine wpAny_ready (rs:=[4]) (by kernel_rfl) (by simp) ?_
   refine AllReady.cons rfl (fun KK hKK=>?_) AllReady.nil
   go_simp
   have hN8:NF (elemP r.e f l (R.tail)):=NF.left (by have h:=hNF;rw [← HX.out] at h;exact h)
   have c:=ihe f (Nat.le_refl _) l (R.tail) w7 (by omega) hI7 hN8
   have hxl8:=hbx.lt
   have hown8:=hkr.own
   cases hq:elemP r.e f l (R.tail) using Rs.cs with
   | bad p y =>
    rw [hq] at c HX
    refine c.mono ?_
    rintro e w8 ⟨rfl,hb⟩
    exact⟨rfl,rule_bad HX.out.symm hB1 hK7 hlt hb⟩
   | ok t8 R8 =>
    rw [hq] at c HX
    rw [bnd_ok] at HX
    refine c.mono ?_
    rintro e w8 ⟨v8,rfl,ht8,hI8,hk8⟩
    have hK8:=hK7.trans hk8
    clear c hq
    replace hbx:=Blk.kp hbx hk8 hbx.lt (by omega)
    replace hkr:=KRow.kp hkr hk8 (by omega)
    have hz8:=ht8
    have hms8:=hK7.size
    clear ht8
    obtain⟨vk8,vn8,rfl,hf8,ka8,kc8,rfl⟩:=TrIn.form hz8
    obtain⟨na8,nc8,rfl⟩:=hf8.form
    clear hf8
    refine hKK _ _ ?_
    clear hKK KK
    refine wpAny_ready (rs:=[5]) (by kernel_rfl) (by simp) ?_
    refine AllReady.cons rfl (fun KK hKK=>?_) AllReady.nil
    go_simp
    have hal:=below_alloc w8 (.cells #[.int .i64 (t8.kind:Nat),.string (bs t8.name),.slice ka8 t8.kids.length kc8,.slice na8 t8.names.length nc8,.int .i64 (t8.at_:Nat)] 26)
    have hkl:=Kp.of_below (b:=r.b) hal
    obtain⟨w9,hw9⟩:∃ w0,w0=w8.alloc (.cells #[.int .i64 (t8.kind:Nat),.string (bs t8.name),.slice ka8 t8.kids.length kc8,.slice na8 t8.names.length nc8,.int .i64 (t8.at_:Nat)] 26):=⟨_,rfl⟩
    rw [← hw9] at hal hkl ⊢
    have hI9:=hI8.below hal
    have hK9:=chainK hK8 hal
    have Hw9:Hid (_=_):=hw9
    clear hw9
    replace hbx:=Blk.kp hbx hkl hbx.lt (by omega)
    replace hkr:=KRow.kp hkr hkl (by omega)
    replace hz8:=TrIn.kp hz8 hkl (by omega)
    refine hKK _ _ ?_
    clear hKK KK
    refine wpAny_ready (rs:=[6]) (by kernel_rfl) (by simp) ?_
    refine AllReady.cons rfl (fun KK hKK=>?_) AllReady.nil
    refine step_append_tree (n:=w1.heap.size) (x:=x) (m:=w7.heap.size) rfl (.tmp 15) (.tmp 19) rfl rfl rfl hkr hz8 (one_cells _ _ _ _ _ _ _) hown8 hxl8 hms8 (fun j y hj=>by rw [Hw9.out];exact new_cell _ _ _ _ j y rfl hj) (by simp) hK9.size hbx.lt ?_
    intro v10 w10 hkr10 hg10
    have hI10:=hI9.grownK hkr hg10 (by omega)
    have hK10:=hK9.grownK hkr hg10 (Nat.le_refl _)
    replace hbx:=hbx.grownK hkr hg10
    clear hkr hz8 hg10 Hw9 hal hkl hms8 hown8 hxl8
    have hkr:=hkr10
    clear hkr10
    obtain⟨rA10,rL10,rC10,rfl⟩:=hkr.form2
    refine hKK _ _ ?_
    clear hKK KK
    refine wpAny_ready (rs:=[7]) (by kernel_rfl) (by simp) ?_
    refine AllReady.cons rfl (fun KK hKK=>?_) AllReady.nil
    go_simp
    refine hKK _ _ ?_
    clear hKK KK
    refine wpAny_ready (rs:=[8]) (by kernel_rfl) (by simp) ?_
    refine AllReady.cons rfl (fun KK hKK=>?_) AllReady.nil
    obtain⟨c0,c1,c2,c3,c4,f0,f1,f2,f3,f4⟩:=hbx.cells
    go_simp
    clear c0 c1 c2 c3 c4 f0 f1 f2 f3 f4
    obtain⟨w11,hw⟩:∃ w0,w0=w10.setCell ⟨x,2,none⟩ (.slice rA10 rL10 rC10):=⟨_,rfl⟩
    rw [← hw]
    have hI11:r.In w11 (R8):=by rw [hw];exact hI10.put (by omega) _
    have hK11:Kp r.b w1 w11:=by rw [hw];exact hK10.setCell (.inr hxge) _
    have hs11:w11.heap.size=w10.heap.size:=by rw [hw];exact set_size _ _ _
    replace hbx:=Blk.set2 hbx (.slice rA10 rL10 rC10)
    replace hkr:=KRow.put (i:=2) hkr (.slice rA10 rL10 rC10)
    rw [← hw] at hbx hkr
    clear hw
    refine hKK _ _ ?_
    clear hKK KK
    refine wpAny_done (by kernel_rfl) ?_ _
    go_wp2_with fail
    go_loopg [] f (fun k wr=>∃ acc R' aA lA cA,Blk wr x (.int .i64 10) (.string ⟨#[]⟩) (.slice aA lA cA) (.slice none 0 0) (.int .i64 (atP r.e R:Nat))∧KRow w1.heap.size x wr (.slice aA lA cA) acc∧r.In wr R'∧Kp r.b w1 wr∧Hid (acc.length+k≤f+1∧boxL r.e k l (atP r.e R) acc R'=X))
    case atStart=>exact⟨[t8],R8,rA10,rL10,rC10,hbx,hkr,hI11,hK11,⟨by simp;omega,HX.out⟩⟩
    case round =>
     obtain⟨acc,R',aA,lA,cA,hbx,hkr,hI12,hK12,HK⟩:=hrel
     clear HX
     cases gk with
     | zero=>exact absurd HK.out.2 (fun h=>by rw [boxL_z] at h;exact hNF 0 h.symm)
     | succ k =>
      have HX:Hid (_=X):=HK.out.2
      have HF:Hid (acc.length+(k+1)≤f+1):=HK.out.1
      rw [boxL_s] at HX
      clear HK
      obtain⟨w12,hw12⟩:∃ w0,w0=wr:=⟨_,rfl⟩
      subst hw12
      cases hq:sees [44] (R') with
      | true =>
       have c:=take_any [44] (by simp) r w12 (R') hI12 hwf
       rw [hq] at c
       simp only [if_true,Bool.false_eq_true,if_false] at c
       rw [if_pos hq] at HX
       go_wp2_with fail
       refine c.mono ?_
       rintro e w13 ⟨rfl,hI13,hk13⟩
       have hK13:=hK12.trans hk13
       clear c hq
       replace hbx:=Blk.kp hbx hk13 hbx.lt (by omega)
       replace hkr:=KRow.kp hkr hk13 (by omega)
       go_wp2_with fail
       obtain⟨w14,hw14⟩:∃ w0,w0=w13.drew:=⟨_,rfl⟩
       have hB14:Below w13.heap.size w13 w14:=by rw [hw14];exact Below.drew (Below.refl _ _)
       have hI14:=hI13.below hB14
       have hK14:=chainK hK13 hB14
       have hk14:=Kp.of_below (b:=r.b) hB14
       refine wp_region_any (by kernel_rfl) ?_
       change wpAny _ _ _ _ _ _ _ (World.drew _)
       rw [← hw14]
       clear hw14
       replace hbx:=Blk.kp hbx hk14 hbx.lt (by omega)
       replace hkr:=KRow.kp hkr hk14 (by omega)
       clear hB14 hk14
       refine wpAny_take (i:=0) (v:=.pointer (some ⟨x,2,none⟩)) rfl (by kernel_rfl) (by kernel_rfl) (by kernel_rfl) (fun _ _ _ h=>h) (Or.inl ⟨by rfl,fun w=>by go_simp⟩) ?_
       simp only [Act.put,List.setIfInBounds_toArray,List.set_cons_zero,List.set_cons_succ]
       refine wpAny_take (i:=2) (v:=r.ptr) rfl (by kernel_rfl) (by kernel_rfl) (by kernel_rfl) (fun _ _ _ h=>h) (Or.inl ⟨by rfl,fun w=>by go_simp⟩) ?_
       simp only [Act.put,List.setIfInBounds_toArray,List.set_cons_zero,List.set_cons_succ]
       refine wpAny_take (i:=3) (v:=.int .i64 (l:Nat)) rfl (by kernel_rfl) (by kernel_rfl) (by kernel_rfl) (fun _ _ _ h=>h) (Or.inl ⟨by rfl,fun w=>by go_simp⟩) ?_
       simp only [Act.put,List.setIfInBounds_toArray,List.set_cons_zero,List.set_cons_succ]
       refine wpAny_ready (rs:=[1,4]) (by kernel_rfl) (by simp) ?_
       refine AllReady.cons rfl (fun KK hKK=>?_) (AllReady.cons rfl (fun KK hKK=>?_) AllReady.nil)
       ·skip
        obtain⟨c0,c1,c2,c3,c4,_⟩:=hbx.cells
        go_simp
        clear c0 c1 c2 c3 c4
        refine hKK _ _ ?_
        clear hKK KK
        refine wpAny_ready (rs:=[4]) (by kernel_rfl) (by simp) ?_
        refine AllReady.cons rfl (fun KK hKK=>?_) AllReady.nil
        go_simp
        have hN15:NF (elemP r.e k l ((R').tail)):=NF.left (by have h:=hNF;rw [← HX.out] at h;exact h)
        have c:=ihe k (by have:=HF.out;omega) l ((R').tail) w14 (by omega) hI14 hN15
        have hxl15:=hbx.lt
        have hown15:=hkr.own
        cases hq:elemP r.e k l ((R').tail) using Rs.cs with
        | bad p y =>
         rw [hq] at c HX
         refine c.mono ?_
         rintro e w15 ⟨rfl,hb⟩
         exact⟨rfl,rule_bad HX.out.symm hB1 hK14 hlt hb⟩
        | ok t15 R15 =>
         rw [hq] at c HX
         rw [bnd_ok] at HX
         refine c.mono ?_
         rintro e w15 ⟨v15,rfl,ht15,hI15,hk15⟩
         have hK15:=hK14.trans hk15
         clear c hq
         replace hbx:=Blk.kp hbx hk15 hbx.lt (by omega)
         replace hkr:=KRow.kp hkr hk15 (by omega)
         have hz15:=ht15
         have hms15:=hK14.size
         clear ht15
         obtain⟨vk15,vn15,rfl,hf15,ka15,kc15,rfl⟩:=TrIn.form hz15
         obtain⟨na15,nc15,rfl⟩:=hf15.form
         clear hf15
         refine hKK _ _ ?_
         clear hKK KK
         refine wpAny_ready (rs:=[5]) (by kernel_rfl) (by simp) ?_
         refine AllReady.cons rfl (fun KK hKK=>?_) AllReady.nil
         go_simp
         have hal:=below_alloc w15 (.cells #[.int .i64 (t15.kind:Nat),.string (bs t15.name),.slice ka15 t15.kids.length kc15,.slice na15 t15.names.length nc15,.int .i64 (t15.at_:Nat)] 26)
         have hkl:=Kp.of_below (b:=r.b) hal
         obtain⟨w16,hw16⟩:∃ w0,w0=w15.alloc (.cells #[.int .i64 (t15.kind:Nat),.string (bs t15.name),.slice ka15 t15.kids.length kc15,.slice na15 t15.names.length nc15,.int .i64 (t15.at_:Nat)] 26):=⟨_,rfl⟩
         rw [← hw16] at hal hkl ⊢
         have hI16:=hI15.below hal
         have hK16:=chainK hK15 hal
         have Hw16:Hid (_=_):=hw16
         clear hw16
         replace hbx:=Blk.kp hbx hkl hbx.lt (by omega)
         replace hkr:=KRow.kp hkr hkl (by omega)
         replace hz15:=TrIn.kp hz15 hkl (by omega)
         refine hKK _ _ ?_
         clear hKK KK
         refine wpAny_ready (rs:=[6]) (by kernel_rfl) (by simp) ?_
         refine AllReady.cons rfl (fun KK hKK=>?_) AllReady.nil
         refine step_append_tree (n:=w1.heap.size) (x:=x) (m:=w14.heap.size) rfl (.tmp 25) (.tmp 29) rfl rfl rfl hkr hz15 (one_cells _ _ _ _ _ _ _) hown15 hxl15 hms15 (fun j y hj=>by rw [Hw16.out];exact new_cell _ _ _ _ j y rfl hj) (by have:=HF.out;omega) hK16.size hbx.lt ?_
         intro v17 w17 hkr17 hg17
         have hI17:=hI16.grownK hkr hg17 (by omega)
         have hK17:=hK16.grownK hkr hg17 (Nat.le_refl _)
         replace hbx:=hbx.grownK hkr hg17
         clear hkr hz15 hg17 Hw16 hal hkl hms15 hown15 hxl15
         have hkr:=hkr17
         clear hkr17
         obtain⟨rA17,rL17,rC17,rfl⟩:=hkr.form2
         refine hKK _ _ ?_
         clear hKK KK
         refine wpAny_ready (rs:=[7]) (by kernel_rfl) (by simp) ?_
         refine AllReady.cons rfl (fun KK hKK=>?_) AllReady.nil
         go_simp
         refine hKK _ _ ?_
         clear hKK KK
         refine wpAny_ready (rs:=[8]) (by kernel_rfl) (by simp) ?_
         refine AllReady.cons rfl (fun KK hKK=>?_) AllReady.nil
         obtain⟨c0,c1,c2,c3,c4,f0,f1,f2,f3,f4⟩:=hbx.cells
         go_simp
         clear c0 c1 c2 c3 c4 f0 f1 f2 f3 f4
         obtain⟨w18,hw⟩:∃ w0,w0=w17.setCell ⟨x,2,none⟩ (.slice rA17 rL17 rC17):=⟨_,rfl⟩
         rw [← hw]
         have hI18:r.In w18 (R15):=by rw [hw];exact hI17.put (by omega) _
         have hK18:Kp r.b w1 w18:=by rw [hw];exact hK17.setCell (.inr hxge) _
         have hs18:w18.heap.size=w17.heap.size:=by rw [hw];exact set_size _ _ _
         replace hbx:=Blk.set2 hbx (.slice rA17 rL17 rC17)
         replace hkr:=KRow.put (i:=2) hkr (.slice rA17 rL17 rC17)
         rw [← hw] at hbx hkr
         clear hw
         refine hKK _ _ ?_
         clear hKK KK
         refine wpAny_done (by kernel_rfl) ?_ _
         go_wp2_with fail
         go_roundg k
         case measure=>omega
         case rel=>exact⟨acc ++ [t15],R15,rA17,rL17,rC17,hbx,hkr,hI18,hK18,⟨by have:=HF.out;simp;omega,HX.out⟩⟩
       ·skip
        go_simp
        have hN19:NF (elemP r.e k l ((R').tail)):=NF.left (by have h:=hNF;rw [← HX.out] at h;exact h)
        have c:=ihe k (by have:=HF.out;omega) l ((R').tail) w14 (by omega) hI14 hN19
        have hxl19:=hbx.lt
        have hown19:=hkr.own
        cases hq:elemP r.e k l ((R').tail) using Rs.cs with
        | bad p y =>
         rw [hq] at c HX
         refine c.mono ?_
         rintro e w19 ⟨rfl,hb⟩
         exact⟨rfl,rule_bad HX.out.symm hB1 hK14 hlt hb⟩
        | ok t19 R19 =>
         rw [hq] at c HX
         rw [bnd_ok] at HX
         refine c.mono ?_
         rintro e w19 ⟨v19,rfl,ht19,hI19,hk19⟩
         have hK19:=hK14.trans hk19
         clear c hq
         replace hbx:=Blk.kp hbx hk19 hbx.lt (by omega)
         replace hkr:=KRow.kp hkr hk19 (by omega)
         have hz19:=ht19
         have hms19:=hK14.size
         clear ht19
         obtain⟨vk19,vn19,rfl,hf19,ka19,kc19,rfl⟩:=TrIn.form hz19
         obtain⟨na19,nc19,rfl⟩:=hf19.form
         clear hf19
         refine hKK _ _ ?_
         clear hKK KK
         refine wpAny_ready (rs:=[1,5]) (by kernel_rfl) (by simp) ?_
         refine AllReady.cons rfl (fun KK hKK=>?_) (AllReady.cons rfl (fun KK hKK=>?_) AllReady.nil)
         ·skip
          obtain⟨c0,c1,c2,c3,c4,_⟩:=hbx.cells
          go_simp
          clear c0 c1 c2 c3 c4
          refine hKK _ _ ?_
          clear hKK KK
          refine wpAny_ready (rs:=[5]) (by kernel_rfl) (by simp) ?_
          refine AllReady.cons rfl (fun KK hKK=>?_) AllReady.nil
          go_simp
          have hal:=below_alloc w19 (.cells #[.int .i64 (t19.kind:Nat),.string (bs t19.name),.slice ka19 t19.kids.length kc19,.slice na19 t19.names.length nc19,.int .i64 (t19.at_:Nat)] 26)
          have hkl:=Kp.of_below (b:=r.b) hal
          obtain⟨w20,hw20⟩:∃ w0,w0=w19.alloc (.cells #[.int .i64 (t19.kind:Nat),.string (bs t19.name),.slice ka19 t19.kids.length kc19,.slice na19 t19.names.length nc19,.int .i64 (t19.at_:Nat)] 26):=⟨_,rfl⟩
          rw [← hw20] at hal hkl ⊢
          have hI20:=hI19.below hal
          have hK20:=chainK hK19 hal
          have Hw20:Hid (_=_):=hw20
          clear hw20
          replace hbx:=Blk.kp hbx hkl hbx.lt (by omega)
          replace hkr:=KRow.kp hkr hkl (by omega)
          replace hz19:=TrIn.kp hz19 hkl (by omega)
          refine hKK _ _ ?_
          clear hKK KK
          refine wpAny_ready (rs:=[6]) (by kernel_rfl) (by simp) ?_
          refine AllReady.cons rfl (fun KK hKK=>?_) AllReady.nil
          refine step_append_tree (n:=w1.heap.size) (x:=x) (m:=w14.heap.size) rfl (.tmp 25) (.tmp 29) rfl rfl rfl hkr hz19 (one_cells _ _ _ _ _ _ _) hown19 hxl19 hms19 (fun j y hj=>by rw [Hw20.out];exact new_cell _ _ _ _ j y rfl hj) (by have:=HF.out;omega) hK20.size hbx.lt ?_
          intro v21 w21 hkr21 hg21
          have hI21:=hI20.grownK hkr hg21 (by omega)
          have hK21:=hK20.grownK hkr hg21 (Nat.le_refl _)
          replace hbx:=hbx.grownK hkr hg21
          clear hkr hz19 hg21 Hw20 hal hkl hms19 hown19 hxl19
          have hkr:=hkr21
          clear hkr21
          obtain⟨rA21,rL21,rC21,rfl⟩:=hkr.form2
          refine hKK _ _ ?_
          clear hKK KK
          refine wpAny_ready (rs:=[7]) (by kernel_rfl) (by simp) ?_
          refine AllReady.cons rfl (fun KK hKK=>?_) AllReady.nil
          go_simp
          refine hKK _ _ ?_
          clear hKK KK
          refine wpAny_ready (rs:=[8]) (by kernel_rfl) (by simp) ?_
          refine AllReady.cons rfl (fun KK hKK=>?_) AllReady.nil
          obtain⟨c0,c1,c2,c3,c4,f0,f1,f2,f3,f4⟩:=hbx.cells
          go_simp
          clear c0 c1 c2 c3 c4 f0 f1 f2 f3 f4
          obtain⟨w22,hw⟩:∃ w0,w0=w21.setCell ⟨x,2,none⟩ (.slice rA21 rL21 rC21):=⟨_,rfl⟩
          rw [← hw]
          have hI22:r.In w22 (R19):=by rw [hw];exact hI21.put (by omega) _
          have hK22:Kp r.b w1 w22:=by rw [hw];exact hK21.setCell (.inr hxge) _
          have hs22:w22.heap.size=w21.heap.size:=by rw [hw];exact set_size _ _ _
          replace hbx:=Blk.set2 hbx (.slice rA21 rL21 rC21)
          replace hkr:=KRow.put (i:=2) hkr (.slice rA21 rL21 rC21)
          rw [← hw] at hbx hkr
          clear hw
          refine hKK _ _ ?_
          clear hKK KK
          refine wpAny_done (by kernel_rfl) ?_ _
          go_wp2_with fail
          go_roundg k
          case measure=>omega
          case rel=>exact⟨acc ++ [t19],R19,rA21,rL21,rC21,hbx,hkr,hI22,hK22,⟨by have:=HF.out;simp;omega,HX.out⟩⟩
         ·skip
          go_simp
          have hal:=below_alloc w19 (.cells #[.int .i64 (t19.kind:Nat),.string (bs t19.name),.slice ka19 t19.kids.length kc19,.slice na19 t19.names.length nc19,.int .i64 (t19.at_:Nat)] 26)
          have hkl:=Kp.of_below (b:=r.b) hal
          obtain⟨w23,hw23⟩:∃ w0,w0=w19.alloc (.cells #[.int .i64 (t19.kind:Nat),.string (bs t19.name),.slice ka19 t19.kids.length kc19,.slice na19 t19.names.length nc19,.int .i64 (t19.at_:Nat)] 26):=⟨_,rfl⟩
          rw [← hw23] at hal hkl ⊢
          have hI23:=hI19.below hal
          have hK23:=chainK hK19 hal
          have Hw23:Hid (_=_):=hw23
          clear hw23
          replace hbx:=Blk.kp hbx hkl hbx.lt (by omega)
          replace hkr:=KRow.kp hkr hkl (by omega)
          replace hz19:=TrIn.kp hz19 hkl (by omega)
          refine hKK _ _ ?_
          clear hKK KK
          refine wpAny_ready (rs:=[1]) (by kernel_rfl) (by simp) ?_
          refine AllReady.cons rfl (fun KK hKK=>?_) AllReady.nil
          obtain⟨c0,c1,c2,c3,c4,_⟩:=hbx.cells
          go_simp
          clear c0 c1 c2 c3 c4
          refine hKK _ _ ?_
          clear hKK KK
          refine wpAny_ready (rs:=[6]) (by kernel_rfl) (by simp) ?_
          refine AllReady.cons rfl (fun KK hKK=>?_) AllReady.nil
          refine step_append_tree (n:=w1.heap.size) (x:=x) (m:=w14.heap.size) rfl (.tmp 25) (.tmp 29) rfl rfl rfl hkr hz19 (one_cells _ _ _ _ _ _ _) hown19 hxl19 hms19 (fun j y hj=>by rw [Hw23.out];exact new_cell _ _ _ _ j y rfl hj) (by have:=HF.out;omega) hK23.size hbx.lt ?_
          intro v24 w24 hkr24 hg24
          have hI24:=hI23.grownK hkr hg24 (by omega)
          have hK24:=hK23.grownK hkr hg24 (Nat.le_refl _)
          replace hbx:=hbx.grownK hkr hg24
          clear hkr hz19 hg24 Hw23 hal hkl hms19 hown19 hxl19
          have hkr:=hkr24
          clear hkr24
          obtain⟨rA24,rL24,rC24,rfl⟩:=hkr.form2
          refine hKK _ _ ?_
          clear hKK KK
          refine wpAny_ready (rs:=[7]) (by kernel_rfl) (by simp) ?_
          refine AllReady.cons rfl (fun KK hKK=>?_) AllReady.nil
          go_simp
          refine hKK _ _ ?_
          clear hKK KK
          refine wpAny_ready (rs:=[8]) (by kernel_rfl) (by simp) ?_
          refine AllReady.cons rfl (fun KK hKK=>?_) AllReady.nil
          obtain⟨c0,c1,c2,c3,c4,f0,f1,f2,f3,f4⟩:=hbx.cells
          go_simp
          clear c0 c1 c2 c3 c4 f0 f1 f2 f3 f4
          obtain⟨w25,hw⟩:∃ w0,w0=w24.setCell ⟨x,2,none⟩ (.slice rA24 rL24 rC24):=⟨_,rfl⟩
          rw [← hw]
          have hI25:r.In w25 (R19):=by rw [hw];exact hI24.put (by omega) _
          have hK25:Kp r.b w1 w25:=by rw [hw];exact hK24.setCell (.inr hxge) _
          have hs25:w25.heap.size=w24.heap.size:=by rw [hw];exact set_size _ _ _
          replace hbx:=Blk.set2 hbx (.slice rA24 rL24 rC24)
          replace hkr:=KRow.put (i:=2) hkr (.slice rA24 rL24 rC24)
          rw [← hw] at hbx hkr
          clear hw
          refine hKK _ _ ?_
          clear hKK KK
          refine wpAny_done (by kernel_rfl) ?_ _
          go_wp2_with fail
          go_roundg k
          case measure=>omega
          case rel=>exact⟨acc ++ [t19],R19,rA24,rL24,rC24,hbx,hkr,hI25,hK25,⟨by have:=HF.out;simp;omega,HX.out⟩⟩
      | false =>
       have c:=take_any [44] (by simp) r w12 (R') hI12 hwf
       rw [hq] at c
       simp only [if_true,Bool.false_eq_true,if_false] at c
       rw [if_neg (neT hq)] at HX
       go_wp2_with fail
       refine c.mono ?_
       rintro e w26 ⟨rfl,hI26,hk26⟩
       have hK26:=hK12.trans hk26
       clear c hq
       replace hbx:=Blk.kp hbx hk26 hbx.lt (by omega)
       replace hkr:=KRow.kp hkr hk26 (by omega)
       have c:=must_any [93] (by simp) r w26 (R') hI26 hwf
       have hxl27:=hbx.lt
       have hown27:=hkr.own
       cases hq:mustP r.e [93] (R') using Rs.cs with
       | bad p y =>
        rw [hq] at c HX
        go_wp2_with fail
        refine c.mono ?_
        rintro e w27 ⟨rfl,hb⟩
        exact⟨rfl,rule_bad HX.out.symm hB1 hK26 hlt hb⟩
       | ok t27 R27 =>
        rw [hq] at c HX
        rw [bnd_ok] at HX
        go_wp2_with fail
        refine c.mono ?_
        rintro e w27 ⟨v27,rfl,rfl,hI27,hk27⟩
        have hK27:=hK26.trans hk27
        clear c hq
        replace hbx:=Blk.kp hbx hk27 hbx.lt (by omega)
        replace hkr:=KRow.kp hkr hk27 (by omega)
        obtain⟨c0,c1,c2,c3,c4,_⟩:=hbx.cells
        obtain⟨o0,o1,o2,o3,o4,z0,z1,z2,z3,z4⟩:=Blk.cells (hh1.kp hK27 hn1 hlt)
        go_wp2_with fail
        exact⟨rfl,.agg #[.int .i64 10,.string ⟨#[]⟩,.slice aA lA cA,.slice none 0 0,.int .i64 (atP r.e R:Nat)],by simp [results,Tryz.results86,go_sem, *],rule_end (n:=w.heap.size) HX.out.symm hB1 rfl hn1 hI27 hlt hK27 (TrIn.fromB (hkr.tree 10 [] [] (atP r.e R) (.nil none 0))) _ _ _ _ _⟩
  ·skip
   go_simp
   have hN28:NF (elemP r.e f l (R.tail)):=NF.left (by have h:=hNF;rw [← HX.out] at h;exact h)
   have c:=ihe f (Nat.le_refl _) l (R.tail) w7 (by omega) hI7 hN28
   have hxl28:=hbx.lt
   have hown28:=hkr.own
   cases hq:elemP r.e f l (R.tail) using Rs.cs with
   | bad p y =>
    rw [hq] at c HX
    refine c.mono ?_
    rintro e w28 ⟨rfl,hb⟩
    exact⟨rfl,rule_bad HX.out.symm hB1 hK7 hlt hb⟩
   | ok t28 R28 =>
    rw [hq] at c HX
    rw [bnd_ok] at HX
    refine c.mono ?_
    rintro e w28 ⟨v28,rfl,ht28,hI28,hk28⟩
    have hK28:=hK7.trans hk28
    clear c hq
    replace hbx:=Blk.kp hbx hk28 hbx.lt (by omega)
    replace hkr:=KRow.kp hkr hk28 (by omega)
    have hz28:=ht28
    have hms28:=hK7.size
    clear ht28
    obtain⟨vk28,vn28,rfl,hf28,ka28,kc28,rfl⟩:=TrIn.form hz28
    obtain⟨na28,nc28,rfl⟩:=hf28.form
    clear hf28
    refine hKK _ _ ?_
    clear hKK KK
    refine wpAny_ready (rs:=[1,5]) (by kernel_rfl) (by simp) ?_
    refine AllReady.cons rfl (fun KK hKK=>?_) (AllReady.cons rfl (fun KK hKK=>?_) AllReady.nil)
    ·skip
     obtain⟨c0,c1,c2,c3,c4,_⟩:=hbx.cells
     go_simp
     clear c0 c1 c2 c3 c4
     refine hKK _ _ ?_
     clear hKK KK
     refine wpAny_ready (rs:=[5]) (by kernel_rfl) (by simp) ?_
     refine AllReady.cons rfl (fun KK hKK=>?_) AllReady.nil
     go_simp
     have hal:=below_alloc w28 (.cells #[.int .i64 (t28.kind:Nat),.string (bs t28.name),.slice ka28 t28.kids.length kc28,.slice na28 t28.names.length nc28,.int .i64 (t28.at_:Nat)] 26)
     have hkl:=Kp.of_below (b:=r.b) hal
     obtain⟨w29,hw29⟩:∃ w0,w0=w28.alloc (.cells #[.int .i64 (t28.kind:Nat),.string (bs t28.name),.slice ka28 t28.kids.length kc28,.slice na28 t28.names.length nc28,.int .i64 (t28.at_:Nat)] 26):=⟨_,rfl⟩
     rw [← hw29] at hal hkl ⊢
     have hI29:=hI28.below hal
     have hK29:=chainK hK28 hal
     have Hw29:Hid (_=_):=hw29
     clear hw29
     replace hbx:=Blk.kp hbx hkl hbx.lt (by omega)
     replace hkr:=KRow.kp hkr hkl (by omega)
     replace hz28:=TrIn.kp hz28 hkl (by omega)
     refine hKK _ _ ?_
     clear hKK KK
     refine wpAny_ready (rs:=[6]) (by kernel_rfl) (by simp) ?_
     refine AllReady.cons rfl (fun KK hKK=>?_) AllReady.nil
     refine step_append_tree (n:=w1.heap.size) (x:=x) (m:=w7.heap.size) rfl (.tmp 15) (.tmp 19) rfl rfl rfl hkr hz28 (one_cells _ _ _ _ _ _ _) hown28 hxl28 hms28 (fun j y hj=>by rw [Hw29.out];exact new_cell _ _ _ _ j y rfl hj) (by simp) hK29.size hbx.lt ?_
     intro v30 w30 hkr30 hg30
     have hI30:=hI29.grownK hkr hg30 (by omega)
     have hK30:=hK29.grownK hkr hg30 (Nat.le_refl _)
     replace hbx:=hbx.grownK hkr hg30
     clear hkr hz28 hg30 Hw29 hal hkl hms28 hown28 hxl28
     have hkr:=hkr30
     clear hkr30
     obtain⟨rA30,rL30,rC30,rfl⟩:=hkr.form2
     refine hKK _ _ ?_
     clear hKK KK
     refine wpAny_ready (rs:=[7]) (by kernel_rfl) (by simp) ?_
     refine AllReady.cons rfl (fun KK hKK=>?_) AllReady.nil
     go_simp
     refine hKK _ _ ?_
     clear hKK KK
     refine wpAny_ready (rs:=[8]) (by kernel_rfl) (by simp) ?_
     refine AllReady.cons rfl (fun KK hKK=>?_) AllReady.nil
     obtain⟨c0,c1,c2,c3,c4,f0,f1,f2,f3,f4⟩:=hbx.cells
     go_simp
     clear c0 c1 c2 c3 c4 f0 f1 f2 f3 f4
     obtain⟨w31,hw⟩:∃ w0,w0=w30.setCell ⟨x,2,none⟩ (.slice rA30 rL30 rC30):=⟨_,rfl⟩
     rw [← hw]
     have hI31:r.In w31 (R28):=by rw [hw];exact hI30.put (by omega) _
     have hK31:Kp r.b w1 w31:=by rw [hw];exact hK30.setCell (.inr hxge) _
     have hs31:w31.heap.size=w30.heap.size:=by rw [hw];exact set_size _ _ _
     replace hbx:=Blk.set2 hbx (.slice rA30 rL30 rC30)
     replace hkr:=KRow.put (i:=2) hkr (.slice rA30 rL30 rC30)
     rw [← hw] at hbx hkr
     clear hw
     refine hKK _ _ ?_
     clear hKK KK
     refine wpAny_done (by kernel_rfl) ?_ _
     go_wp2_with fail
     go_loopg [] f (fun k wr=>∃ acc R' aA lA cA,Blk wr x (.int .i64 10) (.string ⟨#[]⟩) (.slice aA lA cA) (.slice none 0 0) (.int .i64 (atP r.e R:Nat))∧KRow w1.heap.size x wr (.slice aA lA cA) acc∧r.In wr R'∧Kp r.b w1 wr∧Hid (acc.length+k≤f+1∧boxL r.e k l (atP r.e R) acc R'=X))
     case atStart=>exact⟨[t28],R28,rA30,rL30,rC30,hbx,hkr,hI31,hK31,⟨by simp;omega,HX.out⟩⟩
     case round =>
      obtain⟨acc,R',aA,lA,cA,hbx,hkr,hI32,hK32,HK⟩:=hrel
      clear HX
      cases gk with
      | zero=>exact absurd HK.out.2 (fun h=>by rw [boxL_z] at h;exact hNF 0 h.symm)
      | succ k =>
       have HX:Hid (_=X):=HK.out.2
       have HF:Hid (acc.length+(k+1)≤f+1):=HK.out.1
       rw [boxL_s] at HX
       clear HK
       obtain⟨w32,hw32⟩:∃ w0,w0=wr:=⟨_,rfl⟩
       subst hw32
       cases hq:sees [44] (R') with
       | true =>
        have c:=take_any [44] (by simp) r w32 (R') hI32 hwf
        rw [hq] at c
        simp only [if_true,Bool.false_eq_true,if_false] at c
        rw [if_pos hq] at HX
        go_wp2_with fail
        refine c.mono ?_
        rintro e w33 ⟨rfl,hI33,hk33⟩
        have hK33:=hK32.trans hk33
        clear c hq
        replace hbx:=Blk.kp hbx hk33 hbx.lt (by omega)
        replace hkr:=KRow.kp hkr hk33 (by omega)
        go_wp2_with fail
        obtain⟨w34,hw34⟩:∃ w0,w0=w33.drew:=⟨_,rfl⟩
        have hB34:Below w33.heap.size w33 w34:=by rw [hw34];exact Below.drew (Below.refl _ _)
        have hI34:=hI33.below hB34
        have hK34:=chainK hK33 hB34
        have hk34:=Kp.of_below (b:=r.b) hB34
        refine wp_region_any (by kernel_rfl) ?_
        change wpAny _ _ _ _ _ _ _ (World.drew _)
        rw [← hw34]
        clear hw34
        replace hbx:=Blk.kp hbx hk34 hbx.lt (by omega)
        replace hkr:=KRow.kp hkr hk34 (by omega)
        clear hB34 hk34
        refine wpAny_take (i:=0) (v:=.pointer (some ⟨x,2,none⟩)) rfl (by kernel_rfl) (by kernel_rfl) (by kernel_rfl) (fun _ _ _ h=>h) (Or.inl ⟨by rfl,fun w=>by go_simp⟩) ?_
        simp only [Act.put,List.setIfInBounds_toArray,List.set_cons_zero,List.set_cons_succ]
        refine wpAny_take (i:=2) (v:=r.ptr) rfl (by kernel_rfl) (by kernel_rfl) (by kernel_rfl) (fun _ _ _ h=>h) (Or.inl ⟨by rfl,fun w=>by go_simp⟩) ?_
        simp only [Act.put,List.setIfInBounds_toArray,List.set_cons_zero,List.set_cons_succ]
        refine wpAny_take (i:=3) (v:=.int .i64 (l:Nat)) rfl (by kernel_rfl) (by kernel_rfl) (by kernel_rfl) (fun _ _ _ h=>h) (Or.inl ⟨by rfl,fun w=>by go_simp⟩) ?_
        simp only [Act.put,List.setIfInBounds_toArray,List.set_cons_zero,List.set_cons_succ]
        refine wpAny_ready (rs:=[1,4]) (by kernel_rfl) (by simp) ?_
        refine AllReady.cons rfl (fun KK hKK=>?_) (AllReady.cons rfl (fun KK hKK=>?_) AllReady.nil)
        ·skip
         obtain⟨c0,c1,c2,c3,c4,_⟩:=hbx.cells
         go_simp
         clear c0 c1 c2 c3 c4
         refine hKK _ _ ?_
         clear hKK KK
         refine wpAny_ready (rs:=[4]) (by kernel_rfl) (by simp) ?_
         refine AllReady.cons rfl (fun KK hKK=>?_) AllReady.nil
         go_simp
         have hN35:NF (elemP r.e k l ((R').tail)):=NF.left (by have h:=hNF;rw [← HX.out] at h;exact h)
         have c:=ihe k (by have:=HF.out;omega) l ((R').tail) w34 (by omega) hI34 hN35
         have hxl35:=hbx.lt
         have hown35:=hkr.own
         cases hq:elemP r.e k l ((R').tail) using Rs.cs with
         | bad p y =>
          rw [hq] at c HX
          refine c.mono ?_
          rintro e w35 ⟨rfl,hb⟩
          exact⟨rfl,rule_bad HX.out.symm hB1 hK34 hlt hb⟩
         | ok t35 R35 =>
          rw [hq] at c HX
          rw [bnd_ok] at HX
          refine c.mono ?_
          rintro e w35 ⟨v35,rfl,ht35,hI35,hk35⟩
          have hK35:=hK34.trans hk35
          clear c hq
          replace hbx:=Blk.kp hbx hk35 hbx.lt (by omega)
          replace hkr:=KRow.kp hkr hk35 (by omega)
          have hz35:=ht35
          have hms35:=hK34.size
          clear ht35
          obtain⟨vk35,vn35,rfl,hf35,ka35,kc35,rfl⟩:=TrIn.form hz35
          obtain⟨na35,nc35,rfl⟩:=hf35.form
          clear hf35
          refine hKK _ _ ?_
          clear hKK KK
          refine wpAny_ready (rs:=[5]) (by kernel_rfl) (by simp) ?_
          refine AllReady.cons rfl (fun KK hKK=>?_) AllReady.nil
          go_simp
          have hal:=below_alloc w35 (.cells #[.int .i64 (t35.kind:Nat),.string (bs t35.name),.slice ka35 t35.kids.length kc35,.slice na35 t35.names.length nc35,.int .i64 (t35.at_:Nat)] 26)
          have hkl:=Kp.of_below (b:=r.b) hal
          obtain⟨w36,hw36⟩:∃ w0,w0=w35.alloc (.cells #[.int .i64 (t35.kind:Nat),.string (bs t35.name),.slice ka35 t35.kids.length kc35,.slice na35 t35.names.length nc35,.int .i64 (t35.at_:Nat)] 26):=⟨_,rfl⟩
          rw [← hw36] at hal hkl ⊢
          have hI36:=hI35.below hal
          have hK36:=chainK hK35 hal
          have Hw36:Hid (_=_):=hw36
          clear hw36
          replace hbx:=Blk.kp hbx hkl hbx.lt (by omega)
          replace hkr:=KRow.kp hkr hkl (by omega)
          replace hz35:=TrIn.kp hz35 hkl (by omega)
          refine hKK _ _ ?_
          clear hKK KK
          refine wpAny_ready (rs:=[6]) (by kernel_rfl) (by simp) ?_
          refine AllReady.cons rfl (fun KK hKK=>?_) AllReady.nil
          refine step_append_tree (n:=w1.heap.size) (x:=x) (m:=w34.heap.size) rfl (.tmp 25) (.tmp 29) rfl rfl rfl hkr hz35 (one_cells _ _ _ _ _ _ _) hown35 hxl35 hms35 (fun j y hj=>by rw [Hw36.out];exact new_cell _ _ _ _ j y rfl hj) (by have:=HF.out;omega) hK36.size hbx.lt ?_
          intro v37 w37 hkr37 hg37
          have hI37:=hI36.grownK hkr hg37 (by omega)
          have hK37:=hK36.grownK hkr hg37 (Nat.le_refl _)
          replace hbx:=hbx.grownK hkr hg37
          clear hkr hz35 hg37 Hw36 hal hkl hms35 hown35 hxl35
          have hkr:=hkr37
          clear hkr37
          obtain⟨rA37,rL37,rC37,rfl⟩:=hkr.form2
          refine hKK _ _ ?_
          clear hKK KK
          refine wpAny_ready (rs:=[7]) (by kernel_rfl) (by simp) ?_
          refine AllReady.cons rfl (fun KK hKK=>?_) AllReady.nil
          go_simp
          refine hKK _ _ ?_
          clear hKK KK
          refine wpAny_ready (rs:=[8]) (by kernel_rfl) (by simp) ?_
          refine AllReady.cons rfl (fun KK hKK=>?_) AllReady.nil
          obtain⟨c0,c1,c2,c3,c4,f0,f1,f2,f3,f4⟩:=hbx.cells
          go_simp
          clear c0 c1 c2 c3 c4 f0 f1 f2 f3 f4
          obtain⟨w38,hw⟩:∃ w0,w0=w37.setCell ⟨x,2,none⟩ (.slice rA37 rL37 rC37):=⟨_,rfl⟩
          rw [← hw]
          have hI38:r.In w38 (R35):=by rw [hw];exact hI37.put (by omega) _
          have hK38:Kp r.b w1 w38:=by rw [hw];exact hK37.setCell (.inr hxge) _
          have hs38:w38.heap.size=w37.heap.size:=by rw [hw];exact set_size _ _ _
          replace hbx:=Blk.set2 hbx (.slice rA37 rL37 rC37)
          replace hkr:=KRow.put (i:=2) hkr (.slice rA37 rL37 rC37)
          rw [← hw] at hbx hkr
          clear hw
          refine hKK _ _ ?_
          clear hKK KK
          refine wpAny_done (by kernel_rfl) ?_ _
          go_wp2_with fail
          go_roundg k
          case measure=>omega
          case rel=>exact⟨acc ++ [t35],R35,rA37,rL37,rC37,hbx,hkr,hI38,hK38,⟨by have:=HF.out;simp;omega,HX.out⟩⟩
        ·skip
         go_simp
         have hN39:NF (elemP r.e k l ((R').tail)):=NF.left (by have h:=hNF;rw [← HX.out] at h;exact h)
         have c:=ihe k (by have:=HF.out;omega) l ((R').tail) w34 (by omega) hI34 hN39
         have hxl39:=hbx.lt
         have hown39:=hkr.own
         cases hq:elemP r.e k l ((R').tail) using Rs.cs with
         | bad p y =>
          rw [hq] at c HX
          refine c.mono ?_
          rintro e w39 ⟨rfl,hb⟩
          exact⟨rfl,rule_bad HX.out.symm hB1 hK34 hlt hb⟩
         | ok t39 R39 =>
          rw [hq] at c HX
          rw [bnd_ok] at HX
          refine c.mono ?_
          rintro e w39 ⟨v39,rfl,ht39,hI39,hk39⟩
          have hK39:=hK34.trans hk39
          clear c hq
          replace hbx:=Blk.kp hbx hk39 hbx.lt (by omega)
          replace hkr:=KRow.kp hkr hk39 (by omega)
          have hz39:=ht39
          have hms39:=hK34.size
          clear ht39
          obtain⟨vk39,vn39,rfl,hf39,ka39,kc39,rfl⟩:=TrIn.form hz39
          obtain⟨na39,nc39,rfl⟩:=hf39.form
          clear hf39
          refine hKK _ _ ?_
          clear hKK KK
          refine wpAny_ready (rs:=[1,5]) (by kernel_rfl) (by simp) ?_
          refine AllReady.cons rfl (fun KK hKK=>?_) (AllReady.cons rfl (fun KK hKK=>?_) AllReady.nil)
          ·skip
           obtain⟨c0,c1,c2,c3,c4,_⟩:=hbx.cells
           go_simp
           clear c0 c1 c2 c3 c4
           refine hKK _ _ ?_
           clear hKK KK
           refine wpAny_ready (rs:=[5]) (by kernel_rfl) (by simp) ?_
           refine AllReady.cons rfl (fun KK hKK=>?_) AllReady.nil
           go_simp
           have hal:=below_alloc w39 (.cells #[.int .i64 (t39.kind:Nat),.string (bs t39.name),.slice ka39 t39.kids.length kc39,.slice na39 t39.names.length nc39,.int .i64 (t39.at_:Nat)] 26)
           have hkl:=Kp.of_below (b:=r.b) hal
           obtain⟨w40,hw40⟩:∃ w0,w0=w39.alloc (.cells #[.int .i64 (t39.kind:Nat),.string (bs t39.name),.slice ka39 t39.kids.length kc39,.slice na39 t39.names.length nc39,.int .i64 (t39.at_:Nat)] 26):=⟨_,rfl⟩
           rw [← hw40] at hal hkl ⊢
           have hI40:=hI39.below hal
           have hK40:=chainK hK39 hal
           have Hw40:Hid (_=_):=hw40
           clear hw40
           replace hbx:=Blk.kp hbx hkl hbx.lt (by omega)
           replace hkr:=KRow.kp hkr hkl (by omega)
           replace hz39:=TrIn.kp hz39 hkl (by omega)
           refine hKK _ _ ?_
           clear hKK KK
           refine wpAny_ready (rs:=[6]) (by kernel_rfl) (by simp) ?_
           refine AllReady.cons rfl (fun KK hKK=>?_) AllReady.nil
           refine step_append_tree (n:=w1.heap.size) (x:=x) (m:=w34.heap.size) rfl (.tmp 25) (.tmp 29) rfl rfl rfl hkr hz39 (one_cells _ _ _ _ _ _ _) hown39 hxl39 hms39 (fun j y hj=>by rw [Hw40.out];exact new_cell _ _ _ _ j y rfl hj) (by have:=HF.out;omega) hK40.size hbx.lt ?_
           intro v41 w41 hkr41 hg41
           have hI41:=hI40.grownK hkr hg41 (by omega)
           have hK41:=hK40.grownK hkr hg41 (Nat.le_refl _)
           replace hbx:=hbx.grownK hkr hg41
           clear hkr hz39 hg41 Hw40 hal hkl hms39 hown39 hxl39
           have hkr:=hkr41
           clear hkr41
           obtain⟨rA41,rL41,rC41,rfl⟩:=hkr.form2
           refine hKK _ _ ?_
           clear hKK KK
           refine wpAny_ready (rs:=[7]) (by kernel_rfl) (by simp) ?_
           refine AllReady.cons rfl (fun KK hKK=>?_) AllReady.nil
           go_simp
           refine hKK _ _ ?_
           clear hKK KK
           refine wpAny_ready (rs:=[8]) (by kernel_rfl) (by simp) ?_
           refine AllReady.cons rfl (fun KK hKK=>?_) AllReady.nil
           obtain⟨c0,c1,c2,c3,c4,f0,f1,f2,f3,f4⟩:=hbx.cells
           go_simp
           clear c0 c1 c2 c3 c4 f0 f1 f2 f3 f4
           obtain⟨w42,hw⟩:∃ w0,w0=w41.setCell ⟨x,2,none⟩ (.slice rA41 rL41 rC41):=⟨_,rfl⟩
           rw [← hw]
           have hI42:r.In w42 (R39):=by rw [hw];exact hI41.put (by omega) _
           have hK42:Kp r.b w1 w42:=by rw [hw];exact hK41.setCell (.inr hxge) _
           have hs42:w42.heap.size=w41.heap.size:=by rw [hw];exact set_size _ _ _
           replace hbx:=Blk.set2 hbx (.slice rA41 rL41 rC41)
           replace hkr:=KRow.put (i:=2) hkr (.slice rA41 rL41 rC41)
           rw [← hw] at hbx hkr
           clear hw
           refine hKK _ _ ?_
           clear hKK KK
           refine wpAny_done (by kernel_rfl) ?_ _
           go_wp2_with fail
           go_roundg k
           case measure=>omega
           case rel=>exact⟨acc ++ [t39],R39,rA41,rL41,rC41,hbx,hkr,hI42,hK42,⟨by have:=HF.out;simp;omega,HX.out⟩⟩
          ·skip
           go_simp
           have hal:=below_alloc w39 (.cells #[.int .i64 (t39.kind:Nat),.string (bs t39.name),.slice ka39 t39.kids.length kc39,.slice na39 t39.names.length nc39,.int .i64 (t39.at_:Nat)] 26)
           have hkl:=Kp.of_below (b:=r.b) hal
           obtain⟨w43,hw43⟩:∃ w0,w0=w39.alloc (.cells #[.int .i64 (t39.kind:Nat),.string (bs t39.name),.slice ka39 t39.kids.length kc39,.slice na39 t39.names.length nc39,.int .i64 (t39.at_:Nat)] 26):=⟨_,rfl⟩
           rw [← hw43] at hal hkl ⊢
           have hI43:=hI39.below hal
           have hK43:=chainK hK39 hal
           have Hw43:Hid (_=_):=hw43
           clear hw43
           replace hbx:=Blk.kp hbx hkl hbx.lt (by omega)
           replace hkr:=KRow.kp hkr hkl (by omega)
           replace hz39:=TrIn.kp hz39 hkl (by omega)
           refine hKK _ _ ?_
           clear hKK KK
           refine wpAny_ready (rs:=[1]) (by kernel_rfl) (by simp) ?_
           refine AllReady.cons rfl (fun KK hKK=>?_) AllReady.nil
           obtain⟨c0,c1,c2,c3,c4,_⟩:=hbx.cells
           go_simp
           clear c0 c1 c2 c3 c4
           refine hKK _ _ ?_
           clear hKK KK
           refine wpAny_ready (rs:=[6]) (by kernel_rfl) (by simp) ?_
           refine AllReady.cons rfl (fun KK hKK=>?_) AllReady.nil
           refine step_append_tree (n:=w1.heap.size) (x:=x) (m:=w34.heap.size) rfl (.tmp 25) (.tmp 29) rfl rfl rfl hkr hz39 (one_cells _ _ _ _ _ _ _) hown39 hxl39 hms39 (fun j y hj=>by rw [Hw43.out];exact new_cell _ _ _ _ j y rfl hj) (by have:=HF.out;omega) hK43.size hbx.lt ?_
           intro v44 w44 hkr44 hg44
           have hI44:=hI43.grownK hkr hg44 (by omega)
           have hK44:=hK43.grownK hkr hg44 (Nat.le_refl _)
           replace hbx:=hbx.grownK hkr hg44
           clear hkr hz39 hg44 Hw43 hal hkl hms39 hown39 hxl39
           have hkr:=hkr44
           clear hkr44
           obtain⟨rA44,rL44,rC44,rfl⟩:=hkr.form2
           refine hKK _ _ ?_
           clear hKK KK
           refine wpAny_ready (rs:=[7]) (by kernel_rfl) (by simp) ?_
           refine AllReady.cons rfl (fun KK hKK=>?_) AllReady.nil
           go_simp
           refine hKK _ _ ?_
           clear hKK KK
           refine wpAny_ready (rs:=[8]) (by kernel_rfl) (by simp) ?_
           refine AllReady.cons rfl (fun KK hKK=>?_) AllReady.nil
           obtain⟨c0,c1,c2,c3,c4,f0,f1,f2,f3,f4⟩:=hbx.cells
           go_simp
           clear c0 c1 c2 c3 c4 f0 f1 f2 f3 f4
           obtain⟨w45,hw⟩:∃ w0,w0=w44.setCell ⟨x,2,none⟩ (.slice rA44 rL44 rC44):=⟨_,rfl⟩
           rw [← hw]
           have hI45:r.In w45 (R39):=by rw [hw];exact hI44.put (by omega) _
           have hK45:Kp r.b w1 w45:=by rw [hw];exact hK44.setCell (.inr hxge) _
           have hs45:w45.heap.size=w44.heap.size:=by rw [hw];exact set_size _ _ _
           replace hbx:=Blk.set2 hbx (.slice rA44 rL44 rC44)
           replace hkr:=KRow.put (i:=2) hkr (.slice rA44 rL44 rC44)
           rw [← hw] at hbx hkr
           clear hw
           refine hKK _ _ ?_
           clear hKK KK
           refine wpAny_done (by kernel_rfl) ?_ _
           go_wp2_with fail
           go_roundg k
           case measure=>omega
           case rel=>exact⟨acc ++ [t39],R39,rA44,rL44,rC44,hbx,hkr,hI45,hK45,⟨by have:=HF.out;simp;omega,HX.out⟩⟩
       | false =>
        have c:=take_any [44] (by simp) r w32 (R') hI32 hwf
        rw [hq] at c
        simp only [if_true,Bool.false_eq_true,if_false] at c
        rw [if_neg (neT hq)] at HX
        go_wp2_with fail
        refine c.mono ?_
        rintro e w46 ⟨rfl,hI46,hk46⟩
        have hK46:=hK32.trans hk46
        clear c hq
        replace hbx:=Blk.kp hbx hk46 hbx.lt (by omega)
        replace hkr:=KRow.kp hkr hk46 (by omega)
        have c:=must_any [93] (by simp) r w46 (R') hI46 hwf
        have hxl47:=hbx.lt
        have hown47:=hkr.own
        cases hq:mustP r.e [93] (R') using Rs.cs with
        | bad p y =>
         rw [hq] at c HX
         go_wp2_with fail
         refine c.mono ?_
         rintro e w47 ⟨rfl,hb⟩
         exact⟨rfl,rule_bad HX.out.symm hB1 hK46 hlt hb⟩
        | ok t47 R47 =>
         rw [hq] at c HX
         rw [bnd_ok] at HX
         go_wp2_with fail
         refine c.mono ?_
         rintro e w47 ⟨v47,rfl,rfl,hI47,hk47⟩
         have hK47:=hK46.trans hk47
         clear c hq
         replace hbx:=Blk.kp hbx hk47 hbx.lt (by omega)
         replace hkr:=KRow.kp hkr hk47 (by omega)
         obtain⟨c0,c1,c2,c3,c4,_⟩:=hbx.cells
         obtain⟨o0,o1,o2,o3,o4,z0,z1,z2,z3,z4⟩:=Blk.cells (hh1.kp hK47 hn1 hlt)
         go_wp2_with fail
         exact⟨rfl,.agg #[.int .i64 10,.string ⟨#[]⟩,.slice aA lA cA,.slice none 0 0,.int .i64 (atP r.e R:Nat)],by simp [results,Tryz.results86,go_sem, *],rule_end (n:=w.heap.size) HX.out.symm hB1 rfl hn1 hI47 hlt hK47 (TrIn.fromB (hkr.tree 10 [] [] (atP r.e R) (.nil none 0))) _ _ _ _ _⟩
    ·skip
     go_simp
     have hal:=below_alloc w28 (.cells #[.int .i64 (t28.kind:Nat),.string (bs t28.name),.slice ka28 t28.kids.length kc28,.slice na28 t28.names.length nc28,.int .i64 (t28.at_:Nat)] 26)
     have hkl:=Kp.of_below (b:=r.b) hal
     obtain⟨w48,hw48⟩:∃ w0,w0=w28.alloc (.cells #[.int .i64 (t28.kind:Nat),.string (bs t28.name),.slice ka28 t28.kids.length kc28,.slice na28 t28.names.length nc28,.int .i64 (t28.at_:Nat)] 26):=⟨_,rfl⟩
     rw [← hw48] at hal hkl ⊢
     have hI48:=hI28.below hal
     have hK48:=chainK hK28 hal
     have Hw48:Hid (_=_):=hw48
     clear hw48
     replace hbx:=Blk.kp hbx hkl hbx.lt (by omega)
     replace hkr:=KRow.kp hkr hkl (by omega)
     replace hz28:=TrIn.kp hz28 hkl (by omega)
     refine hKK _ _ ?_
     clear hKK KK
     refine wpAny_ready (rs:=[1]) (by kernel_rfl) (by simp) ?_
     refine AllReady.cons rfl (fun KK hKK=>?_) AllReady.nil
     obtain⟨c0,c1,c2,c3,c4,_⟩:=hbx.cells
     go_simp
     clear c0 c1 c2 c3 c4
     refine hKK _ _ ?_
     clear hKK KK
     refine wpAny_ready (rs:=[6]) (by kernel_rfl) (by simp) ?_
     refine AllReady.cons rfl (fun KK hKK=>?_) AllReady.nil
     refine step_append_tree (n:=w1.heap.size) (x:=x) (m:=w7.heap.size) rfl (.tmp 15) (.tmp 19) rfl rfl rfl hkr hz28 (one_cells _ _ _ _ _ _ _) hown28 hxl28 hms28 (fun j y hj=>by rw [Hw48.out];exact new_cell _ _ _ _ j y rfl hj) (by simp) hK48.size hbx.lt ?_
     intro v49 w49 hkr49 hg49
     have hI49:=hI48.grownK hkr hg49 (by omega)
     have hK49:=hK48.grownK hkr hg49 (Nat.le_refl _)
     replace hbx:=hbx.grownK hkr hg49
     clear hkr hz28 hg49 Hw48 hal hkl hms28 hown28 hxl28
     have hkr:=hkr49
     clear hkr49
     obtain⟨rA49,rL49,rC49,rfl⟩:=hkr.form2
     refine hKK _ _ ?_
     clear hKK KK
     refine wpAny_ready (rs:=[7]) (by kernel_rfl) (by simp) ?_
     refine AllReady.cons rfl (fun KK hKK=>?_) AllReady.nil
     go_simp
     refine hKK _ _ ?_
     clear hKK KK
     refine wpAny_ready (rs:=[8]) (by kernel_rfl) (by simp) ?_
     refine AllReady.cons rfl (fun KK hKK=>?_) AllReady.nil
     obtain⟨c0,c1,c2,c3,c4,f0,f1,f2,f3,f4⟩:=hbx.cells
     go_simp
     clear c0 c1 c2 c3 c4 f0 f1 f2 f3 f4
     obtain⟨w50,hw⟩:∃ w0,w0=w49.setCell ⟨x,2,none⟩ (.slice rA49 rL49 rC49):=⟨_,rfl⟩
     rw [← hw]
     have hI50:r.In w50 (R28):=by rw [hw];exact hI49.put (by omega) _
     have hK50:Kp r.b w1 w50:=by rw [hw];exact hK49.setCell (.inr hxge) _
     have hs50:w50.heap.size=w49.heap.size:=by rw [hw];exact set_size _ _ _
     replace hbx:=Blk.set2 hbx (.slice rA49 rL49 rC49)
     replace hkr:=KRow.put (i:=2) hkr (.slice rA49 rL49 rC49)
     rw [← hw] at hbx hkr
     clear hw
     refine hKK _ _ ?_
     clear hKK KK
     refine wpAny_done (by kernel_rfl) ?_ _
     go_wp2_with fail
     go_loopg [] f (fun k wr=>∃ acc R' aA lA cA,Blk wr x (.int .i64 10) (.string ⟨#[]⟩) (.slice aA lA cA) (.slice none 0 0) (.int .i64 (atP r.e R:Nat))∧KRow w1.heap.size x wr (.slice aA lA cA) acc∧r.In wr R'∧Kp r.b w1 wr∧Hid (acc.length+k≤f+1∧boxL r.e k l (atP r.e R) acc R'=X))
     case atStart=>exact⟨[t28],R28,rA49,rL49,rC49,hbx,hkr,hI50,hK50,⟨by simp;omega,HX.out⟩⟩
     case round =>
      obtain⟨acc,R',aA,lA,cA,hbx,hkr,hI51,hK51,HK⟩:=hrel
      clear HX
      cases gk with
      | zero=>exact absurd HK.out.2 (fun h=>by rw [boxL_z] at h;exact hNF 0 h.symm)
      | succ k =>
       have HX:Hid (_=X):=HK.out.2
       have HF:Hid (acc.length+(k+1)≤f+1):=HK.out.1
       rw [boxL_s] at HX
       clear HK
       obtain⟨w51,hw51⟩:∃ w0,w0=wr:=⟨_,rfl⟩
       subst hw51
       cases hq:sees [44] (R') with
       | true =>
        have c:=take_any [44] (by simp) r w51 (R') hI51 hwf
        rw [hq] at c
        simp only [if_true,Bool.false_eq_true,if_false] at c
        rw [if_pos hq] at HX
        go_wp2_with fail
        refine c.mono ?_
        rintro e w52 ⟨rfl,hI52,hk52⟩
        have hK52:=hK51.trans hk52
        clear c hq
        replace hbx:=Blk.kp hbx hk52 hbx.lt (by omega)
        replace hkr:=KRow.kp hkr hk52 (by omega)
        go_wp2_with fail
        obtain⟨w53,hw53⟩:∃ w0,w0=w52.drew:=⟨_,rfl⟩
        have hB53:Below w52.heap.size w52 w53:=by rw [hw53];exact Below.drew (Below.refl _ _)
        have hI53:=hI52.below hB53
        have hK53:=chainK hK52 hB53
        have hk53:=Kp.of_below (b:=r.b) hB53
        refine wp_region_any (by kernel_rfl) ?_
        change wpAny _ _ _ _ _ _ _ (World.drew _)
        rw [← hw53]
        clear hw53
        replace hbx:=Blk.kp hbx hk53 hbx.lt (by omega)
        replace hkr:=KRow.kp hkr hk53 (by omega)
        clear hB53 hk53
        refine wpAny_take (i:=0) (v:=.pointer (some ⟨x,2,none⟩)) rfl (by kernel_rfl) (by kernel_rfl) (by kernel_rfl) (fun _ _ _ h=>h) (Or.inl ⟨by rfl,fun w=>by go_simp⟩) ?_
        simp only [Act.put,List.setIfInBounds_toArray,List.set_cons_zero,List.set_cons_succ]
        refine wpAny_take (i:=2) (v:=r.ptr) rfl (by kernel_rfl) (by kernel_rfl) (by kernel_rfl) (fun _ _ _ h=>h) (Or.inl ⟨by rfl,fun w=>by go_simp⟩) ?_
        simp only [Act.put,List.setIfInBounds_toArray,List.set_cons_zero,List.set_cons_succ]
        refine wpAny_take (i:=3) (v:=.int .i64 (l:Nat)) rfl (by kernel_rfl) (by kernel_rfl) (by kernel_rfl) (fun _ _ _ h=>h) (Or.inl ⟨by rfl,fun w=>by go_simp⟩) ?_
        simp only [Act.put,List.setIfInBounds_toArray,List.set_cons_zero,List.set_cons_succ]
        refine wpAny_ready (rs:=[1,4]) (by kernel_rfl) (by simp) ?_
        refine AllReady.cons rfl (fun KK hKK=>?_) (AllReady.cons rfl (fun KK hKK=>?_) AllReady.nil)
        ·skip
         obtain⟨c0,c1,c2,c3,c4,_⟩:=hbx.cells
         go_simp
         clear c0 c1 c2 c3 c4
         refine hKK _ _ ?_
         clear hKK KK
         refine wpAny_ready (rs:=[4]) (by kernel_rfl) (by simp) ?_
         refine AllReady.cons rfl (fun KK hKK=>?_) AllReady.nil
         go_simp
         have hN54:NF (elemP r.e k l ((R').tail)):=NF.left (by have h:=hNF;rw [← HX.out] at h;exact h)
         have c:=ihe k (by have:=HF.out;omega) l ((R').tail) w53 (by omega) hI53 hN54
         have hxl54:=hbx.lt
         have hown54:=hkr.own
         cases hq:elemP r.e k l ((R').tail) using Rs.cs with
         | bad p y =>
          rw [hq] at c HX
          refine c.mono ?_
          rintro e w54 ⟨rfl,hb⟩
          exact⟨rfl,rule_bad HX.out.symm hB1 hK53 hlt hb⟩
         | ok t54 R54 =>
          rw [hq] at c HX
          rw [bnd_ok] at HX
          refine c.mono ?_
          rintro e w54 ⟨v54,rfl,ht54,hI54,hk54⟩
          have hK54:=hK53.trans hk54
          clear c hq
          replace hbx:=Blk.kp hbx hk54 hbx.lt (by omega)
          replace hkr:=KRow.kp hkr hk54 (by omega)
          have hz54:=ht54
          have hms54:=hK53.size
          clear ht54
          obtain⟨vk54,vn54,rfl,hf54,ka54,kc54,rfl⟩:=TrIn.form hz54
          obtain⟨na54,nc54,rfl⟩:=hf54.form
          clear hf54
          refine hKK _ _ ?_
          clear hKK KK
          refine wpAny_ready (rs:=[5]) (by kernel_rfl) (by simp) ?_
          refine AllReady.cons rfl (fun KK hKK=>?_) AllReady.nil
          go_simp
          have hal:=below_alloc w54 (.cells #[.int .i64 (t54.kind:Nat),.string (bs t54.name),.slice ka54 t54.kids.length kc54,.slice na54 t54.names.length nc54,.int .i64 (t54.at_:Nat)] 26)
          have hkl:=Kp.of_below (b:=r.b) hal
          obtain⟨w55,hw55⟩:∃ w0,w0=w54.alloc (.cells #[.int .i64 (t54.kind:Nat),.string (bs t54.name),.slice ka54 t54.kids.length kc54,.slice na54 t54.names.length nc54,.int .i64 (t54.at_:Nat)] 26):=⟨_,rfl⟩
          rw [← hw55] at hal hkl ⊢
          have hI55:=hI54.below hal
          have hK55:=chainK hK54 hal
          have Hw55:Hid (_=_):=hw55
          clear hw55
          replace hbx:=Blk.kp hbx hkl hbx.lt (by omega)
          replace hkr:=KRow.kp hkr hkl (by omega)
          replace hz54:=TrIn.kp hz54 hkl (by omega)
          refine hKK _ _ ?_
          clear hKK KK
          refine wpAny_ready (rs:=[6]) (by kernel_rfl) (by simp) ?_
          refine AllReady.cons rfl (fun KK hKK=>?_) AllReady.nil
          refine step_append_tree (n:=w1.heap.size) (x:=x) (m:=w53.heap.size) rfl (.tmp 25) (.tmp 29) rfl rfl rfl hkr hz54 (one_cells _ _ _ _ _ _ _) hown54 hxl54 hms54 (fun j y hj=>by rw [Hw55.out];exact new_cell _ _ _ _ j y rfl hj) (by have:=HF.out;omega) hK55.size hbx.lt ?_
          intro v56 w56 hkr56 hg56
          have hI56:=hI55.grownK hkr hg56 (by omega)
          have hK56:=hK55.grownK hkr hg56 (Nat.le_refl _)
          replace hbx:=hbx.grownK hkr hg56
          clear hkr hz54 hg56 Hw55 hal hkl hms54 hown54 hxl54
          have hkr:=hkr56
          clear hkr56
          obtain⟨rA56,rL56,rC56,rfl⟩:=hkr.form2
          refine hKK _ _ ?_
          clear hKK KK
          refine wpAny_ready (rs:=[7]) (by kernel_rfl) (by simp) ?_
          refine AllReady.cons rfl (fun KK hKK=>?_) AllReady.nil
          go_simp
          refine hKK _ _ ?_
          clear hKK KK
          refine wpAny_ready (rs:=[8]) (by kernel_rfl) (by simp) ?_
          refine AllReady.cons rfl (fun KK hKK=>?_) AllReady.nil
          obtain⟨c0,c1,c2,c3,c4,f0,f1,f2,f3,f4⟩:=hbx.cells
          go_simp
          clear c0 c1 c2 c3 c4 f0 f1 f2 f3 f4
          obtain⟨w57,hw⟩:∃ w0,w0=w56.setCell ⟨x,2,none⟩ (.slice rA56 rL56 rC56):=⟨_,rfl⟩
          rw [← hw]
          have hI57:r.In w57 (R54):=by rw [hw];exact hI56.put (by omega) _
          have hK57:Kp r.b w1 w57:=by rw [hw];exact hK56.setCell (.inr hxge) _
          have hs57:w57.heap.size=w56.heap.size:=by rw [hw];exact set_size _ _ _
          replace hbx:=Blk.set2 hbx (.slice rA56 rL56 rC56)
          replace hkr:=KRow.put (i:=2) hkr (.slice rA56 rL56 rC56)
          rw [← hw] at hbx hkr
          clear hw
          refine hKK _ _ ?_
          clear hKK KK
          refine wpAny_done (by kernel_rfl) ?_ _
          go_wp2_with fail
          go_roundg k
          case measure=>omega
          case rel=>exact⟨acc ++ [t54],R54,rA56,rL56,rC56,hbx,hkr,hI57,hK57,⟨by have:=HF.out;simp;omega,HX.out⟩⟩
        ·skip
         go_simp
         have hN58:NF (elemP r.e k l ((R').tail)):=NF.left (by have h:=hNF;rw [← HX.out] at h;exact h)
         have c:=ihe k (by have:=HF.out;omega) l ((R').tail) w53 (by omega) hI53 hN58
         have hxl58:=hbx.lt
         have hown58:=hkr.own
         cases hq:elemP r.e k l ((R').tail) using Rs.cs with
         | bad p y =>
          rw [hq] at c HX
          refine c.mono ?_
          rintro e w58 ⟨rfl,hb⟩
          exact⟨rfl,rule_bad HX.out.symm hB1 hK53 hlt hb⟩
         | ok t58 R58 =>
          rw [hq] at c HX
          rw [bnd_ok] at HX
          refine c.mono ?_
          rintro e w58 ⟨v58,rfl,ht58,hI58,hk58⟩
          have hK58:=hK53.trans hk58
          clear c hq
          replace hbx:=Blk.kp hbx hk58 hbx.lt (by omega)
          replace hkr:=KRow.kp hkr hk58 (by omega)
          have hz58:=ht58
          have hms58:=hK53.size
          clear ht58
          obtain⟨vk58,vn58,rfl,hf58,ka58,kc58,rfl⟩:=TrIn.form hz58
          obtain⟨na58,nc58,rfl⟩:=hf58.form
          clear hf58
          refine hKK _ _ ?_
          clear hKK KK
          refine wpAny_ready (rs:=[1,5]) (by kernel_rfl) (by simp) ?_
          refine AllReady.cons rfl (fun KK hKK=>?_) (AllReady.cons rfl (fun KK hKK=>?_) AllReady.nil)
          ·skip
           obtain⟨c0,c1,c2,c3,c4,_⟩:=hbx.cells
           go_simp
           clear c0 c1 c2 c3 c4
           refine hKK _ _ ?_
           clear hKK KK
           refine wpAny_ready (rs:=[5]) (by kernel_rfl) (by simp) ?_
           refine AllReady.cons rfl (fun KK hKK=>?_) AllReady.nil
           go_simp
           have hal:=below_alloc w58 (.cells #[.int .i64 (t58.kind:Nat),.string (bs t58.name),.slice ka58 t58.kids.length kc58,.slice na58 t58.names.length nc58,.int .i64 (t58.at_:Nat)] 26)
           have hkl:=Kp.of_below (b:=r.b) hal
           obtain⟨w59,hw59⟩:∃ w0,w0=w58.alloc (.cells #[.int .i64 (t58.kind:Nat),.string (bs t58.name),.slice ka58 t58.kids.length kc58,.slice na58 t58.names.length nc58,.int .i64 (t58.at_:Nat)] 26):=⟨_,rfl⟩
           rw [← hw59] at hal hkl ⊢
           have hI59:=hI58.below hal
           have hK59:=chainK hK58 hal
           have Hw59:Hid (_=_):=hw59
           clear hw59
           replace hbx:=Blk.kp hbx hkl hbx.lt (by omega)
           replace hkr:=KRow.kp hkr hkl (by omega)
           replace hz58:=TrIn.kp hz58 hkl (by omega)
           refine hKK _ _ ?_
           clear hKK KK
           refine wpAny_ready (rs:=[6]) (by kernel_rfl) (by simp) ?_
           refine AllReady.cons rfl (fun KK hKK=>?_) AllReady.nil
           refine step_append_tree (n:=w1.heap.size) (x:=x) (m:=w53.heap.size) rfl (.tmp 25) (.tmp 29) rfl rfl rfl hkr hz58 (one_cells _ _ _ _ _ _ _) hown58 hxl58 hms58 (fun j y hj=>by rw [Hw59.out];exact new_cell _ _ _ _ j y rfl hj) (by have:=HF.out;omega) hK59.size hbx.lt ?_
           intro v60 w60 hkr60 hg60
           have hI60:=hI59.grownK hkr hg60 (by omega)
           have hK60:=hK59.grownK hkr hg60 (Nat.le_refl _)
           replace hbx:=hbx.grownK hkr hg60
           clear hkr hz58 hg60 Hw59 hal hkl hms58 hown58 hxl58
           have hkr:=hkr60
           clear hkr60
           obtain⟨rA60,rL60,rC60,rfl⟩:=hkr.form2
           refine hKK _ _ ?_
           clear hKK KK
           refine wpAny_ready (rs:=[7]) (by kernel_rfl) (by simp) ?_
           refine AllReady.cons rfl (fun KK hKK=>?_) AllReady.nil
           go_simp
           refine hKK _ _ ?_
           clear hKK KK
           refine wpAny_ready (rs:=[8]) (by kernel_rfl) (by simp) ?_
           refine AllReady.cons rfl (fun KK hKK=>?_) AllReady.nil
           obtain⟨c0,c1,c2,c3,c4,f0,f1,f2,f3,f4⟩:=hbx.cells
           go_simp
           clear c0 c1 c2 c3 c4 f0 f1 f2 f3 f4
           obtain⟨w61,hw⟩:∃ w0,w0=w60.setCell ⟨x,2,none⟩ (.slice rA60 rL60 rC60):=⟨_,rfl⟩
           rw [← hw]
           have hI61:r.In w61 (R58):=by rw [hw];exact hI60.put (by omega) _
           have hK61:Kp r.b w1 w61:=by rw [hw];exact hK60.setCell (.inr hxge) _
           have hs61:w61.heap.size=w60.heap.size:=by rw [hw];exact set_size _ _ _
           replace hbx:=Blk.set2 hbx (.slice rA60 rL60 rC60)
           replace hkr:=KRow.put (i:=2) hkr (.slice rA60 rL60 rC60)
           rw [← hw] at hbx hkr
           clear hw
           refine hKK _ _ ?_
           clear hKK KK
           refine wpAny_done (by kernel_rfl) ?_ _
           go_wp2_with fail
           go_roundg k
           case measure=>omega
           case rel=>exact⟨acc ++ [t58],R58,rA60,rL60,rC60,hbx,hkr,hI61,hK61,⟨by have:=HF.out;simp;omega,HX.out⟩⟩
          ·skip
           go_simp
           have hal:=below_alloc w58 (.cells #[.int .i64 (t58.kind:Nat),.string (bs t58.name),.slice ka58 t58.kids.length kc58,.slice na58 t58.names.length nc58,.int .i64 (t58.at_:Nat)] 26)
           have hkl:=Kp.of_below (b:=r.b) hal
           obtain⟨w62,hw62⟩:∃ w0,w0=w58.alloc (.cells #[.int .i64 (t58.kind:Nat),.string (bs t58.name),.slice ka58 t58.kids.length kc58,.slice na58 t58.names.length nc58,.int .i64 (t58.at_:Nat)] 26):=⟨_,rfl⟩
           rw [← hw62] at hal hkl ⊢
           have hI62:=hI58.below hal
           have hK62:=chainK hK58 hal
           have Hw62:Hid (_=_):=hw62
           clear hw62
           replace hbx:=Blk.kp hbx hkl hbx.lt (by omega)
           replace hkr:=KRow.kp hkr hkl (by omega)
           replace hz58:=TrIn.kp hz58 hkl (by omega)
           refine hKK _ _ ?_
           clear hKK KK
           refine wpAny_ready (rs:=[1]) (by kernel_rfl) (by simp) ?_
           refine AllReady.cons rfl (fun KK hKK=>?_) AllReady.nil
           obtain⟨c0,c1,c2,c3,c4,_⟩:=hbx.cells
           go_simp
           clear c0 c1 c2 c3 c4
           refine hKK _ _ ?_
           clear hKK KK
           refine wpAny_ready (rs:=[6]) (by kernel_rfl) (by simp) ?_
           refine AllReady.cons rfl (fun KK hKK=>?_) AllReady.nil
           refine step_append_tree (n:=w1.heap.size) (x:=x) (m:=w53.heap.size) rfl (.tmp 25) (.tmp 29) rfl rfl rfl hkr hz58 (one_cells _ _ _ _ _ _ _) hown58 hxl58 hms58 (fun j y hj=>by rw [Hw62.out];exact new_cell _ _ _ _ j y rfl hj) (by have:=HF.out;omega) hK62.size hbx.lt ?_
           intro v63 w63 hkr63 hg63
           have hI63:=hI62.grownK hkr hg63 (by omega)
           have hK63:=hK62.grownK hkr hg63 (Nat.le_refl _)
           replace hbx:=hbx.grownK hkr hg63
           clear hkr hz58 hg63 Hw62 hal hkl hms58 hown58 hxl58
           have hkr:=hkr63
           clear hkr63
           obtain⟨rA63,rL63,rC63,rfl⟩:=hkr.form2
           refine hKK _ _ ?_
           clear hKK KK
           refine wpAny_ready (rs:=[7]) (by kernel_rfl) (by simp) ?_
           refine AllReady.cons rfl (fun KK hKK=>?_) AllReady.nil
           go_simp
           refine hKK _ _ ?_
           clear hKK KK
           refine wpAny_ready (rs:=[8]) (by kernel_rfl) (by simp) ?_
           refine AllReady.cons rfl (fun KK hKK=>?_) AllReady.nil
           obtain⟨c0,c1,c2,c3,c4,f0,f1,f2,f3,f4⟩:=hbx.cells
           go_simp
           clear c0 c1 c2 c3 c4 f0 f1 f2 f3 f4
           obtain⟨w64,hw⟩:∃ w0,w0=w63.setCell ⟨x,2,none⟩ (.slice rA63 rL63 rC63):=⟨_,rfl⟩
           rw [← hw]
           have hI64:r.In w64 (R58):=by rw [hw];exact hI63.put (by omega) _
           have hK64:Kp r.b w1 w64:=by rw [hw];exact hK63.setCell (.inr hxge) _
           have hs64:w64.heap.size=w63.heap.size:=by rw [hw];exact set_size _ _ _
           replace hbx:=Blk.set2 hbx (.slice rA63 rL63 rC63)
           replace hkr:=KRow.put (i:=2) hkr (.slice rA63 rL63 rC63)
           rw [← hw] at hbx hkr
           clear hw
           refine hKK _ _ ?_
           clear hKK KK
           refine wpAny_done (by kernel_rfl) ?_ _
           go_wp2_with fail
           go_roundg k
           case measure=>omega
           case rel=>exact⟨acc ++ [t58],R58,rA63,rL63,rC63,hbx,hkr,hI64,hK64,⟨by have:=HF.out;simp;omega,HX.out⟩⟩
       | false =>
        have c:=take_any [44] (by simp) r w51 (R') hI51 hwf
        rw [hq] at c
        simp only [if_true,Bool.false_eq_true,if_false] at c
        rw [if_neg (neT hq)] at HX
        go_wp2_with fail
        refine c.mono ?_
        rintro e w65 ⟨rfl,hI65,hk65⟩
        have hK65:=hK51.trans hk65
        clear c hq
        replace hbx:=Blk.kp hbx hk65 hbx.lt (by omega)
        replace hkr:=KRow.kp hkr hk65 (by omega)
        have c:=must_any [93] (by simp) r w65 (R') hI65 hwf
        have hxl66:=hbx.lt
        have hown66:=hkr.own
        cases hq:mustP r.e [93] (R') using Rs.cs with
        | bad p y =>
         rw [hq] at c HX
         go_wp2_with fail
         refine c.mono ?_
         rintro e w66 ⟨rfl,hb⟩
         exact⟨rfl,rule_bad HX.out.symm hB1 hK65 hlt hb⟩
        | ok t66 R66 =>
         rw [hq] at c HX
         rw [bnd_ok] at HX
         go_wp2_with fail
         refine c.mono ?_
         rintro e w66 ⟨v66,rfl,rfl,hI66,hk66⟩
         have hK66:=hK65.trans hk66
         clear c hq
         replace hbx:=Blk.kp hbx hk66 hbx.lt (by omega)
         replace hkr:=KRow.kp hkr hk66 (by omega)
         obtain⟨c0,c1,c2,c3,c4,_⟩:=hbx.cells
         obtain⟨o0,o1,o2,o3,o4,z0,z1,z2,z3,z4⟩:=Blk.cells (hh1.kp hK66 hn1 hlt)
         go_wp2_with fail
         exact⟨rfl,.agg #[.int .i64 10,.string ⟨#[]⟩,.slice aA lA cA,.slice none 0 0,.int .i64 (atP r.e R:Nat)],by simp [results,Tryz.results86,go_sem, *],rule_end (n:=w.heap.size) HX.out.symm hB1 rfl hn1 hI66 hlt hK66 (TrIn.fromB (hkr.tree 10 [] [] (atP r.e R) (.nil none 0))) _ _ _ _ _⟩
end Go.Proofs.YtahnbigkdfmpbaaGreatDoor
