/- Dims: dim. Terms that bind. -/
import Derived.Test.YtahnbigkdfmpbaaGreatDoorIPA
import Derived.Deep.RegionWith
import Derived.Test.YtahnbigkdfmpbaaGreatDoorIPRow
set_option linter.unusedVariables false
set_option linter.unusedSimpArgs false
namespace Go.Proofs.YtahnbigkdfmpbaaGreatDoor
open Go.RowKit
theorem neT {b:Bool} (h:b=false):¬ b=true:=by rw [h];simp
theorem nameP_t {e:Nat} {R:Ts} (h:isN R=true):nameP e R=.ok (txt R) R.tail:=by rw [nameP,if_pos h]
theorem mustP_t {e:Nat} {s:Bs} {R:Ts} (h:sees s R=true):mustP e s R=.ok () R.tail:=by rw [mustP,if_pos h]
theorem NmIn.from {n m:Nat} {w:World} {t:List Bs} {v:Value} (h:NmIn (From n) w t v) (hn:m≤n):NmIn (From m) w t v:=h.keep (Nat.le_refl _) (fun _ h=>Nat.le_trans hn h) (fun _ _ _=>rfl)
set_option maxRecDepth 100000 in
set_option maxHeartbeats 4000000 in
theorem dim_step (r:Rdr) (hwf:r.wf) (f:Nat) (ihd:RuleC r 64 (dimP r.e f)) (ihj:RuleC r 88 (joinP r.e f)):RuleC r 64 (dimP r.e (f+1)):=by
 intro l R w hl hR hNF
 obtain⟨X,hX⟩:∃ X,dimP r.e (f+1) l R=X:=⟨_,rfl⟩
 rw [hX] at hNF ⊢
 rw [dimP_s,enterQ_eq] at hX
 have HX:Hid (_=X):=hX
 clear hX
 have hlt:=hR.lt.2
 obtain⟨w1,hw1⟩:∃ w1,w1=(w.alloc (.cells #[.int .i64 0,.string ⟨#[]⟩,.slice none 0 0,.slice none 0 0,.int .i64 0] 26)).alloc (.cells #[.string ⟨#[48]⟩,.string ⟨#[49]⟩,.string ⟨#[126]⟩,.string ⟨#[40]⟩] 9):=⟨_,rfl⟩
 have hB1:Below w.heap.size w w1:=by rw [hw1];exact chain (below_alloc _ _) (below_alloc _ _)
 have hh1:Hole w1 w.heap.size:=by rw [hw1];exact (hole_new w).blw (below_alloc _ _) (by simp)
 have hn1:w.heap.size<w1.heap.size:=by rw [hw1];simp;omega
 have hI1:=hR.below hB1
 have hK1:=Kp.refl r.b w1
 have cE:=enter_any [[48],[49],[126],[40]] l (w.heap.size+1) 4 r w1 R hI1 hwf (by omega) (by simp) (by rw [hw1];exact cells_signs4 _ [48] [49] [126] [40] _ (by simp)) (by rw [hw1];simp)
 have Hw1:Hid (_=_):=hw1
 clear hw1
 go_enter Tryz.func64,Tryz.ntmps64
 go_wp2_with fail
 rw [← Hw1.out]
 clear Hw1
 cases hq:enterU r.e l [[48],[49],[126],[40]] R using Rs.cs with
 | bad p x =>
  rw [hq] at cE HX
  refine cE.mono ?_
  rintro e w2 ⟨rfl,hb⟩
  exact⟨rfl,rule_bad HX.out.symm hB1 hK1 hlt hb⟩
 | ok a R' =>
  rw [hq] at cE HX
  obtain⟨rfl,hl2⟩:=enterU_ok hq
  rw [bnd_ok] at HX
  refine cE.mono ?_
  rintro e w2 ⟨v,rfl,rfl,hI2,hK2⟩
  clear cE hq
  go_wp2_with fail
  refine (at_any r w2 (R') hI2 hwf).mono ?_
  rintro e w3 ⟨rfl,hb3⟩
  have hI3:=hI2.below hb3
  have hK3:=chainK hK2 hb3
  clear hb3
  cases hq:isN R' with
  | true =>
   have c:=seesName_any r w3 (R') hI3 hwf
   rw [hq] at c
   rw [if_pos hq] at HX
   go_wp2_with fail
   refine (c).mono ?_
   rintro e w4 ⟨rfl,hb4⟩
   have hI4:=hI3.below hb4
   have hK4:=chainK hK3 hb4
   clear hb4
   have hqn:=hq
   clear c hq
   have c:=name_any r w4 (R') hI4 hwf
   rw [nameP_t hqn] at c
   go_wp2_with fail
   refine c.mono ?_
   rintro e w5 ⟨v5,rfl,rfl,hI5,hk5⟩
   have hK5:=hK4.trans hk5
   clear c
   obtain⟨o0,o1,o2,o3,o4,z0,z1,z2,z3,z4⟩:=Blk.cells ((hh1.kp hK5 hn1 hlt))
   go_wp2_with fail
   exact⟨rfl,.agg #[.int .i64 1,.string (bs (txt R')),.slice none 0 0,.slice none 0 0,.int .i64 (atP r.e R':Nat)],by simp [results,Tryz.results64,go_sem, *],rule_end (n:=w.heap.size) HX.out.symm hB1 rfl hn1 hI5 hlt hK5 (.leaf 1 (txt R') [] (atP r.e R') none 0 _ (.nil none 0)) _ _ _ _ _⟩
  | false =>
   have c:=seesName_any r w3 (R') hI3 hwf
   rw [hq] at c
   rw [if_neg (neT hq)] at HX
   go_wp2_with fail
   refine (c).mono ?_
   rintro e w6 ⟨rfl,hb6⟩
   have hI6:=hI3.below hb6
   have hK6:=chainK hK3 hb6
   clear hb6
   clear c hq
   cases hq:sees [126] (R') with
   | true =>
    have c:=take_any [126] (by simp) r w6 (R') hI6 hwf
    rw [hq] at c
    simp only [if_true,Bool.false_eq_true,if_false] at c
    rw [if_pos hq] at HX
    go_wp2_with fail
    refine c.mono ?_
    rintro e w7 ⟨rfl,hI7,hk7⟩
    have hK7:=hK6.trans hk7
    clear c hq
    have hN8:NF (dimP r.e f (l+1) ((R').tail)):=NF.left (by have h:=hNF;rw [← HX.out] at h;exact h)
    have c:=ihd (l+1) ((R').tail) w7 (by omega) hI7 hN8
    rw [castS] at c
    cases hq:dimP r.e f (l+1) ((R').tail) using Rs.cs with
    | bad p x =>
     rw [hq] at c HX
     go_wp2_with fail
     refine c.mono ?_
     rintro e w8 ⟨rfl,hb⟩
     exact⟨rfl,rule_bad HX.out.symm hB1 hK7 hlt hb⟩
    | ok t8 R8 =>
     rw [hq] at c HX
     rw [bnd_ok] at HX
     go_wp2_with fail
     refine c.mono ?_
     rintro e w8 ⟨v8,rfl,ht8,hI8,hk8⟩
     have hK8:=hK7.trans hk8
     clear c hq
     replace ht8:=TrIn.from ht8 hK7.size
     obtain⟨vk8,vn8,rfl,hf8,ka8,kc8,rfl⟩:=TrIn.form ht8
     obtain⟨na8,nc8,rfl⟩:=hf8.form
     clear hf8
     obtain⟨o0,o1,o2,o3,o4,z0,z1,z2,z3,z4⟩:=Blk.cells ((hh1.kp hK8 hn1 hlt).blw (below_alloc w8 (.cells #[.int .i64 (t8.kind:Nat),.string (bs t8.name),.slice ka8 t8.kids.length kc8,.slice na8 t8.names.length nc8,.int .i64 (t8.at_:Nat)] 26)) (by have:=hK8.size;omega))
     go_wp2_with fail
     exact⟨rfl,.agg #[.int .i64 16,.string ⟨#[]⟩,.slice (some ⟨w8.heap.size,0,none⟩) 1 1,.slice none 0 0,.int .i64 (atP r.e R':Nat)],by simp [results,Tryz.results64,go_sem, *],rule_one (n:=w.heap.size) (k:=16) (nm:=[]) (ns:=[]) HX.out.symm hB1 rfl hn1 hI8 hlt hK8 ht8 (.nil none 0) _ _ _ _ _⟩
   | false =>
    have c:=take_any [126] (by simp) r w6 (R') hI6 hwf
    rw [hq] at c
    simp only [if_true,Bool.false_eq_true,if_false] at c
    rw [if_neg (neT hq)] at HX
    go_wp2_with fail
    refine c.mono ?_
    rintro e w9 ⟨rfl,hI9,hk9⟩
    have hK9:=hK6.trans hk9
    clear c hq
    cases hq:sees [40] (R') with
    | true =>
     have c:=take_any [40] (by simp) r w9 (R') hI9 hwf
     rw [hq] at c
     simp only [if_true,Bool.false_eq_true,if_false] at c
     rw [if_pos hq] at HX
     go_wp2_with fail
     refine c.mono ?_
     rintro e w10 ⟨rfl,hI10,hk10⟩
     have hK10:=hK9.trans hk10
     clear c hq
     have hN11:NF (joinP r.e f (l+1) ((R').tail)):=NF.left (by have h:=hNF;rw [← HX.out] at h;exact h)
     have c:=ihj (l+1) ((R').tail) w10 (by omega) hI10 hN11
     rw [castS] at c
     cases hq:joinP r.e f (l+1) ((R').tail) using Rs.cs with
     | bad p x =>
      rw [hq] at c HX
      go_wp2_with fail
      refine c.mono ?_
      rintro e w11 ⟨rfl,hb⟩
      exact⟨rfl,rule_bad HX.out.symm hB1 hK10 hlt hb⟩
     | ok t11 R11 =>
      rw [hq] at c HX
      rw [bnd_ok] at HX
      go_wp2_with fail
      refine c.mono ?_
      rintro e w11 ⟨v11,rfl,ht11,hI11,hk11⟩
      have hK11:=hK10.trans hk11
      clear c hq
      replace ht11:=TrIn.from ht11 hK10.size
      obtain⟨vk11,vn11,rfl,hf11,ka11,kc11,rfl⟩:=TrIn.form ht11
      obtain⟨na11,nc11,rfl⟩:=hf11.form
      clear hf11
      have hal:=below_alloc w11 (.cells #[.int .i64 (t11.kind:Nat),.string (bs t11.name),.slice ka11 t11.kids.length kc11,.slice na11 t11.names.length nc11,.int .i64 (t11.at_:Nat)] 26)
      have hb0:=blk_new w11 (.int .i64 (t11.kind:Nat)) (.string (bs t11.name)) (.slice ka11 t11.kids.length kc11) (.slice na11 t11.names.length nc11) (.int .i64 (t11.at_:Nat))
      go_wp2_with fail
      obtain⟨w12,hw⟩:∃ w0,w0=w11.alloc (.cells #[.int .i64 (t11.kind:Nat),.string (bs t11.name),.slice ka11 t11.kids.length kc11,.slice na11 t11.names.length nc11,.int .i64 (t11.at_:Nat)] 26):=⟨_,rfl⟩
      rw [← hw] at hal hb0 ⊢
      have hn12:w11.heap.size<w12.heap.size:=by rw [hw];simp
      clear hw
      have hI12:=hI11.below hal
      have hK12:=chainK hK11 hal
      replace ht11:=TrIn.blw ht11 hal
      have c:=must_any [41] (by simp) r w12 (R11) hI12 hwf
      cases hq:mustP r.e [41] (R11) using Rs.cs with
      | bad p x =>
       rw [hq] at c HX
       go_wp2_with fail
       refine c.mono ?_
       rintro e w13 ⟨rfl,hb⟩
       exact⟨rfl,rule_bad HX.out.symm hB1 hK12 hlt hb⟩
      | ok t13 R13 =>
       rw [hq] at c HX
       rw [bnd_ok] at HX
       go_wp2_with fail
       refine c.mono ?_
       rintro e w13 ⟨v13,rfl,rfl,hI13,hk13⟩
       have hK13:=hK12.trans hk13
       clear c hq
       obtain⟨p0,p1,p2,p3,p4,q0,q1,q2,q3,q4⟩:=Blk.cells (hb0.kp hk13 hn12 (by have:=hK11.size;omega))
       clear q0 q1 q2 q3 q4
       obtain⟨o0,o1,o2,o3,o4,z0,z1,z2,z3,z4⟩:=Blk.cells ((hh1.kp hK13 hn1 hlt))
       replace ht11:=TrIn.kp ht11 hk13 (by omega)
       go_wp2_with fail
       exact⟨rfl,.agg #[.int .i64 (t11.kind:Nat),.string (bs t11.name),.slice ka11 t11.kids.length kc11,.slice na11 t11.names.length nc11,.int .i64 (t11.at_:Nat)],by simp [results,Tryz.results64,go_sem, *],rule_end (n:=w.heap.size) HX.out.symm hB1 rfl hn1 hI13 hlt hK13 ht11 _ _ _ _ _⟩
    | false =>
     have c:=take_any [40] (by simp) r w9 (R') hI9 hwf
     rw [hq] at c
     simp only [if_true,Bool.false_eq_true,if_false] at c
     rw [if_neg (neT hq)] at HX
     go_wp2_with fail
     refine c.mono ?_
     rintro e w14 ⟨rfl,hI14,hk14⟩
     have hK14:=hK9.trans hk14
     clear c hq
     have c:=digit_any r w14 (R') hI14 hwf
     cases hq:digitP r.e (R') using Rs.cs with
     | bad p x =>
      rw [hq] at c HX
      go_wp2_with fail
      refine c.mono ?_
      rintro e w15 ⟨rfl,hb⟩
      exact⟨rfl,rule_bad HX.out.symm hB1 hK14 hlt hb⟩
     | ok t15 R15 =>
      rw [hq] at c HX
      rw [bnd_ok] at HX
      go_wp2_with fail
      refine c.mono ?_
      rintro e w15 ⟨v15,rfl,rfl,hI15,hk15⟩
      have hK15:=hK14.trans hk15
      clear c hq
      obtain⟨o0,o1,o2,o3,o4,z0,z1,z2,z3,z4⟩:=Blk.cells ((hh1.kp hK15 hn1 hlt))
      go_wp2_with fail
      exact⟨rfl,.agg #[.int .i64 17,.string (bs (t15)),.slice none 0 0,.slice none 0 0,.int .i64 (atP r.e R':Nat)],by simp [results,Tryz.results64,go_sem, *],rule_end (n:=w.heap.size) HX.out.symm hB1 rfl hn1 hI15 hlt hK15 (.leaf 17 (t15) [] (atP r.e R') none 0 _ (.nil none 0)) _ _ _ _ _⟩
end Go.Proofs.YtahnbigkdfmpbaaGreatDoor
namespace Go.Proofs.YtahnbigkdfmpbaaGreatDoor
open Go.RowKit
def BindsC (r:Rdr) (f:Nat):Prop:=∀ (k:Nat) (frm to:Bs) (l:Nat) (R:Ts) (w:World),l≤200→r.In w R→sees frm R=true→frm≠[]→to≠[]→NF (bindsP r.e f k to l R)→Calls Tryz.prog 32 #[r.ptr,.int .i64 (k:Nat),.string (bs frm),.string (bs to),.int .i64 (l:Nat)] w (Out r w (TrV w.heap.size) (bindsP r.e f k to l R))
def BinderC (r:Rdr) (f:Nat):Prop:=∀ (l:Nat) (R:Ts) (w:World),l≤200→r.In w R→sees [40] R=true→NF (binderP r.e f l R)→Calls Tryz.prog 34 #[r.ptr,.int .i64 (l:Nat)] w (Out r w (TrV w.heap.size) (binderP r.e f l R))
theorem binderQ_open {R:Ts} (h:binderQ R=true):sees [40] R=true:=by
 unfold binderQ at h
 cases hq:sees [40] R with
 | true=>rfl
 | false=>rw [hq] at h;simp at h
set_option maxRecDepth 100000 in
set_option maxHeartbeats 4000000 in
theorem binds_step (r:Rdr) (hwf:r.wf) (f:Nat) (iht:RuleC r 18 (termP r.e f)):BindsC r (f+1):=by
 intro k frm to l R w hl hR hse hfr hto hNF
 obtain⟨X,hX⟩:∃ X,bindsP r.e (f+1) k to l R=X:=⟨_,rfl⟩
 rw [hX] at hNF ⊢
 rw [bindsP_s] at hX
 have HX:Hid (_=X):=hX
 clear hX
 have hlt:=hR.lt.2
 obtain⟨w1,hw1⟩:∃ w1,w1=w.alloc (.cells #[.int .i64 0,.string ⟨#[]⟩,.slice none 0 0,.slice none 0 0,.int .i64 0] 26):=⟨_,rfl⟩
 have hB1:Below w.heap.size w w1:=by rw [hw1];exact below_alloc _ _
 have hh1:Hole w1 w.heap.size:=by rw [hw1];exact hole_new w
 have hn1:w.heap.size<w1.heap.size:=by rw [hw1];simp
 have hI1:=hR.below hB1
 have hK1:=Kp.refl r.b w1
 have Hw1:Hid (_=_):=hw1
 clear hw1
 go_enter Tryz.func32,Tryz.ntmps32
 go_wp2_with fail
 rw [← Hw1.out]
 clear Hw1
 have g1:IntKind.i64.wrap ((l:Int) + 1)=(l:Int) + 1:=wrap_in (by omega) (by omega)
 go_wp2_with fail
 refine (at_any r w1 (R) hI1 hwf).mono ?_
 rintro e w2 ⟨rfl,hb2⟩
 have hI2:=hI1.below hb2
 have hK2:=chainK hK1 hb2
 have hk2:=Kp.of_below (b:=r.b) hb2
 clear hb2 hk2
 go_wp2_with fail
 have hal:=below_alloc w2 (.cells #[.int .i64 (k:Nat),.string ⟨#[]⟩,.slice none 0 0,.slice none 0 0,.int .i64 (atP r.e R:Nat)] 26)
 have hbx:=blk_new w2 (.int .i64 (k:Nat)) (.string ⟨#[]⟩) (.slice none 0 0) (.slice none 0 0) (.int .i64 (atP r.e R:Nat))
 have hxge:=hK2.size
 obtain⟨w3,hw⟩:∃ w0,w0=w2.alloc (.cells #[.int .i64 (k:Nat),.string ⟨#[]⟩,.slice none 0 0,.slice none 0 0,.int .i64 (atP r.e R:Nat)] 26):=⟨_,rfl⟩
 rw [← hw] at hal hbx ⊢
 clear hw
 have hI3:=hI2.below hal
 have hK3:=chainK hK2 hal
 clear hal
 obtain⟨x,hx⟩:∃ x,x=w2.heap.size:=⟨_,rfl⟩
 rw [← hx] at hbx hxge ⊢
 clear hx
 have c:=must_any frm hfr r w3 R hI3 hwf
 rw [mustP_t hse] at c
 go_wp2_with fail
 refine c.mono ?_
 rintro e w4 ⟨v4,rfl,rfl,hI4,hk4⟩
 have hK4:=hK3.trans hk4
 clear c
 replace hbx:=Blk.kp hbx hk4 hbx.lt (by omega)
 have c:=names_any r w4 (R.tail) hI4 hwf
 have hxl5:=hbx.lt
 cases hq:namesP r.e (R.tail) using Rs.cs with
 | bad p y =>
  rw [hq] at c HX
  go_wp2_with fail
  refine c.mono ?_
  rintro e w5 ⟨rfl,hb⟩
  exact⟨rfl,rule_bad HX.out.symm hB1 hK4 hlt hb⟩
 | ok t5 R5 =>
  rw [hq] at c HX
  rw [bnd_ok] at HX
  go_wp2_with fail
  refine c.mono ?_
  rintro e w5 ⟨v5,rfl,hm5,hI5,hk5⟩
  have hK5:=hK4.trans hk5
  clear c hq
  replace hbx:=Blk.kp hbx hk5 hbx.lt (by omega)
  replace hm5:=NmIn.toB hm5 hK4.size (by omega)
  obtain⟨nA,nC,rfl⟩:=hm5.form
  obtain⟨c0,c1,c2,c3,c4,f0,f1,f2,f3,f4⟩:=hbx.cells
  go_wp2_with fail
  clear c0 c1 c2 c3 c4 f0 f1 f2 f3 f4
  obtain⟨w6,hw⟩:∃ w0,w0=w5.setCell ⟨x,3,none⟩ (.slice nA t5.length nC):=⟨_,rfl⟩
  rw [← hw]
  have hI6:r.In w6 (R5):=by rw [hw];exact hI5.put (by omega) _
  have hK6:Kp r.b w1 w6:=by rw [hw];exact hK5.setCell (.inr hxge) _
  have hs6:w6.heap.size=w5.heap.size:=by rw [hw];exact set_size _ _ _
  replace hbx:=Blk.set3 hbx (.slice nA t5.length nC)
  replace hm5:=NmIn.putB (i:=3) hm5 (.slice nA t5.length nC)
  rw [← hw] at hbx hm5
  clear hw
  have c:=must_any to hto r w6 (R5) hI6 hwf
  have hxl7:=hbx.lt
  cases hq:mustP r.e to (R5) using Rs.cs with
  | bad p y =>
   rw [hq] at c HX
   go_wp2_with fail
   refine c.mono ?_
   rintro e w7 ⟨rfl,hb⟩
   exact⟨rfl,rule_bad HX.out.symm hB1 hK6 hlt hb⟩
  | ok t7 R7 =>
   rw [hq] at c HX
   rw [bnd_ok] at HX
   go_wp2_with fail
   refine c.mono ?_
   rintro e w7 ⟨v7,rfl,rfl,hI7,hk7⟩
   have hK7:=hK6.trans hk7
   clear c hq
   replace hbx:=Blk.kp hbx hk7 hbx.lt (by omega)
   replace hm5:=NmIn.kpB hm5 hk7 (by omega)
   have hN8:NF (termP r.e f (l+1) (R7)):=NF.left (by have h:=hNF;rw [← HX.out] at h;exact h)
   have c:=iht (l+1) (R7) w7 (by omega) hI7 hN8
   rw [castS] at c
   have hxl8:=hbx.lt
   cases hq:termP r.e f (l+1) (R7) using Rs.cs with
   | bad p y =>
    rw [hq] at c HX
    go_wp2_with fail
    refine c.mono ?_
    rintro e w8 ⟨rfl,hb⟩
    exact⟨rfl,rule_bad HX.out.symm hB1 hK7 hlt hb⟩
   | ok t8 R8 =>
    rw [hq] at c HX
    rw [bnd_ok] at HX
    go_wp2_with fail
    refine c.mono ?_
    rintro e w8 ⟨v8,rfl,ht8,hI8,hk8⟩
    have hK8:=hK7.trans hk8
    clear c hq
    replace hbx:=Blk.kp hbx hk8 hbx.lt (by omega)
    replace hm5:=NmIn.kpB hm5 hk8 (by omega)
    have hz8:=ht8
    replace ht8:=TrIn.toB ht8 hK7.size (by omega)
    obtain⟨vk8,vn8,rfl,hf8,ka8,kc8,rfl⟩:=TrIn.form ht8
    obtain⟨na8,nc8,rfl⟩:=hf8.form
    clear hf8
    have hxl:=hbx.lt
    have hnl:=Nat.lt_of_lt_of_le hn1 hK8.size
    have e1:¬ x=w8.heap.size:=by omega
    have e2:¬ w8.heap.size=x:=by omega
    have e3:¬ w.heap.size=w8.heap.size:=by omega
    have e4:¬ w8.heap.size=w.heap.size:=by omega
    have e5:¬ x=w.heap.size:=by omega
    have e6:¬ w.heap.size=x:=by omega
    obtain⟨c0,c1,c2,c3,c4,f0,f1,f2,f3,f4⟩:=hbx.cells
    obtain⟨o0,o1,o2,o3,o4,z0,z1,z2,z3,z4⟩:=Blk.cells (hh1.kp hK8 hn1 hlt)
    go_wp2_with fail
    exact⟨rfl,.agg #[.int .i64 (k:Nat),.string ⟨#[]⟩,.slice (some ⟨w8.heap.size,0,none⟩) 1 1,.slice nA t5.length nC,.int .i64 (atP r.e R:Nat)],by simp [results,Tryz.results32,go_sem, *],rule_oneA (n:=w.heap.size) (k:=k) (nm:=[]) (ns:=t5) HX.out.symm hB1 rfl hn1 (hI8.put (by omega) _) hlt (hK8.setCell (.inr hxge) _) (set_size _ _ _).symm (TrIn.fromB (TrIn.putB ht8 _)) (NmIn.fromB (NmIn.putB hm5 _)) _ _ _ _ _⟩
end Go.Proofs.YtahnbigkdfmpbaaGreatDoor
