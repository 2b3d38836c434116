/- Declarations. A term alone. Files: rows of declarations. All rules together. Term and Parse. Parse; Term. -/
import Derived.Deep.RegionWith
import Derived.Test.YtahnbigkdfmpbaaGreatDoorIPB
import Derived.Test.YtahnbigkdfmpbaaGreatDoorIPRow
import Derived.Test.YtahnbigkdfmpbaaGreatDoorIPMeet
import Derived.Test.YtahnbigkdfmpbaaGreatDoorIPAtom
import Derived.Test.YtahnbigkdfmpbaaGreatDoorIPApp
import Derived.Test.YtahnbigkdfmpbaaGreatDoorIPBinder
import Derived.Test.YtahnbigkdfmpbaaGreatDoorIPTerm
import Derived.Test.YtahnbigkdfmpbaaGreatDoorIPEq
import Derived.Test.YtahnbigkdfmpbaaGreatDoorIPElem
import Derived.Test.YtahnbigkdfmpbaaGreatDoorIPBox
import Derived.Test.YtahnbigkdfmpbaaGreatDoorIPCatch
import Derived.Test.YtahnbigkdfmpbaaGreatDoorIMMath
set_option linter.unusedVariables false
set_option linter.unusedSimpArgs false
namespace Go.Proofs.YtahnbigkdfmpbaaGreatDoor
open Go.RowKit
end Go.Proofs.YtahnbigkdfmpbaaGreatDoor
namespace Go.Proofs.YtahnbigkdfmpbaaGreatDoor
open Go.RowKit
set_option maxRecDepth 100000 in
set_option maxHeartbeats 4000000 in
theorem single_any (r:Rdr) (hwf:r.wf) (f:Nat) (iht:RuleC r 18 (termP r.e f)):RuleC0 r 14 (singleP r.e f):=by
 intro R w hR hNF
 obtain⟨X,hX⟩:∃ X,singleP r.e f R=X:=⟨_,rfl⟩
 rw [hX] at hNF ⊢
 rw [singleP] at hX
 have HX:Hid (_=X):=hX
 clear hX
 have hlt:=hR.lt.2
 obtain⟨w1,hw1⟩:∃ w1,w1=w.alloc (.cells #[.int .i64 0,.string ⟨#[]⟩,.slice none 0 0,.slice none 0 0,.int .i64 0] 26):=⟨_,rfl⟩
 have hB1:Below w.heap.size w w1:=by rw [hw1];exact below_alloc _ _
 have hh1:Hole w1 w.heap.size:=by rw [hw1];exact hole_new w
 have hn1:w.heap.size<w1.heap.size:=by rw [hw1];simp
 have hI1:=hR.below hB1
 have hK1:=Kp.refl r.b w1
 have Hw1:Hid (_=_):=hw1
 clear hw1
 go_enter Tryz.func14,Tryz.ntmps14
 go_wp2_with fail
 rw [← Hw1.out]
 clear Hw1
 have hN2:NF (termP r.e f 1 (R)):=NF.left (by have h:=hNF;rw [← HX.out] at h;exact h)
 have c:=iht 1 (R) w1 (by omega) hI1 hN2
 cases hq:termP r.e f 1 (R) using Rs.cs with
 | bad p y =>
  rw [hq] at c HX
  go_wp2_with fail
  refine c.mono ?_
  rintro e w2 ⟨rfl,hb⟩
  exact⟨rfl,rule_bad HX.out.symm hB1 hK1 hlt hb⟩
 | ok t2 R2 =>
  rw [hq] at c HX
  rw [bnd_ok] at HX
  go_wp2_with fail
  refine c.mono ?_
  rintro e w2 ⟨v2,rfl,ht2,hI2,hk2⟩
  have hK2:=hK1.trans hk2
  clear c hq
  replace ht2:=TrIn.from ht2 hK1.size
  obtain⟨vk2,vn2,rfl,hf2,ka2,kc2,rfl⟩:=TrIn.form ht2
  obtain⟨na2,nc2,rfl⟩:=hf2.form
  clear hf2
  go_wp2_with fail
  have hal:=below_alloc w2 (.cells #[.int .i64 (t2.kind:Nat),.string (bs t2.name),.slice ka2 t2.kids.length kc2,.slice na2 t2.names.length nc2,.int .i64 (t2.at_:Nat)] 26)
  have hbx:=blk_new w2 (.int .i64 (t2.kind:Nat)) (.string (bs t2.name)) (.slice ka2 t2.kids.length kc2) (.slice na2 t2.names.length nc2) (.int .i64 (t2.at_:Nat))
  have hxge:=hK2.size
  obtain⟨w3,hw⟩:∃ w0,w0=w2.alloc (.cells #[.int .i64 (t2.kind:Nat),.string (bs t2.name),.slice ka2 t2.kids.length kc2,.slice na2 t2.names.length nc2,.int .i64 (t2.at_:Nat)] 26):=⟨_,rfl⟩
  rw [← hw] at hal hbx ⊢
  clear hw
  have hI3:=hI2.below hal
  have hK3:=chainK hK2 hal
  replace ht2:=TrIn.ahead ht2 (Nat.le_refl _) hal
  clear hal
  obtain⟨x,hx⟩:∃ x,x=w2.heap.size:=⟨_,rfl⟩
  rw [← hx] at ht2 hbx hxge ⊢
  clear hx
  obtain⟨n,hn,d1,k0,_,_⟩:=hI3.head
  have d0:=hI3.c0
  have hA:=hwf.1
  have e1:(n:Int) < (r.A.length:Int) + 1:=by omega
  cases hq:R2 with
  | nil =>
   rw [hq] at k0 HX
   rw [if_pos rfl] at HX
   replace k0:w3.cell? ⟨r.g,n*3,none⟩=some (.int .i64 0):=k0
   generalize r.A.length=N at *
   go_quiet (fail)
   obtain⟨w4,hw⟩:∃ w0,w0=w3.drewN nq:=⟨_,rfl⟩
   have hB9:Below w3.heap.size w3 w4:=by rw [hw];exact drewN_below _ _
   rw [← hw]
   clear hw d0 d1 k0
   have hI4:=hI3.below hB9
   have hK4:=chainK hK3 hB9
   have hk4:=Kp.of_below (b:=r.b) hB9
   replace ht2:=TrIn.kpB ht2 hk4 (by omega)
   replace hbx:=Blk.kp hbx hk4 hbx.lt (by omega)
   rw [hq] at hI4
   obtain⟨c0,c1,c2,c3,c4,_⟩:=hbx.cells
   obtain⟨o0,o1,o2,o3,o4,z0,z1,z2,z3,z4⟩:=Blk.cells (hh1.kp hK4 hn1 hlt)
   go_wp2_with fail
   exact⟨rfl,.agg #[.int .i64 (t2.kind:Nat),.string (bs t2.name),.slice ka2 t2.kids.length kc2,.slice na2 t2.names.length nc2,.int .i64 (t2.at_:Nat)],by simp [results,Tryz.results14,go_sem, *],rule_end (n:=w.heap.size) HX.out.symm hB1 rfl hn1 hI4 hlt hK4 (TrIn.fromB ht2) _ _ _ _ _⟩
  | cons t R9 =>
   rw [hq] at k0 HX
   rw [if_neg (by simp)] at HX
   have hI9:=hI3
   rw [hq] at hI9
   have hkd:t.kind=1∨t.kind=2:=by
    obtain⟨P,hP,_⟩:=hI9.pre
    exact (hwf.2.2.1 t (by rw [hP];simp)).1
   replace k0:w3.cell? ⟨r.g,n*3,none⟩=some (.int .i64 (t.kind:Nat)):=k0
   have k9:((t.kind:Int) != 0)=true:=by
    simp only [bne_iff_ne];omega
   generalize t.kind=Kd at *
   generalize r.A.length=N at *
   go_quiet (fail)
   have c:=wrong_any 61 r (w3.drewN nq) (t :: R9) (hI9.below (drewN_below _ _)) hwf
   clear d0 d1 k0
   go_wp2_with fail
   refine c.mono ?_
   rintro e w9 ⟨rfl,hb⟩
   exact⟨rfl,rule_bad HX.out.symm hB1 hK3 hlt ((hI9.ble (drewN_below _ _)).trans ((hI9.below (drewN_below _ _)).ble hb))⟩
end Go.Proofs.YtahnbigkdfmpbaaGreatDoor
namespace Go.Proofs.YtahnbigkdfmpbaaGreatDoor
open Go.RowKit
end Go.Proofs.YtahnbigkdfmpbaaGreatDoor
namespace Go.Proofs.YtahnbigkdfmpbaaGreatDoor
open Go.RowKit
structure Rules (r:Rdr) (f:Nat):Prop where
 dim:RuleC r 64 (dimP r.e f)
 meet:RuleC r 107 (meetP r.e f)
 join:RuleC r 88 (joinP r.e f)
 term:RuleC r 18 (termP r.e f)
 binds:BindsC r f
 binder:BinderC r f
 app:RuleD r 35 (appP r.e f)
 atom:RuleD r 62 (atomP r.e f)
 brack:RuleD r 87 (brackP r.e f)
 box:∀ (l:Nat) (R:Ts) (w:World),l≤200→r.In w R→sees [91] R=true→NF (boxP r.e f l R)→Calls Tryz.prog 86 #[r.ptr,.int .i64 (l:Nat)] w (Out r w (TrV w.heap.size) (boxP r.e f l R))
 elem:RuleD r 106 (elemP r.e f)
theorem rules_all (r:Rdr) (hwf:r.wf):∀ f,f≤1000000→∀ g,g≤f→Rules r g:=by
 intro f
 induction f with
 | zero =>
  intro _ g hg
  obtain rfl:g=0:=by omega
  refine⟨?_,?_,?_,?_,?_,?_,?_,?_,?_,?_,?_⟩
  ·intro l R w _ _ h;rw [dimP_z] at h;exact absurd rfl (h 0)
  ·intro l R w _ _ h;rw [meetP_z] at h;exact absurd rfl (h 0)
  ·intro l R w _ _ h;rw [joinP_z] at h;exact absurd rfl (h 0)
  ·intro l R w _ _ h;rw [termP_z] at h;exact absurd rfl (h 0)
  ·intro k fr to l R w _ _ _ _ _ h;rw [bindsP_z] at h;exact absurd rfl (h 0)
  ·intro l R w _ _ _ h;rw [binderP_z] at h;exact absurd rfl (h 0)
  ·intro l R w _ _ h;rw [appP_z] at h;exact absurd rfl (h 0)
  ·intro l R w _ _ h;rw [atomP_z] at h;exact absurd rfl (h 0)
  ·intro l R w _ _ h;rw [brackP_z] at h;exact absurd rfl (h 0)
  ·intro l R w _ _ _ h;rw [boxP_z] at h;exact absurd rfl (h 0)
  ·intro l R w _ _ h;rw [elemP_z] at h;exact absurd rfl (h 0)
 | succ f ih =>
  intro hf g hg
  have ih:=ih (by omega)
  rcases Nat.lt_or_ge f g with h|h
  ·obtain rfl:g=f+1:=by omega
   have i:=ih f (Nat.le_refl _)
   exact⟨dim_step r hwf f i.dim i.join,meet_step r hwf f (fun g hg=>(ih g hg).dim),join_step r hwf f (fun g hg=>(ih g hg).meet),term_step r hwf f i.binds i.binder i.app i.term,binds_step r hwf f i.term,binder_step r hwf f i.term,app_step r hwf f (fun g hg=>(ih g hg).atom) (fun g hg=>(ih g hg).dim),atom_step r hwf f i.box i.brack,brack_step r hwf f i.term,box_step r hwf f (by omega) (fun g hg=>(ih g hg).elem),elem_step r hwf f (face_any r hwf f (by omega) (eq_any r hwf)) i.term⟩
  ·exact ih g h
theorem single_rule (r:Rdr) (hwf:r.wf) (f:Nat) (hf:f≤1000000):RuleC0 r 14 (singleP r.e f):=single_any r hwf f (rules_all r hwf f hf f (Nat.le_refl _)).term
end Go.Proofs.YtahnbigkdfmpbaaGreatDoor
namespace Go.Proofs.YtahnbigkdfmpbaaGreatDoor
open Go.RowKit
set_option maxHeartbeats 1000000 in
theorem scan_huge (s:ByteArray) (w:World) (hs:s.size≤4*maxLen) (hT:Tabs w) :
  Calls Tryz.prog 16 #[.string s] w fun e w'=>∃ v,e=.returned (.tuple #[v,.int .i64 ((scanF (tl s)).2.1:Nat),.int .i64 ((scanF (tl s)).2.2:Nat)])∧OwnsT 68 w' w.heap.size v (scanF (tl s)).1∧Below w.heap.size w w':=by
 by_cases h:s.size≤maxLen
 ·exact scan_any s w h hT
 ·unfold maxLen at hs h
  rw [scanF_big (by omega)]
  have e1:(65536:Int) < (s.size:Int):=by omega
  go_enter Tryz.func16,Tryz.ntmps16
  go_wp2
  go_ret3
  exact⟨_,rfl,owns_nil _ _ _,Below.refl _ _⟩
theorem rdr_wf {s:Bs} (h:(scanF s).2.2=0) (b g cap:Nat) (hc:(rdA s).length<cap):(⟨b,g,cap,rdA s,s.length⟩:Rdr).wf:=by
 obtain⟨h1,h2,h3,h4,h5,_⟩:=scan_form h
 refine⟨by show (rdA s).length≤_;omega,h1,fun t ht=>?_,hc⟩
 obtain⟨⟨k1,k2,k3⟩,k4⟩:=h3 t ht
 exact⟨k1,by omega,k2,k3⟩
theorem single_nf {f:Nat} {s:Bs} (hf:655364≤f) (h:(scanF s).2.2=0):NF (singleP s.length f (rdA s)):=by
 intro p hp
 rcases term_cases hf h with ⟨q,x,e1,hx,_⟩|⟨t,e1,_⟩
 ·rw [e1] at hp;injection hp with h3;injection h3 with _ h2;omega
 ·rw [e1] at hp;cases hp
theorem fin_cells {W:World} {n:Nat} {a b c d u0 u1 u2 u3 u4 v0 v1 v2 v3 v4:Value} (hn:Blk W n v0 v1 v2 v3 v4) (cp:W.cell? ⟨n+1,0,none⟩=some a) (cq:W.cell? ⟨n+1+1,0,none⟩=some b) :
  Blk (((pu5 W n u0 u1 u2 u3 u4).setCell ⟨n+1,0,none⟩ c).setCell ⟨n+1+1,0,none⟩ d) n u0 u1 u2 u3 u4∧(((pu5 W n u0 u1 u2 u3 u4).setCell ⟨n+1,0,none⟩ c).setCell ⟨n+1+1,0,none⟩ d).cell? ⟨n+1,0,none⟩=some c∧(((pu5 W n u0 u1 u2 u3 u4).setCell ⟨n+1,0,none⟩ c).setCell ⟨n+1+1,0,none⟩ d).cell? ⟨n+1+1,0,none⟩=some d:=by
 have h5:=blk_put W n v0 v1 v2 v3 v4 u0 u1 u2 u3 u4 hn
 have e1:∀ k,k≠n→(pu5 W n u0 u1 u2 u3 u4).cell? ⟨k,0,none⟩=W.cell? ⟨k,0,none⟩:=fun k hk=>World.cell?_of_block (w:=W) (by
  show (pu5 W n u0 u1 u2 u3 u4).heap[k]? = _
  unfold pu5
  rw [heap_put hk,heap_put hk,heap_put hk,heap_put hk,heap_put hk])
 refine⟨?_,?_,?_⟩
 ·unfold Blk at h5 ⊢
  rw [heap_put (by omega),heap_put (by omega)];exact h5
 ·rw [World.cell?_setCell_other _ _ _ _ (by simp)]
  exact World.cell?_setCell_same _ _ _ ((e1 (n+1) (by omega)).trans cp)
 ·exact World.cell?_setCell_same _ _ _ ((World.cell?_setCell_other _ _ _ _ (by simp)).trans ((e1 (n+1+1) (by omega)).trans cq))
theorem two_cells {W:World} {n:Nat} {a b c d v0 v1 v2 v3 v4:Value} (hn:Blk W n v0 v1 v2 v3 v4) (cp:W.cell? ⟨n+1,0,none⟩=some a) (cq:W.cell? ⟨n+1+1,0,none⟩=some b) :
  Blk ((W.setCell ⟨n+1,0,none⟩ c).setCell ⟨n+1+1,0,none⟩ d) n v0 v1 v2 v3 v4∧((W.setCell ⟨n+1,0,none⟩ c).setCell ⟨n+1+1,0,none⟩ d).cell? ⟨n+1,0,none⟩=some c∧((W.setCell ⟨n+1,0,none⟩ c).setCell ⟨n+1+1,0,none⟩ d).cell? ⟨n+1+1,0,none⟩=some d:=by
 refine⟨?_,?_,?_⟩
 ·unfold Blk at hn ⊢
  rw [heap_put (by omega),heap_put (by omega)];exact hn
 ·rw [World.cell?_setCell_other _ _ _ _ (by simp)]
  exact World.cell?_setCell_same _ _ _ cp
 ·exact World.cell?_setCell_same _ _ _ ((World.cell?_setCell_other _ _ _ _ (by simp)).trans cq)
theorem rdr_in {w3:World} {g cap n:Nat} {A:Ts} (hg:g<w3.heap.size) (hc:CellsT w3 g 0 (A ++ [⟨0,[],n⟩])) (b:Nat) (hb:b=w3.heap.size):(⟨b,g,cap,A,n⟩:Rdr).In (w3.alloc (.cells #[.slice (some ⟨g,0,none⟩) (A.length+1) cap,.int .i64 0] 65)) A:=by
 subst hb
 refine⟨⟨hg,by show _<_;simp⟩,new_cell _ _ _ _ 0 _ rfl rfl,⟨[],rfl,new_cell _ _ _ _ 1 _ rfl rfl⟩,?_,hc.below (below_alloc _ _) hg⟩
 simp [go_sem]
theorem cellsT_put {w:World} {g x i:Nat} {l:Ts} {u:Value} (h:CellsT w g 0 l) (hx:g≠x):CellsT (w.setCell ⟨x,i,none⟩ u) g 0 l:=fun j c hj =>
 have hb:=heap_put (w:=w) (x:=x) (i:=i) (u:=u) hx
 ⟨(World.cell?_of_block (w:=w) (a:=⟨g,0+j*3,none⟩) hb).trans (h j c hj).1,(World.cell?_of_block (w:=w) (a:=⟨g,0+j*3+1,none⟩) hb).trans (h j c hj).2.1,(World.cell?_of_block (w:=w) (a:=⟨g,0+j*3+2,none⟩) hb).trans (h j c hj).2.2⟩
theorem mkf (fn:Fn) (first cap:Array Value) (w:World):(Instr.makeFunc fn first cap).run Tryz.prog w=.ok (.func fn first cap) w:=rfl
set_option maxRecDepth 100000 in
set_option maxHeartbeats 4000000 in
theorem readT_any (f:Nat) (hf:655364≤f) (hf2:f≤1000000) (s:ByteArray) (w:World) (hs:s.size≤4*maxLen) (hT:Tabs w) :
  Calls Tryz.prog 13 #[.string s,.func (.func 14) #[] #[]] w fun e w'=>∃ v,e=.returned (.tuple #[v,.int .i64 ((termA f (tl s)).2.1:Nat),.int .i64 ((termA f (tl s)).2.2:Nat)])∧TrIn (From w.heap.size) w' (termA f (tl s)).1 v∧Below w.heap.size w w':=by
 obtain⟨w1,hw1⟩:∃ w1,w1=((w.alloc (.cells #[.int .i64 0,.string ⟨#[]⟩,.slice none 0 0,.slice none 0 0,.int .i64 0] 26)).alloc (.cells #[.int .i64 0] 3)).alloc (.cells #[.int .i64 0] 27):=⟨_,rfl⟩
 have hB1:Below w.heap.size w w1:=by rw [hw1];exact chain (chain (below_alloc _ _) (below_alloc _ _)) (below_alloc _ _)
 have c:=scan_huge s w1 hs (hT.below hB1)
 have hmf:=mkf
 have hh1:Hole w1 w.heap.size:=by rw [hw1];exact ((hole_new w).blw (below_alloc _ _) (by simp)).blw (below_alloc _ _) (by simp;omega)
 have hsz:w1.heap.size=w.heap.size+1+1+1:=by rw [hw1];simp
 have cp:w1.cell? ⟨w.heap.size+1,0,none⟩=some (.int .i64 0):=by rw [hw1];simp [go_sem]
 have cq:w1.cell? ⟨w.heap.size+1+1,0,none⟩=some (.int .i64 0):=by rw [hw1];simp [go_sem]
 have zp:w1.frozen? ⟨w.heap.size+1,0,none⟩=false:=by rw [hw1];simp [go_sem]
 have zq:w1.frozen? ⟨w.heap.size+1+1,0,none⟩=false:=by rw [hw1];simp [go_sem]
 have Hw1:Hid (_=_):=hw1
 clear hw1
 by_cases h0:(scanF (tl s)).2.2=0
 ·obtain⟨hl1,h2,h3,h4,h5,h6,h7⟩:=scan_form h0
  have hP0:=(scanF_ok h0).2.2.2
  have HA:Hid (termA f (tl s)=ansT (singleP (tl s).length f (rdA (tl s)))):=by show _=_;unfold termA;rw [if_pos h0]
  rw [HA.out]
  rw [h0,hP0,h2] at c
  have hnf:=single_nf hf h0
  have hwf:=fun b g cap hc=>rdr_wf h0 b g cap hc
  obtain⟨A,hA⟩:∃ A,rdA (tl s)=A:=⟨_,rfl⟩
  obtain⟨n,hn⟩:∃ n,(tl s).length=n:=⟨_,rfl⟩
  rw [hA,hn] at hnf c HA ⊢
  simp only [hA,hn] at hwf
  clear HA h0 h2 h3 h4 h5 h6 h7 hP0 hl1
  cases hq:singleP n f A using Rs.cs with
  | ok t R9 =>
   go_enter_defers Tryz.func13,Tryz.ntmps13
   go_wp2_with fail
   rw [← Hw1.out]
   refine c.mono ?_
   rintro e w2 ⟨v,rfl,hO,hb⟩
   clear c Hw1
   have hO':=hO
   obtain⟨_,⟨_,hx⟩ | ⟨g,cap,cur,rfl,hg,_,hcap,_⟩⟩:=hO
   ·simp at hx
   have hcell:=OwnsT.cells hO'
   have hgl:g<w2.heap.size:=(World.ownsRow.lt hO' g rfl).2
   have hlen:(A ++ [(⟨0,[],n⟩:Tok)]).length=A.length+1:=by simp
   rw [hlen] at hcap ⊢
   clear hO'
   have hsz2:=hb.size
   have cp2:=(hb.cell (p:=⟨w.heap.size+1,0,none⟩) (show w.heap.size+1<w1.heap.size by omega)).trans cp
   have cq2:=(hb.cell (p:=⟨w.heap.size+1+1,0,none⟩) (show w.heap.size+1+1<w1.heap.size by omega)).trans cq
   have zp2:=(hb.frozen (p:=⟨w.heap.size+1,0,none⟩) (show w.heap.size+1<w1.heap.size by omega)).trans zp
   have zq2:=(hb.frozen (p:=⟨w.heap.size+1+1,0,none⟩) (show w.heap.size+1+1<w1.heap.size by omega)).trans zq
   have hh2:=hh1.blw hb (by omega)
   clear cp cq zp zq
   go_wp2_with fail
   obtain⟨w3,hw3⟩:∃ w0,w0=(w2.setCell ⟨w.heap.size+1,0,none⟩ (.int .i64 0)).setCell ⟨w.heap.size+1+1,0,none⟩ (.int .i64 0):=⟨_,rfl⟩
   have hs3:w3.heap.size=w2.heap.size:=by rw [hw3,set_size,set_size]
   have hc3:CellsT w3 g 0 (A ++ [⟨0,[],n⟩]):=by rw [hw3];exact cellsT_put (cellsT_put hcell (by omega)) (by omega)
   have hB3:Below w.heap.size w w3:=by rw [hw3];exact ((hB1.trans (hb.mono (by omega))).setCell (show w.heap.size≤w.heap.size+1 by omega) _).setCell (show w.heap.size≤w.heap.size+1+1 by omega) _
   have hbl:Blk w3 w.heap.size (.int .i64 0) (.string ⟨#[]⟩) (.slice none 0 0) (.slice none 0 0) (.int .i64 0)∧w3.cell? ⟨w.heap.size+1,0,none⟩=some (.int .i64 0)∧w3.cell? ⟨w.heap.size+1+1,0,none⟩=some (.int .i64 0):=by rw [hw3];exact two_cells hh2 cp2 cq2
   have zf:w3.frozen? ⟨w.heap.size+1,0,none⟩=false∧w3.frozen? ⟨w.heap.size+1+1,0,none⟩=false:=by rw [hw3];simp [zp2,zq2]
   rw [← hw3]
   clear hw3 cp2 cq2 zp2 zq2 hh2 hh1 hcell
   have hal:=below_alloc w3 (.cells #[.slice (some ⟨g,0,none⟩) (A.length+1) cap,.int .i64 0] 65)
   have hI:=rdr_in (cap:=cap) (show g<w3.heap.size by omega) hc3 w2.heap.size hs3.symm
   have hW:=hwf w2.heap.size g cap (by omega)
   have hn4:(w3.alloc (.cells #[.slice (some ⟨g,0,none⟩) (A.length+1) cap,.int .i64 0] 65)).heap.size=w2.heap.size+1:=by simp [hs3]
   obtain⟨w4,hw4⟩:∃ w0,w0=w3.alloc (.cells #[.slice (some ⟨g,0,none⟩) (A.length+1) cap,.int .i64 0] 65):=⟨_,rfl⟩
   rw [← hw4] at hal hI hn4 ⊢
   clear hw4 hc3
   have cS:=single_rule _ hW f hf2 A w4 hI hnf
   have hq':singleP (Rdr.e ⟨w2.heap.size,g,cap,A,n⟩) f A=.ok t R9:=hq
   rw [hq'] at cS
   refine cS.mono ?_
   rintro e w5 ⟨v5,rfl,ht,_,hk5⟩
   clear cS
   have hkb:∀ k,k<w2.heap.size→w5.heap[k]? = w3.heap[k]?:=fun k hk=>(hk5.block k (by omega) (by show k≠w2.heap.size;omega)).trans (hal.block k (by omega))
   have hbl5:Blk w5 w.heap.size (.int .i64 0) (.string ⟨#[]⟩) (.slice none 0 0) (.slice none 0 0) (.int .i64 0):=(hkb _ (by omega)).trans hbl.1
   have cp5:=(World.cell?_of_block (w:=w3) (a:=⟨w.heap.size+1,0,none⟩) (hkb _ (show w.heap.size+1<_ by omega))).trans hbl.2.1
   have cq5:=(World.cell?_of_block (w:=w3) (a:=⟨w.heap.size+1+1,0,none⟩) (hkb _ (show w.heap.size+1+1<_ by omega))).trans hbl.2.2
   have zp5:=(World.frozen?_of_block (w:=w3) (a:=⟨w.heap.size+1,0,none⟩) (hkb _ (show w.heap.size+1<_ by omega))).trans zf.1
   have zq5:=(World.frozen?_of_block (w:=w3) (a:=⟨w.heap.size+1+1,0,none⟩) (hkb _ (show w.heap.size+1+1<_ by omega))).trans zf.2
   have hB5:Below w.heap.size w w5:=⟨hk5.os.trans (hal.os.trans hB3.os),hk5.tape.trans (hal.tape.trans hB3.tape),hk5.output.trans (hal.output.trans hB3.output),by have:=hk5.size;have:=hB3.size;omega,fun k hk=>(hkb k (by omega)).trans (hB3.block k hk)⟩
   clear hkb hbl zf hal hI hW hk5 hB3 hB1
   obtain⟨vk,vn,rfl,hf5,ka,kc,rfl⟩:=TrIn.form ht
   obtain⟨na,nc,rfl⟩:=hf5.form
   clear hf5
   obtain⟨i1,i2,i3⟩:=fin_cells (c:=.int .i64 0) (d:=.int .i64 0) (u0:=.int .i64 (t.kind:Nat)) (u1:=.string (bs t.name)) (u2:=.slice ka t.kids.length kc) (u3:=.slice na t.names.length nc) (u4:=.int .i64 (t.at_:Nat)) hbl5 cp5 cq5
   obtain⟨d0,d1,d2,d3,d4,_⟩:=i1.cells
   unfold pu5 at i2 i3 d0 d1 d2 d3 d4
   clear i1
   obtain⟨o0,o1,o2,o3,o4,z0,z1,z2,z3,z4⟩:=hbl5.cells
   go_wp2_with fail
   refine leaves_cons (f:=17) (args:=#[.pointer (some ⟨w.heap.size+1,0,none⟩),.pointer (some ⟨w.heap.size+1+1,0,none⟩)]) (by simp) (by simp [go_sem]) ?_
   refine (catchT_idle _ _ _).mono ?_
   rintro e u' w'' ⟨rfl,rfl,rfl⟩
   have q1:w.heap.size≤w.heap.size+1:=by omega
   have q2:w.heap.size≤w.heap.size+1+1:=by omega
   have q0:w.heap.size≤w.heap.size:=by omega
   have hlo:w.heap.size+1+1<w4.heap.size:=by omega
   refine⟨.tuple #[.agg #[.int .i64 (t.kind:Nat),.string (bs t.name),.slice ka t.kids.length kc,.slice na t.names.length nc,.int .i64 (t.at_:Nat)],.int .i64 0,.int .i64 0],by simp only [results,Tryz.results13];simp [go_sem,d0,d1,d2,d3,d4,i2,i3],_,rfl,TrIn.from (n:=w4.heap.size) ((TrIn.put5 ht (by omega) _ _ _ _ _).put (by omega) _ |>.put (by omega) _) (by omega),(((((((hB5.setCell q0 _).setCell q0 _).setCell q0 _).setCell q0 _).setCell q0 _).setCell q1 _).setCell q2 _)⟩
  | bad pp xx =>
   go_enter_defers Tryz.func13,Tryz.ntmps13
   go_wp2_with fail
   rw [← Hw1.out]
   refine c.mono ?_
   rintro e w2 ⟨v,rfl,hO,hb⟩
   clear c Hw1
   have hO':=hO
   obtain⟨_,⟨_,hx⟩ | ⟨g,cap,cur,rfl,hg,_,hcap,_⟩⟩:=hO
   ·simp at hx
   have hcell:=OwnsT.cells hO'
   have hgl:g<w2.heap.size:=(World.ownsRow.lt hO' g rfl).2
   have hlen:(A ++ [(⟨0,[],n⟩:Tok)]).length=A.length+1:=by simp
   rw [hlen] at hcap ⊢
   clear hO'
   have hsz2:=hb.size
   have cp2:=(hb.cell (p:=⟨w.heap.size+1,0,none⟩) (show w.heap.size+1<w1.heap.size by omega)).trans cp
   have cq2:=(hb.cell (p:=⟨w.heap.size+1+1,0,none⟩) (show w.heap.size+1+1<w1.heap.size by omega)).trans cq
   have zp2:=(hb.frozen (p:=⟨w.heap.size+1,0,none⟩) (show w.heap.size+1<w1.heap.size by omega)).trans zp
   have zq2:=(hb.frozen (p:=⟨w.heap.size+1+1,0,none⟩) (show w.heap.size+1+1<w1.heap.size by omega)).trans zq
   have hh2:=hh1.blw hb (by omega)
   clear cp cq zp zq
   go_wp2_with fail
   obtain⟨w3,hw3⟩:∃ w0,w0=(w2.setCell ⟨w.heap.size+1,0,none⟩ (.int .i64 0)).setCell ⟨w.heap.size+1+1,0,none⟩ (.int .i64 0):=⟨_,rfl⟩
   have hs3:w3.heap.size=w2.heap.size:=by rw [hw3,set_size,set_size]
   have hc3:CellsT w3 g 0 (A ++ [⟨0,[],n⟩]):=by rw [hw3];exact cellsT_put (cellsT_put hcell (by omega)) (by omega)
   have hB3:Below w.heap.size w w3:=by rw [hw3];exact ((hB1.trans (hb.mono (by omega))).setCell (show w.heap.size≤w.heap.size+1 by omega) _).setCell (show w.heap.size≤w.heap.size+1+1 by omega) _
   have hbl:Blk w3 w.heap.size (.int .i64 0) (.string ⟨#[]⟩) (.slice none 0 0) (.slice none 0 0) (.int .i64 0)∧w3.cell? ⟨w.heap.size+1,0,none⟩=some (.int .i64 0)∧w3.cell? ⟨w.heap.size+1+1,0,none⟩=some (.int .i64 0):=by rw [hw3];exact two_cells hh2 cp2 cq2
   have zf:w3.frozen? ⟨w.heap.size+1,0,none⟩=false∧w3.frozen? ⟨w.heap.size+1+1,0,none⟩=false:=by rw [hw3];simp [zp2,zq2]
   rw [← hw3]
   clear hw3 cp2 cq2 zp2 zq2 hh2 hh1 hcell
   have hal:=below_alloc w3 (.cells #[.slice (some ⟨g,0,none⟩) (A.length+1) cap,.int .i64 0] 65)
   have hI:=rdr_in (cap:=cap) (show g<w3.heap.size by omega) hc3 w2.heap.size hs3.symm
   have hW:=hwf w2.heap.size g cap (by omega)
   have hn4:(w3.alloc (.cells #[.slice (some ⟨g,0,none⟩) (A.length+1) cap,.int .i64 0] 65)).heap.size=w2.heap.size+1:=by simp [hs3]
   obtain⟨w4,hw4⟩:∃ w0,w0=w3.alloc (.cells #[.slice (some ⟨g,0,none⟩) (A.length+1) cap,.int .i64 0] 65):=⟨_,rfl⟩
   rw [← hw4] at hal hI hn4 ⊢
   clear hw4 hc3
   have cS:=single_rule _ hW f hf2 A w4 hI hnf
   have hq':singleP (Rdr.e ⟨w2.heap.size,g,cap,A,n⟩) f A=.bad pp xx:=hq
   rw [hq'] at cS
   refine cS.mono ?_
   rintro e w5 ⟨rfl,hb5⟩
   clear cS
   have hkb:∀ k,k<w2.heap.size→w5.heap[k]? = w3.heap[k]?:=fun k hk=>(hb5.block k hk).trans (hal.block k (by omega))
   have hbl5:Blk w5 w.heap.size (.int .i64 0) (.string ⟨#[]⟩) (.slice none 0 0) (.slice none 0 0) (.int .i64 0):=(hkb _ (by omega)).trans hbl.1
   have cp5:=(World.cell?_of_block (w:=w3) (a:=⟨w.heap.size+1,0,none⟩) (hkb _ (show w.heap.size+1<_ by omega))).trans hbl.2.1
   have cq5:=(World.cell?_of_block (w:=w3) (a:=⟨w.heap.size+1+1,0,none⟩) (hkb _ (show w.heap.size+1+1<_ by omega))).trans hbl.2.2
   have zp5:=(World.frozen?_of_block (w:=w3) (a:=⟨w.heap.size+1,0,none⟩) (hkb _ (show w.heap.size+1<_ by omega))).trans zf.1
   have zq5:=(World.frozen?_of_block (w:=w3) (a:=⟨w.heap.size+1+1,0,none⟩) (hkb _ (show w.heap.size+1+1<_ by omega))).trans zf.2
   have hsz5:=hb5.size
   have hB5:Below w.heap.size w w5:=⟨hb5.os.trans (hal.os.trans hB3.os),hb5.tape.trans (hal.tape.trans hB3.tape),hb5.output.trans (hal.output.trans hB3.output),by have:=hB3.size;omega,fun k hk=>(hkb k (by omega)).trans (hB3.block k hk)⟩
   clear hkb hbl zf hal hI hW hB3 hB1
   refine leaves_cons (f:=17) (args:=#[.pointer (some ⟨w.heap.size+1,0,none⟩),.pointer (some ⟨w.heap.size+1+1,0,none⟩)]) (by simp) (by simp [go_sem]) ?_
   refine (catchT_panicking (w.heap.size+1) (w.heap.size+1+1) 0 0 (pp:Nat) (xx:Nat) [] w5 (by omega) (by omega) (by omega) cp5 cq5 zp5 zq5).mono ?_
   rintro e u' w6 ⟨rfl,rfl,h6⟩
   have hbl6:Blk w6 w.heap.size (.int .i64 0) (.string ⟨#[]⟩) (.slice none 0 0) (.slice none 0 0) (.int .i64 0):=(h6.block _ (by omega) (by omega) (by omega)).trans hbl5
   obtain⟨d0,d1,d2,d3,d4,_⟩:=hbl6.cells
   have i2:=h6.cp
   have i3:=h6.cq
   refine⟨.tuple #[.agg #[.int .i64 0,.string ⟨#[]⟩,.slice none 0 0,.slice none 0 0,.int .i64 0],.int .i64 (pp:Nat),.int .i64 (xx:Nat)],by simp only [results,Tryz.results13];simp [go_sem,d0,d1,d2,d3,d4,i2,i3],_,rfl,.leaf 0 [] [] 0 none 0 _ (.nil none 0),⟨h6.os.trans hB5.os,h6.tape.trans hB5.tape,h6.output.trans hB5.output,Nat.le_trans hB5.size h6.size,fun k hk=>(h6.block k (by omega) (by omega) (by omega)).trans (hB5.block k hk)⟩⟩
 ·have HA:Hid (termA f (tl s)=(zeroTr,(scanF (tl s)).2)):=by show _=_;unfold termA;rw [if_neg h0]
  rw [HA.out]
  generalize (scanF (tl s)).2.2=E at *
  generalize (scanF (tl s)).2.1=P at *
  have hE:((E:Int) != 0)=true:=by simp only [bne_iff_ne];omega
  go_enter_defers Tryz.func13,Tryz.ntmps13
  go_wp2_with fail
  rw [← Hw1.out]
  refine c.mono ?_
  rintro e w2 ⟨v,rfl,_,hb⟩
  clear c Hw1
  have cp2:=(hb.cell (p:=⟨w.heap.size+1,0,none⟩) (show w.heap.size+1<w1.heap.size by omega)).trans cp
  have cq2:=(hb.cell (p:=⟨w.heap.size+1+1,0,none⟩) (show w.heap.size+1+1<w1.heap.size by omega)).trans cq
  have zp2:=(hb.frozen (p:=⟨w.heap.size+1,0,none⟩) (show w.heap.size+1<w1.heap.size by omega)).trans zp
  have zq2:=(hb.frozen (p:=⟨w.heap.size+1+1,0,none⟩) (show w.heap.size+1+1<w1.heap.size by omega)).trans zq
  have hh2:=hh1.blw hb (by omega)
  obtain⟨o0,o1,o2,o3,o4,z0,z1,z2,z3,z4⟩:=hh2.cells
  clear cp cq zp zq
  go_wp2_with fail
  go_region
  go_wp2_with fail
  obtain⟨j1,j2,j3⟩:=two_cells (c:=.int .i64 (P:Nat)) (d:=.int .i64 (E:Nat)) hh2 cp2 cq2
  obtain⟨i1,i2,i3⟩:=fin_cells (c:=.int .i64 (P:Nat)) (d:=.int .i64 (E:Nat)) (u0:=.int .i64 0) (u1:=.string ⟨#[]⟩) (u2:=.slice none 0 0) (u3:=.slice none 0 0) (u4:=.int .i64 0) j1 j2 j3
  obtain⟨d0,d1,d2,d3,d4,_⟩:=i1.cells
  unfold pu5 at i2 i3 d0 d1 d2 d3 d4
  clear j1 j2 j3 i1 hh2 hh1 o0 o1 o2 o3 o4 z0 z1 z2 z3 z4 cp2 cq2 zp2 zq2
  have q1:w.heap.size≤w.heap.size+1:=by omega
  have q2:w.heap.size≤w.heap.size+1+1:=by omega
  have q0:w.heap.size≤w.heap.size:=by omega
  have hB:=hB1.trans (hb.mono (show w.heap.size≤w1.heap.size by omega))
  exact⟨.tuple #[.agg #[.int .i64 0,.string ⟨#[]⟩,.slice none 0 0,.slice none 0 0,.int .i64 0],.int .i64 (P:Nat),.int .i64 (E:Nat)],by simp only [results,Tryz.results13];simp [go_sem,d0,d1,d2,d3,d4,i2,i3],_,rfl,.leaf 0 [] [] 0 none 0 _ (.nil none 0),Below.drew (((((((((hB.setCell q1 _).setCell q2 _).setCell q0 _).setCell q0 _).setCell q0 _).setCell q0 _).setCell q0 _).setCell q1 _).setCell q2 _)⟩
end Go.Proofs.YtahnbigkdfmpbaaGreatDoor
namespace Go.Proofs.YtahnbigkdfmpbaaGreatDoor
open Go.RowKit
def LsIn (n:Nat) (w:World) (l:List Tr) (v:Value):Prop:=TrIn (From n) w (.mk 0 [] l [] 0) (.agg #[.int .i64 0,.string ⟨#[]⟩,v,.slice none 0 0,.int .i64 0])∧∃ a cap,v=.slice a l.length cap∧l.length≤cap
theorem LsIn.form {n:Nat} {w:World} {l:List Tr} {v:Value} (h:LsIn n w l v):∃ a cap,v=.slice a l.length cap:=by
 obtain⟨_,a,cap,e,_⟩:=h
 exact⟨a,cap,e⟩
set_option maxRecDepth 100000 in
set_option maxHeartbeats 1000000 in
theorem term_any (f:Nat) (hf:655364≤f) (hf2:f≤1000000) (s:ByteArray) (w:World) (hs:s.size≤4*maxLen) (hT:Tabs w) :
  Calls Tryz.prog 7 #[.string s] w fun e w'=>∃ v,e=.returned (.tuple #[v,.int .i64 ((termA f (tl s)).2.1:Nat),.int .i64 ((termA f (tl s)).2.2:Nat)])∧TrIn (From w.heap.size) w' (termA f (tl s)).1 v∧Below w.heap.size w w':=by
 have hal:=below_alloc w (.cells #[.int .i64 0,.string ⟨#[]⟩,.slice none 0 0,.slice none 0 0,.int .i64 0] 26)
 have c:=readT_any f hf hf2 s (w.alloc (.cells #[.int .i64 0,.string ⟨#[]⟩,.slice none 0 0,.slice none 0 0,.int .i64 0] 26)) hs (hT.below hal)
 have hh:=hole_new w
 generalize termA f (tl s)=Z at *
 go_enter Tryz.func7,Tryz.ntmps7
 go_wp2_with fail
 refine c.mono ?_
 rintro e w2 ⟨v,rfl,ht,hb⟩
 clear c
 have hsz:(w.alloc (.cells #[.int .i64 0,.string ⟨#[]⟩,.slice none 0 0,.slice none 0 0,.int .i64 0] 26)).heap.size=w.heap.size+1:=by simp
 rw [hsz] at ht
 have hh2:=hh.blw hb (by omega)
 obtain⟨vk,vn,rfl,hf5,ka,kc,rfl⟩:=TrIn.form ht
 obtain⟨na,nc,rfl⟩:=hf5.form
 clear hf5
 obtain⟨o0,o1,o2,o3,o4,z0,z1,z2,z3,z4⟩:=hh2.cells
 go_wp2_with fail
 have i1:=blk_put w2 w.heap.size _ _ _ _ _ (.int .i64 (Z.1.kind:Nat)) (.string (bs Z.1.name)) (.slice ka Z.1.kids.length kc) (.slice na Z.1.names.length nc) (.int .i64 (Z.1.at_:Nat)) hh2
 obtain⟨d0,d1,d2,d3,d4,_⟩:=i1.cells
 unfold pu5 at d0 d1 d2 d3 d4
 have q0:w.heap.size≤w.heap.size:=Nat.le_refl _
 have hB:=chain hal hb
 exact⟨rfl,.tuple #[.agg #[.int .i64 (Z.1.kind:Nat),.string (bs Z.1.name),.slice ka Z.1.kids.length kc,.slice na Z.1.names.length nc,.int .i64 (Z.1.at_:Nat)],.int .i64 (Z.2.1:Nat),.int .i64 (Z.2.2:Nat)],by simp only [results,Tryz.results7];simp [go_sem,d0,d1,d2,d3,d4],_,rfl,TrIn.from (n:=w.heap.size+1) (TrIn.put5 ht (by omega) _ _ _ _ _) (by omega),((((hB.setCell q0 _).setCell q0 _).setCell q0 _).setCell q0 _).setCell q0 _⟩
end Go.Proofs.YtahnbigkdfmpbaaGreatDoor
