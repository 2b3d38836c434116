/- Rows of branches of one's own memory, whatever their parts lie in. -/
import Derived.Test.YtmblbmdchinflaaGreatEG12
import Derived.Test.YtmblbmdchinflaaGreatEG27
import Derived.Test.YtmblbmdchinflaaGreatEG30
import Derived.Test.YtmblbmdchinflaaGreatEG34
set_option linter.unusedVariables false
set_option linter.unusedSimpArgs false
set_option maxRecDepth 100000
set_option maxHeartbeats 4000000
namespace Go.Proofs.YtmblbmdchinflaaGreat
open Go.RowKit
def OkQ (No:Nat→Prop) (w:World) (v:Value) (q:Nat):Prop:=q<w.heap.size∧some q≠v.ownBlock∧No q
def QOwn (base:Nat) (No:Nat→Prop) (w:World) (v:Value) (l:List (List C × List Tm)):Prop :=
 ∃ us:List (Value × Value),us.length=l.length∧w.ownsRow base 50 2 v l.length (flat2 us)∧(∀ k,v.ownBlock=some k→No k)∧∀ (j:Nat) (x:List C × List Tm) (u:Value × Value),l[j]? = some x→us[j]? = some u→ClRow (OkQ No w v) w x.1 u.1∧KdT (OkQ No w v) w (TmIn (OkQ No w v) w) x.2 u.2
theorem QOwn.nil (base:Nat) (No:Nat→Prop) (w:World):QOwn base No w (.slice none 0 0) []:=⟨[],rfl,World.ownsRow_nil _ _ _ _,fun k h=>(by cases h),fun j x u h=>by simp at h⟩
theorem QOwn.len {base:Nat} {No:Nat→Prop} {w:World} {v:Value} {l:List (List C × List Tm)} (h:QOwn base No w v l):∃ a c,v=.slice a l.length c:=by obtain⟨us,_,h2,_⟩:=h;exact owns_len h2
theorem QOwn.keep {base:Nat} {No No2:Nat→Prop} {w w':World} {v:Value} {l:List (List C × List Tm)} (h:QOwn base No w v l) (hk:Kn No2 w w') (hn:∀ q,No q→No2 q):QOwn base No w' v l:=by
 obtain⟨us,h1,h2,h3,h4⟩:=h
 have ho:∀ q,OkQ No w v q→OkQ No w' v q:=fun q hq=>⟨Nat.lt_of_lt_of_le hq.1 hk.size,hq.2⟩
 have hb:∀ q,OkQ No w v q→q<w.heap.size→w'.heap[q]? = w.heap[q]?:=fun q hq hs=>hk.block q (hn q hq.2.2) hs
 refine⟨us,h1,owns_keep h2 (fun k hk'=>hk.block k (hn k (h3 k hk')) (World.ownsRow.lt h2 k hk').2),h3,fun j x u hx hu=>⟨(h4 j x u hx hu).1.keep hk.size ho hb,(h4 j x u hx hu).2.all hk.size ho hb⟩⟩
theorem QOwn.row {base:Nat} {No:Nat→Prop} {w:World} {v:Value} {l:List (List C × List Tm)} (h:QOwn base No w v l):SyT No w (TmIn No w) l v:=by
 obtain⟨us,h1,h2,h3,h4⟩:=h
 rcases h2.2 with ⟨rfl,hz⟩|⟨g,cap,cur,rfl,hb,hh,hn,_,_,hc⟩
 ·obtain rfl:l=[]:=List.length_eq_zero_iff.1 hz
  exact sy_nil _ _ _
 ·refine⟨_,_,rfl,hn,fun j x hx=>?_⟩
  obtain⟨u,hu⟩:=someL (l:=us) (k:=j) (by have:=some_lt hx;omega)
  have hcell:=h2.cells (g:=g) rfl
  obtain⟨f0,f1⟩:=flat2_get us j u hu
  obtain⟨p1,p2⟩:=h4 j x u hx hu
  refine⟨g,0,u.1,u.2,rfl,h3 g rfl,(Array.getElem?_eq_some_iff.1 hh).1,p1.keep (Nat.le_refl _) (fun q hq=>hq.2.2) (fun _ _ _=>rfl),p2.all (Nat.le_refl _) (fun q hq=>hq.2.2) (fun _ _ _=>rfl),?_,?_⟩
  ·have:=hcell _ _ f0;rw [Addr.add_lit] at this;simpa using this
  ·have:=hcell _ _ f1;rw [Addr.add_lit] at this;simpa using this
theorem okq_grown {No:Nat→Prop} {W W':World} {v v':Value} (hg:W.grownBy W' v.ownBlock) (hv:v'.ownBlock=v.ownBlock∨v'.ownBlock=some W.heap.size) (q:Nat) (hq:OkQ No W v q):OkQ No W' v' q:=by
 refine⟨Nat.lt_of_lt_of_le hq.1 hg.size,?_,hq.2.2⟩
 rcases hv with h|h
 ·rw [h];exact hq.2.1
 ·rw [h];intro e;injection e with e;have:=hq.1;omega
theorem append_Q {base:Nat} {No:Nat→Prop} {W:World} {v:Value} {l:List (List C × List Tm)} {x:List C × List Tm} {u:Value × Value} (ty:TypeId) (hO:QOwn base No W v l) (ad:Addr) (c:Nat) (hc:∀ (j:Nat) (y:Value),(flat2 [u])[j]? = some y→W.cell? (ad.add j)=some y) (hx:ClRow (OkQ No W v) W x.1 u.1∧KdT (OkQ No W v) W (TmIn (OkQ No W v) W) x.2 u.2) (hn:l.length+1≤200000) (hb:base≤W.heap.size) (hN:No W.heap.size) :
  ∃ v' W',(Builtin.append_ #[24,24] ty #[v,.slice (some ad) 1 c]).run Tryz.prog W=.ok v' W'∧QOwn base No W' v' (l ++ [x])∧W.grownBy W' v.ownBlock∧(v'.ownBlock=v.ownBlock∨v'.ownBlock=some W.heap.size):=by
 obtain⟨i0,hi,hz0,hz1,hz2⟩:=info_parts infoB
 obtain⟨us,h1,h2,h3,h4⟩:=hO
 have hone:∀ y∈flat2 [u],y.oneCell'=true:=by
  obtain⟨⟨a1,c1,e1,_⟩,⟨a2,c2,e2,_⟩⟩:=hx
  intro y hy
  simp only [flat2,List.mem_cons,List.not_mem_nil,or_false] at hy
  rcases hy with rfl|rfl
  ·rw [e1];rfl
  ·rw [e2];rfl
 obtain⟨v',W',hrun,r1,r2,_,r4⟩:=run_append_own_at (P:=Tryz.prog) W base 24 ty 50 i0 _ 2 48 Tryz.underlying24 hi hz0 hz1 hz2 rfl (by decide) v l.length (flat2 us) h2 ad 1 c (flat2 [u]) (flat2_length _) hc hone (by unfold maxLen;omega) (by omega) hb
 refine⟨v',W',hrun,⟨us ++ [u],by simp [h1],by rw [List.length_append,flat2_append];exact r1,fun k hk=>?_,fun j y z hy hz=>?_⟩,r2,r4⟩
 ·rcases r4 with h|h
  ·rw [h] at hk;exact h3 k hk
  ·rw [h] at hk;injection hk with hk;rw [← hk];exact hN
 ·have hkeep:∀ (y:List C × List Tm) (z:Value × Value),ClRow (OkQ No W v) W y.1 z.1∧KdT (OkQ No W v) W (TmIn (OkQ No W v) W) y.2 z.2→ClRow (OkQ No W' v') W' y.1 z.1∧KdT (OkQ No W' v') W' (TmIn (OkQ No W' v') W') y.2 z.2:=fun y z h =>
   ⟨h.1.keep r2.size (okq_grown r2 r4) (fun q hq hs=>r2.block q hs hq.2.1),h.2.all r2.size (okq_grown r2 r4) (fun q hq hs=>r2.block q hs hq.2.1)⟩
  rcases Nat.lt_or_ge j l.length with hj|hj
  ·rw [List.getElem?_append_left hj] at hy
   rw [List.getElem?_append_left (by omega)] at hz
   exact hkeep _ _ (h4 j y z hy hz)
  ·rw [List.getElem?_append_right hj] at hy
   rw [List.getElem?_append_right (by omega),h1] at hz
   obtain⟨e1,e2⟩:x=y∧u=z:=by
    cases hd:j - l.length with
    | zero=>rw [hd] at hy hz;simp at hy hz;exact⟨hy,hz⟩
    | succ d=>rw [hd] at hy;simp at hy
   subst e1 e2
   exact hkeep _ _ hx
theorem branch_any (P:Nat→Prop) (r:List C) (vr:Value) (t:Tm) (v1:Value) (w:World) (hr:ClRow P w r vr) (h1:TmIn P w t v1) :
  Calls Tryz.prog 33 #[vr,v1] w fun e w'=>∃ o,e=.returned (.agg #[vr,.slice (some ⟨o,0,none⟩) 1 1])∧ClRow P w' r vr∧KdT (fun q=>P q∨(w.heap.size≤q∧q<w'.heap.size)) w' (TmIn (fun q=>P q∨(w.heap.size≤q∧q<w'.heap.size)) w') [t] (.slice (some ⟨o,0,none⟩) 1 1)∧Below w.heap.size w w':=by
 obtain⟨va,vc,e2,_⟩:=id hr
 subst e2
 obtain⟨ra1,rc1,ka1,kc1,sa1,sc1,rfl,ht1⟩:=h1.form
 obtain⟨w1,hw1⟩:∃ W,W=w.alloc (.cells #[.int .i64 t.kind,.int .i64 t.n,.string t.name,.slice ra1 t.r.length rc1,.slice ka1 t.kids.length kc1,.slice sa1 t.sys.length sc1] 26):=⟨_,rfl⟩
 have b1:Below w.heap.size w w1:=by rw [hw1];exact belowA _ _
 obtain⟨X,hX⟩:∃ X,X=w.heap.size:=⟨_,rfl⟩
 have s1:w1.heap.size=X+1:=by rw [hw1,hX];simp
 have x1:Six w1 (X) (.int .i64 t.kind) (.int .i64 t.n) (.string t.name) (.slice ra1 t.r.length rc1) (.slice ka1 t.kids.length kc1) (.slice sa1 t.sys.length sc1):=⟨by
  rw [hX,hw1]
  have q:=heapNew w (.cells #[.int .i64 t.kind,.int .i64 t.n,.string t.name,.slice ra1 t.r.length rc1,.slice ka1 t.kids.length kc1,.slice sa1 t.sys.length sc1] 26)
  try simp only [World.size_alloc] at q
  exact q⟩
 obtain⟨w1b,hw1b⟩:∃ W,W=w1.alloc (.cells #[.slice none 0 0,.slice none 0 0] 50):=⟨_,rfl⟩
 have b1b:Below w1.heap.size w1 w1b:=by rw [hw1b];exact belowA _ _
 have s1b:w1b.heap.size=X+2:=by rw [hw1b];simp [s1]
 have zz:Two w1b (X+1) (.slice none 0 0) (.slice none 0 0):=⟨by rw [hw1b,← s1];exact heapNew _ _⟩
 have x1:=x1.blw b1b
 have hr1:=((hr.lt' (ok':=fun q=>P q∧q<X) (fun q h hs=>⟨h,by rw [hX];exact hs⟩)).blw b1).blw b1b
 have ht1':=((h1.lt' (ok':=fun q=>P q∧q<X) (fun q h hs=>⟨h,by rw [hX];exact hs⟩)).blw b1).blw b1b
 obtain⟨LR,hLR⟩:∃ L,L=r.length:=⟨_,rfl⟩
 rw [← hLR] at hr1 ⊢
 obtain⟨o0,o1,ff⟩:=zz.cells
 have f0:=ff 0
 have f1:=ff 1
 have zz2:=zz.set2 (.slice va LR vc) (.slice (some ⟨X+2,0,none⟩) 1 1)
 obtain⟨w2,hw2⟩:∃ W,W=(w1b.setCell ⟨X+1,0,none⟩ (.slice va LR vc)).setCell ⟨X+1,1,none⟩ (.slice (some ⟨X+2,0,none⟩) 1 1):=⟨_,rfl⟩
 rw [← hw2] at zz2
 have kz:Kn (fun q=>q≠X+1) w1b w2:=by rw [hw2];exact (kn_set _ _ _ _).trans (kn_set _ _ _ _)
 have s2:w2.heap.size=X+2:=by rw [hw2];simp [World.setCell,s1b]
 obtain⟨w3,hwz⟩:∃ W,W=w2.alloc (.cells #[.int .i64 t.kind,.int .i64 t.n,.string t.name,.slice ra1 t.r.length rc1,.slice ka1 t.kids.length kc1,.slice sa1 t.sys.length sc1] 26):=⟨_,rfl⟩
 have b3:Below w2.heap.size w2 w3:=by rw [hwz];exact belowA _ _
 have hB3:w3.heap[X+2]? = some (.cells #[.int .i64 t.kind,.int .i64 t.n,.string t.name,.slice ra1 t.r.length rc1,.slice ka1 t.kids.length kc1,.slice sa1 t.sys.length sc1] 26 (0,0)):=by rw [hwz,← s2];exact heapNew _ _
 have s3:w3.heap.size=X+3:=by rw [hwz];simp [s2]
 have hr3:=(hr1.kn kz (fun q h=>by have:=h.2;omega)).blw b3
 have ht3:=((ht1'.kn kz (fun q h=>by have:=h.2;omega)).blw b3).up (ok':=fun q=>(P q∧q<X)∨q=X+2) (fun q h=>.inl h)
 have hk3:=kd_one hB3 (ok:=fun q=>(P q∧q<X)∨q=X+2) (.inr rfl) ht3
 have zz2:=zz2.blw b3
 have HR:Hid (ClRow P w3 r (.slice va LR vc)):=hr3.lt' (fun q h _=>h.1)
 have HK:Hid (KdT (fun q=>P q∨(X≤q∧q<w3.heap.size)) w3 (TmIn (fun q=>P q∨(X≤q∧q<w3.heap.size)) w3) [t] (.slice (some ⟨X+2,0,none⟩) 1 1)):=hk3.ltA (fun q h hs=>by rcases h with h | h;exact .inl h.1;exact .inr ⟨by omega,hs⟩)
 have HB:Hid (Below X w w3):=by
  have q3:=bchain b1 b1b
  rw [hX]
  have q4:=q3.trans (kz.below (fun q hq=>by omega) q3.size)
  exact q4.trans (b3.mono q4.size)
 have HW:Hid (_=_):=hw1
 have HWb:Hid (_=_):=hw1b
 have H2:Hid (_=_):=hw2
 have Hz:Hid (_=_):=hwz
 have HX:Hid (X=w.heap.size):=hX
 obtain⟨h0,h1',_⟩:=zz2.cells
 obtain⟨y0,y1,y2,y3,y4,y5,_⟩:=x1.cells
 rw [← hX]
 clear hw1 hw1b hw2 hwz hX b1 b1b b3 hr h1 ht1 hr1 ht1' hr3 ht3 hk3 hB3 zz zz2 kz hLR
 go_enter Tryz.func33,Tryz.ntmps33
 go_upto_region 1 with fail
 rw [← HW.out]
 rw [← HWb.out]
 simp only [← HX.out]
 clear HW HWb
 go_wp2_with fail
 rw [← H2.out]
 rw [← Hz.out]
 exact bodyPost_ret (v:=.agg #[.slice va LR vc,.slice (some ⟨X+2,0,none⟩) 1 1]) (by simp only [results,Tryz.results33];simp [go_sem,h0,h1']) rfl ⟨_,rfl,HR.out,HK.out,HB.out⟩
def hcT (l:List (List C × List Tm)):Tm:=.mk 15 0 ⟨#[]⟩ [] [wU,wU] l
theorem wU_at (ok:Nat→Prop) (w:World):TmIn ok w wU (.agg #[.int .i64 3,.int .i64 0,.string ⟨#[]⟩,.slice none 0 0,.slice none 0 0,.slice none 0 0]) :=
 .mk _ _ _ _ _ _ _ _ _ ⟨by decide,by decide⟩ ⟨by decide,by decide⟩ (cl_nil _ w) (kt_nil _ w _) (sy_nil _ w _)
theorem systems_any (P:Nat→Prop) (l:List (List C × List Tm)) (v:Value) (w:World) (hS:SyT P w (TmIn P w) l v) :
  Calls Tryz.prog 30 #[v] w fun e w'=>∃ v',e=.returned v'∧TmIn (fun q=>P q∨(w.heap.size≤q∧q<w'.heap.size)) w' (hcT l) v'∧Below w.heap.size w w':=by
 obtain⟨sa,sc,rfl,_⟩:=id hS
 obtain⟨LS,hLS⟩:∃ L,L=l.length:=⟨_,rfl⟩
 obtain⟨w1,hw1⟩:∃ W,W=w.alloc (.cells #[.int .i64 0,.int .i64 0,.string ⟨#[]⟩,.slice none 0 0,.slice none 0 0,.slice none 0 0] 26):=⟨_,rfl⟩
 have b1:Below w.heap.size w w1:=by rw [hw1];exact belowA _ _
 obtain⟨X,hX⟩:∃ X,X=w.heap.size:=⟨_,rfl⟩
 have s1:w1.heap.size=X+1:=by rw [hw1,hX];simp
 have x1:Six w1 (X) (.int .i64 0) (.int .i64 0) (.string ⟨#[]⟩) (.slice none 0 0) (.slice none 0 0) (.slice none 0 0):=⟨by
  rw [hX,hw1]
  have q:=heapNew w (.cells #[.int .i64 0,.int .i64 0,.string ⟨#[]⟩,.slice none 0 0,.slice none 0 0,.slice none 0 0] 26)
  try simp only [World.size_alloc] at q
  exact q⟩
 have hS1:=(hS.ltA (ok':=fun q=>P q∧q<X) (fun q h hs=>⟨h,by rw [hX];exact hs⟩)).blw b1
 rw [← hLS] at hS1 ⊢
 have c1:=node_any 3 none 0 0 w1
 have HW:Hid (_=_):=hw1
 have HX:Hid (X=w.heap.size):=hX
 have Hb1:Hid (Below w.heap.size w w1):=b1
 rw [← hX]
 clear hw1 hX b1 hS hLS
 go_enter Tryz.func30,Tryz.ntmps30
 go_upto_region 1 with fail
 rw [← HW.out]
 simp only [← HX.out]
 clear HW
 go_wp2_with fail
 refine c1.mono ?_
 rintro e w2 ⟨rfl,b2⟩
 clear c1
 have c2:=node_any 3 none 0 0 w2
 go_wp2_with fail
 refine c2.mono ?_
 rintro e w3 ⟨rfl,b3⟩
 clear c2
 have b13:Below w1.heap.size w1 w3:=bchain b2 b3
 have hS3:=hS1.blw b13
 have zz:=x1.blw b13
 have s3:=b13.size
 obtain⟨o,ho⟩:∃ o,o=w3.heap.size:=⟨_,rfl⟩
 obtain⟨w4,hw4⟩:∃ W,W=w3.alloc (.cells #[.int .i64 3,.int .i64 0,.string ⟨#[]⟩,.slice none 0 0,.slice none 0 0,.slice none 0 0,.int .i64 3,.int .i64 0,.string ⟨#[]⟩,.slice none 0 0,.slice none 0 0,.slice none 0 0] 26):=⟨_,rfl⟩
 have b4:Below w3.heap.size w3 w4:=by rw [hw4];exact belowA _ _
 have hB4:w4.heap[o]? = some (.cells #[.int .i64 3,.int .i64 0,.string ⟨#[]⟩,.slice none 0 0,.slice none 0 0,.slice none 0 0,.int .i64 3,.int .i64 0,.string ⟨#[]⟩,.slice none 0 0,.slice none 0 0,.slice none 0 0] 26 (0,0)):=by rw [hw4,ho];exact heapNew _ _
 have s4:w4.heap.size=o+1:=by rw [hw4,ho];simp
 have hS4:=hS3.blw b4
 have zz:=zz.blw b4
 have hk4:KdT (fun q=>q=o) w4 (TmIn (fun q=>q=o) w4) [wU,wU] (.slice (some ⟨o,0,none⟩) 2 2):=kd_two hB4 rfl (wU_at _ _) (wU_at _ _)
 have c4:=node_any 15 (some ⟨o,0,none⟩) 2 2 w4
 have hoX:X+1≤o:=by omega
 have b14:=b13.trans (b4.mono b13.size)
 have H4:Hid (_=_):=hw4
 have Ho:Hid (_=_):=ho
 clear hw4 ho hS1 hS3 hB4 b2 b3 b4 b13 x1
 go_wp2_with fail
 rw [← H4.out]
 simp only [← Ho.out]
 refine c4.mono ?_
 rintro e w5 ⟨rfl,b5⟩
 clear c4 H4
 have hS5:=hS4.blw b5
 have hk5:=hk4.blw b5
 have zz:=zz.blw b5
 have s5:=b5.size
 have b15:=b14.trans (b5.mono b14.size)
 obtain⟨Y,hY⟩:∃ Y,Y=w5.heap.size:=⟨_,rfl⟩
 obtain⟨w6,hw6⟩:∃ W,W=w5.alloc (.cells #[.int .i64 15,.int .i64 0,.string ⟨#[]⟩,.slice none 0 0,.slice (some ⟨o,0,none⟩) 2 2,.slice none 0 0] 26):=⟨_,rfl⟩
 have b6:Below w5.heap.size w5 w6:=by rw [hw6];exact belowA _ _
 have z6:Six w6 Y (.int .i64 15) (.int .i64 0) (.string ⟨#[]⟩) (.slice none 0 0) (.slice (some ⟨o,0,none⟩) 2 2) (.slice none 0 0):=⟨by rw [hw6,hY];exact heapNew _ _⟩
 have s6:w6.heap.size=Y+1:=by rw [hw6,hY];simp
 obtain⟨y0,y1,y2,y3,y4,y5,yf⟩:=z6.cells
 have g5:=yf 5
 obtain⟨w7,hw7⟩:∃ W,W=w6.setCell ⟨Y,5,none⟩ (.slice sa LS sc):=⟨_,rfl⟩
 have z7:Six w7 Y (.int .i64 15) (.int .i64 0) (.string ⟨#[]⟩) (.slice none 0 0) (.slice (some ⟨o,0,none⟩) 2 2) (.slice sa LS sc):=by rw [hw7];exact z6.set5 _
 have k7:Kn (fun q=>q≠Y) w6 w7:=by rw [hw7];exact kn_set _ _ _ _
 have hYo:o+1≤Y:=by omega
 have zz:=(zz.blw b6).kn k7 (by omega)
 have hS7:=(hS5.blw b6).kn k7 (fun q h=>by have:=h.2;omega)
 have hk7:=(hk5.blw b6).kn k7 (fun q h=>by omega)
 have s7:=k7.size
 have b16:=b15.trans (b6.mono b15.size)
 have hB7:Below X w w7:=by
  have q1:Below w.heap.size w w6:=Hb1.out.trans (b16.mono Hb1.out.size)
  rw [HX.out]
  exact q1.trans (k7.below (fun q hq=>by have:=HX.out;omega) q1.size)
 have H6:Hid (_=_):=hw6
 have H7:Hid (_=_):=hw7
 have HY:Hid (_=_):=hY
 clear hw6 hw7 hY z6 yf k7 b6 hS4 hS5 hk4 hk5 b5 b14 b15 b16
 go_upto_region 2 with fail
 rw [← H6.out]
 simp only [← HY.out]
 go_upto_region 3 with fail
 rw [← H7.out]
 clear H6 H7 HY y0 y1 y2 y3 y4 y5 g5
 obtain⟨y0,y1,y2,y3,y4,y5,_⟩:=z7.cells
 obtain⟨w8,hwz,zz2,kz,o0,o1,o2,o3,o4,o5,f0,f1,f2,f3,f4,f5⟩:=zst zz (.int .i64 15) (.int .i64 0) (.string ⟨#[]⟩) (.slice none 0 0) (.slice (some ⟨o,0,none⟩) 2 2) (.slice sa LS sc)
 have hS8:=hS7.kn kz (fun q h=>by have:=h.2;omega)
 have hk8:=hk7.kn kz (fun q h=>by omega)
 have s8:=kz.size
 have hF:Hid (TmIn (fun q=>P q∨(X≤q∧q<w8.heap.size)) w8 (hcT l) (.agg #[.int .i64 15,.int .i64 0,.string ⟨#[]⟩,.slice none 0 0,.slice (some ⟨o,0,none⟩) 2 2,.slice sa LS sc])):=.mk _ _ _ _ _ _ _ _ _ ⟨by decide,by decide⟩ ⟨by decide,by decide⟩ (cl_nil _ _) (hk8.ltA fun q h hs=>.inr ⟨by omega,hs⟩) (hS8.ltA fun q h _=>.inl h.1)
 have hBf:Below X w w8:=hB7.trans (kz.below (fun q hq=>by omega) (by have:=hB7.size;have:=HX.out;omega))
 obtain⟨h0,h1,h2,h3,h4,h5,_⟩:=zz2.cells
 have Hwz:Hid (_=_):=hwz
 clear hwz kz zz zz2 hS7 hk7 hS8 hk8 hB7
 go_wp2_with fail
 rw [← Hwz.out]
 exact bodyPost_ret (v:=.agg #[.int .i64 15,.int .i64 0,.string ⟨#[]⟩,.slice none 0 0,.slice (some ⟨o,0,none⟩) 2 2,.slice sa LS sc]) (by simp only [results,Tryz.results30];simp [go_sem,h0,h1,h2,h3,h4,h5]) rfl ⟨_,rfl,hF.out,hBf⟩
def varT (n:Int):Tm:=.mk 1 n ⟨#[]⟩ [] [] []
theorem var_in (ok:Nat→Prop) (n:Int) (hn:I64 n) (w:World):TmIn ok w (varT n) (.agg #[.int .i64 1,.int .i64 n,.string ⟨#[]⟩,.slice none 0 0,.slice none 0 0,.slice none 0 0]) :=
 .mk _ _ _ _ _ _ _ _ _ ⟨by decide,by decide⟩ hn (cl_nil _ w) (kt_nil _ w _) (sy_nil _ w _)
theorem variable_any (n:Int) (w:World) :
  Calls Tryz.prog 67 #[.int .i64 n] w fun e w'=>e=.returned (.agg #[.int .i64 1,.int .i64 n,.string ⟨#[]⟩,.slice none 0 0,.slice none 0 0,.slice none 0 0])∧Below w.heap.size w w':=by
 obtain⟨w1,hw1⟩:∃ W,W=w.alloc (.cells #[.int .i64 0,.int .i64 0,.string ⟨#[]⟩,.slice none 0 0,.slice none 0 0,.slice none 0 0] 26):=⟨_,rfl⟩
 have b1:Below w.heap.size w w1:=by rw [hw1];exact belowA _ _
 obtain⟨X,hX⟩:∃ X,X=w.heap.size:=⟨_,rfl⟩
 have s1:w1.heap.size=X+1:=by rw [hw1,hX];simp
 have x1:Six w1 (X) (.int .i64 0) (.int .i64 0) (.string ⟨#[]⟩) (.slice none 0 0) (.slice none 0 0) (.slice none 0 0):=⟨by
  rw [hX,hw1]
  have q:=heapNew w (.cells #[.int .i64 0,.int .i64 0,.string ⟨#[]⟩,.slice none 0 0,.slice none 0 0,.slice none 0 0] 26)
  try simp only [World.size_alloc] at q
  exact q⟩
 have HW:Hid (_=_):=hw1
 have HX:Hid (X=w.heap.size):=hX
 have Hb1:Hid (Below w.heap.size w w1):=b1
 clear hw1 hX b1
 go_enter Tryz.func67,Tryz.ntmps67
 go_upto_region 1 with fail
 rw [← HW.out]
 simp only [← HX.out]
 clear HW
 have zz:=x1
 obtain⟨w4,hwz,zz2,kz,o0,o1,o2,o3,o4,o5,f0,f1,f2,f3,f4,f5⟩:=zst zz (.int .i64 1) (.int .i64 n) (.string ⟨#[]⟩) (.slice none 0 0) (.slice none 0 0) (.slice none 0 0)
 have hK4:Below w.heap.size w w4:=Hb1.out.trans (kz.below (fun q hq=>by have:=HX.out;omega) (by have:=Hb1.out.size;omega))
 obtain⟨h0,h1,h2,h3,h4,h5,_⟩:=zz2.cells
 have Hwz:Hid (_=_):=hwz
 clear hwz kz zz zz2
 go_wp2_with fail
 rw [← Hwz.out]
 exact bodyPost_ret (v:=.agg #[.int .i64 1,.int .i64 n,.string ⟨#[]⟩,.slice none 0 0,.slice none 0 0,.slice none 0 0]) (by simp only [results,Tryz.results67];simp [go_sem,h0,h1,h2,h3,h4,h5]) rfl ⟨rfl,hK4⟩
end Go.Proofs.YtmblbmdchinflaaGreat
