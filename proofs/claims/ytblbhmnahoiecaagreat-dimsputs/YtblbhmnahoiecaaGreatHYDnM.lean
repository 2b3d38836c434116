/- A part of the proof. -/
import Derived.Test.YtblbhmnahoiecaaGreatHG7
set_option linter.unusedVariables false
set_option linter.unusedSimpArgs false
namespace Go.Proofs.YtblbhmnahoiecaaGreat
open Go.RowKit
def OkS (B:Nat->Prop) (base:Nat) (w:World) (q:Nat):Prop:=(B q/\q<w.heap.size)\/OkN base w q
theorem OkS.lt {B:Nat->Prop} {base:Nat} {w:World} {q:Nat} (h:OkS B base w q):q<w.heap.size:=h.elim (fun h=>h.2) OkN.lt
theorem OkS.same {B:Nat->Prop} {base:Nat} {w w':World} {q:Nat} (h:OkS B base w q) (hb:w'.heap[q]? = w.heap[q]?):OkS B base w' q :=
 h.elim (fun h=>.inl ⟨h.1,(Array.getElem?_eq_some_iff.1 (hb.trans (Array.getElem?_eq_getElem h.2))).1⟩) (fun h=>.inr (h.same hb))
theorem OkS.mono {B:Nat->Prop} {base base':Nat} {w:World} {q:Nat} (h:OkS B base w q) (hb:base'<=base):OkS B base' w q:=h.elim .inl (fun h=>.inr (h.mono hb))
theorem OkS.blw {B:Nat->Prop} {base:Nat} {w w':World} {q:Nat} (h:OkS B base w q) (hb:Below w.heap.size w w'):OkS B base w' q:=h.same (hb.block q h.lt)
theorem ClRow.lts {w:World} {l:List C} {v:Value} (h:ClRow Tt w l v):ClRow (fun q=>q<w.heap.size) w l v:=by
 obtain⟨a,cap,e,h1,h2⟩:=h
 refine⟨a,cap,e,h1,fun j c hj=>?_⟩
 obtain⟨g,off,e1,_,h3,h4⟩:=h2 j c hj
 exact⟨g,off,e1,h3,h3,h4⟩
theorem TmIn.lts' {w:World}:∀ (n:Nat) (t:Tm) (v:Value),blk t<=n->TmIn Tt w t v->TmIn (fun q=>q<w.heap.size) w t v
 | 0,t,v,hn,_=>by have:=blk_pos t;omega
 | n+1,t,v,hn,h=>by
  obtain⟨ra,rc,ka,kc,sa,sc,rfl,ht⟩:=h.form
  have hk:KdT (fun q=>q<w.heap.size) w (TmIn (fun q=>q<w.heap.size) w) t.kids (.slice ka t.kids.length kc):=by
   obtain⟨a,cap,e,h1,h2⟩:=ht.kids
   refine⟨a,cap,e,h1,fun j x hx=>?_⟩
   obtain⟨g,off,u0,u1,u2,u3,u4,u5,e1,_,h3,h4,h5⟩:=h2 j x hx
   exact⟨g,off,u0,u1,u2,u3,u4,u5,e1,h3,h3,TmIn.lts' n x _ (by have:=blk_kid (List.mem_of_getElem? hx);omega) h4,h5⟩
  have hs:SyT (fun q=>q<w.heap.size) w (TmIn (fun q=>q<w.heap.size) w) t.sys (.slice sa t.sys.length sc):=by
   obtain⟨a,cap,e,h1,h2⟩:=ht.sys
   refine⟨a,cap,e,h1,fun j b hb=>?_⟩
   obtain⟨g,off,vf,vk,e1,_,h3,h4,h5,h6⟩:=h2 j b hb
   refine⟨g,off,vf,vk,e1,h3,h3,h4.lts,?_,h6⟩
   obtain⟨a',cap',e',h1',h2'⟩:=h5
   refine⟨a',cap',e',h1',fun j x hx=>?_⟩
   obtain⟨g,off,u0,u1,u2,u3,u4,u5,e1,_,h3,h4,h5⟩:=h2' j x hx
   exact⟨g,off,u0,u1,u2,u3,u4,u5,e1,h3,h3,TmIn.lts' n x _ (by have:=blk_sub (List.mem_of_getElem? hb) (List.mem_of_getElem? hx);omega) h4,h5⟩
  obtain⟨k0,n0,s0,r0,l0,y0⟩:=t
  exact TmIn.mk k0 n0 s0 r0 l0 y0 _ _ _ ht.ik ht.inn ht.row.lts hk hs
theorem TmIn.lts {w:World} {t:Tm} {v:Value} (h:TmIn Tt w t v):TmIn (fun q=>q<w.heap.size) w t v:=TmIn.lts' _ t v (Nat.le_refl _) h
section
variable {B:Nat->Prop}
def OkRS (B:Nat->Prop) (base:Nat) (No:Nat->Prop) (w:World) (v:Value) (q:Nat):Prop:=OkS B base w q/\some q≠v.ownBlock/\No q
def KOwS (B:Nat->Prop) (base:Nat) (No:Nat->Prop) (w:World) (v:Value) (l:List Tm):Prop :=
 ∃ us:List V6,us.length=l.length/\w.ownsRow base 26 6 v l.length (flat6 us)/\(∀ k,v.ownBlock=some k->No k)/\∀ (j:Nat) (x:Tm) (u:V6),l[j]? = some x->us[j]? = some u->TmIn (OkRS B base No w v) w x (agg6 u)
def BOwS (B:Nat->Prop) (base:Nat) (No:Nat->Prop) (w:World) (v:Value) (l:List (List C × List Tm)):Prop :=
 ∃ us:List (Value × Value),us.length=l.length/\w.ownsRow base 40 2 v l.length (flat2 us)/\(∀ k,v.ownBlock=some k->No k)/\∀ (j:Nat) (x:List C × List Tm) (u:Value × Value),l[j]? = some x->us[j]? = some u->ClRow (OkRS B base No w v) w x.1 u.1/\KdT (OkRS B base No w v) w (TmIn (OkRS B base No w v) w) x.2 u.2
theorem KOwS.nil (base:Nat) (No:Nat->Prop) (w:World):KOwS B base No w (.slice none 0 0) []:=⟨[],rfl,World.ownsRow_nil _ _ _ _,fun k h=>(by cases h),fun j x u h=>by simp at h⟩
theorem BOwS.nil (base:Nat) (No:Nat->Prop) (w:World):BOwS B base No w (.slice none 0 0) []:=⟨[],rfl,World.ownsRow_nil _ _ _ _,fun k h=>(by cases h),fun j x u h=>by simp at h⟩
theorem KOwS.keep {base:Nat} {No No2:Nat->Prop} {w w':World} {v:Value} {l:List Tm} (h:KOwS B base No w v l) (hk:Kn No2 w w') (hn:∀ q,No q->No2 q):KOwS B base No w' v l:=by
 obtain⟨us,h1,h2,h3,h4⟩:=h
 refine⟨us,h1,owns_keep h2 (fun k hk'=>hk.block k (hn k (h3 k hk')) (World.ownsRow.lt h2 k hk').2),h3,fun j x u hx hu=>(h4 j x u hx hu).keep hk.size (fun q hq=>?_) (fun q hq hs=>hk.block q (hn q hq.2.2) hs)⟩
 exact⟨hq.1.same (hk.block q (hn q hq.2.2) hq.1.lt),hq.2⟩
theorem BOwS.keep {base:Nat} {No No2:Nat->Prop} {w w':World} {v:Value} {l:List (List C × List Tm)} (h:BOwS B base No w v l) (hk:Kn No2 w w') (hn:∀ q,No q->No2 q):BOwS B base No w' v l:=by
 obtain⟨us,h1,h2,h3,h4⟩:=h
 have ho:∀ q,OkRS B base No w v q->OkRS B base No w' v q:=fun q hq=>⟨hq.1.same (hk.block q (hn q hq.2.2) hq.1.lt),hq.2⟩
 have hb:∀ q,OkRS B base No w v q->q<w.heap.size->w'.heap[q]? = w.heap[q]?:=fun q hq hs=>hk.block q (hn q hq.2.2) hs
 refine⟨us,h1,owns_keep h2 (fun k hk'=>hk.block k (hn k (h3 k hk')) (World.ownsRow.lt h2 k hk').2),h3,fun j x u hx hu=>⟨(h4 j x u hx hu).1.keep hk.size ho hb,(h4 j x u hx hu).2.all hk.size ho hb⟩⟩
theorem KOwS.row {base:Nat} {No:Nat->Prop} {w:World} {v:Value} {l:List Tm} (h:KOwS B base No w v l):KdT (fun q=>OkS B base w q/\No q) w (TmIn (fun q=>OkS B base w q/\No q) w) l v:=by
 obtain⟨us,h1,h2,h3,h4⟩:=h
 rcases h2.2 with ⟨rfl,hz⟩|⟨g,cap,cur,rfl,hb,hh,hn,_,_,hc⟩
 ·obtain rfl:l=[]:=List.length_eq_zero_iff.1 hz
  exact kt_nil _ _ _
 ·refine⟨_,_,rfl,hn,fun j x hx=>?_⟩
  obtain⟨u,hu⟩:=someL (l:=us) (k:=j) (by have:=some_lt hx;omega)
  have hcell:=h2.cells (g:=g) rfl
  obtain⟨f0,f1,f2,f3,f4,f5⟩:=flat6_get us j u hu
  refine⟨g,0,u.1,u.2.1,u.2.2.1,u.2.2.2.1,u.2.2.2.2.1,u.2.2.2.2.2,rfl,⟨.inr ⟨hb,cur,_,hh⟩,h3 g rfl⟩,(Array.getElem?_eq_some_iff.1 hh).1,(h4 j x u hx hu).up fun q hq=>⟨hq.1,hq.2.2⟩,?_,?_,?_,?_,?_,?_⟩
  ·have:=hcell _ _ f0;rw [Addr.add_lit] at this;simpa using this
  ·have:=hcell _ _ f1;rw [Addr.add_lit] at this;simpa using this
  ·have:=hcell _ _ f2;rw [Addr.add_lit] at this;simpa using this
  ·have:=hcell _ _ f3;rw [Addr.add_lit] at this;simpa using this
  ·have:=hcell _ _ f4;rw [Addr.add_lit] at this;simpa using this
  ·have:=hcell _ _ f5;rw [Addr.add_lit] at this;simpa using this
theorem BOwS.row {base:Nat} {No:Nat->Prop} {w:World} {v:Value} {l:List (List C × List Tm)} (h:BOwS B base No w v l):SyT (fun q=>OkS B base w q/\No q) w (TmIn (fun q=>OkS B base w q/\No q) w) l v:=by
 obtain⟨us,h1,h2,h3,h4⟩:=h
 rcases h2.2 with ⟨rfl,hz⟩|⟨g,cap,cur,rfl,hb,hh,hn,_,_,hc⟩
 ·obtain rfl:l=[]:=List.length_eq_zero_iff.1 hz
  exact sy_nil _ _ _
 ·refine⟨_,_,rfl,hn,fun j x hx=>?_⟩
  obtain⟨u,hu⟩:=someL (l:=us) (k:=j) (by have:=some_lt hx;omega)
  have hcell:=h2.cells (g:=g) rfl
  obtain⟨f0,f1⟩:=flat2_get us j u hu
  obtain⟨p1,p2⟩:=h4 j x u hx hu
  refine⟨g,0,u.1,u.2,rfl,⟨.inr ⟨hb,cur,_,hh⟩,h3 g rfl⟩,(Array.getElem?_eq_some_iff.1 hh).1,p1.keep (Nat.le_refl _) (fun q hq=>⟨hq.1,hq.2.2⟩) (fun _ _ _=>rfl),p2.all (Nat.le_refl _) (fun q hq=>⟨hq.1,hq.2.2⟩) (fun _ _ _=>rfl),?_,?_⟩
  ·have:=hcell _ _ f0;rw [Addr.add_lit] at this;simpa using this
  ·have:=hcell _ _ f1;rw [Addr.add_lit] at this;simpa using this
theorem okrs_grown {base:Nat} {No:Nat->Prop} {W W':World} {v v':Value} (hg:W.grownBy W' v.ownBlock) (hv:v'.ownBlock=v.ownBlock\/v'.ownBlock=some W.heap.size) (q:Nat) (hq:OkRS B base No W v q):OkRS B base No W' v' q:=by
 have hlt:=hq.1.lt
 refine⟨hq.1.same (hg.block q hlt hq.2.1),?_,hq.2.2⟩
 rcases hv with h|h
 ·rw [h];exact hq.2.1
 ·rw [h];intro e;injection e with e;omega
theorem append_TS {base:Nat} {No:Nat->Prop} {W:World} {v:Value} {l:List Tm} {x:Tm} {u:V6} (ty:TypeId) (hO:KOwS B base No W v l) (ad:Addr) (c:Nat) (hc:∀ (j:Nat) (y:Value),(flat6 [u])[j]? = some y->W.cell? (ad.add j)=some y) (hx:TmIn (OkRS B base No W v) W x (agg6 u)) (hn:l.length+1<=200000) (hb:base<=W.heap.size) (hN:No W.heap.size) :
  ∃ v' W',(Builtin.append_ #[23,23] ty #[v,.slice (some ad) 1 c]).run Tryz.prog W=.ok v' W'/\KOwS B base No W' v' (l ++ [x])/\W.grownBy W' v.ownBlock/\(v'.ownBlock=v.ownBlock\/v'.ownBlock=some W.heap.size):=by
 obtain⟨i0,hi,hz0,hz1,hz2⟩:=info_parts infoT
 obtain⟨us,h1,h2,h3,h4⟩:=hO
 obtain⟨ra,rc,ka,kc,sa,sc,e,ht⟩:=hx.form
 have hone:∀ y∈flat6 [u],y.oneCell'=true:=by
  unfold agg6 at e
  injection e with e
  simp only [Array.mk.injEq,List.cons.injEq,and_true] at e
  obtain⟨e0,e1,e2,e3,e4,e5⟩:=e
  intro y hy
  simp only [flat6,List.mem_cons,List.not_mem_nil,or_false] at hy
  rcases hy with rfl|rfl|rfl|rfl|rfl|rfl
  ·rw [e0];rfl
  ·rw [e1];rfl
  ·rw [e2];rfl
  ·rw [e3];rfl
  ·rw [e4];rfl
  ·rw [e5];rfl
 obtain⟨v',W',hrun,r1,r2,_,r4⟩:=run_append_own_at (P:=Tryz.prog) W base 23 ty 26 i0 _ 6 104 Tryz.underlying23 hi hz0 hz1 hz2 rfl (by decide) v l.length (flat6 us) h2 ad 1 c (flat6 [u]) (flat6_length _) hc hone (by unfold maxLen;omega) (by omega) hb
 refine⟨v',W',hrun,⟨us ++ [u],by simp [h1],by rw [List.length_append,flat6_append];exact r1,fun k hk=>?_,fun j y z hy hz=>?_⟩,r2,r4⟩
 ·rcases r4 with h|h
  ·rw [h] at hk;exact h3 k hk
  ·rw [h] at hk;injection hk with hk;rw [<- hk];exact hN
 ·have hkeep:∀ t z,TmIn (OkRS B base No W v) W t z->TmIn (OkRS B base No W' v') W' t z:=fun t z h=>h.keep r2.size (okrs_grown r2 r4) (fun q hq hs=>r2.block q hs hq.2.1)
  rcases Nat.lt_or_ge j l.length with hj|hj
  ·rw [List.getElem?_append_left hj] at hy
   rw [List.getElem?_append_left (by omega)] at hz
   exact hkeep _ _ (h4 j y z hy hz)
  ·rw [List.getElem?_append_right hj] at hy
   rw [List.getElem?_append_right (by omega),h1] at hz
   obtain⟨e1,e2⟩:x=y/\u=z:=by
    cases hd:j - l.length with
    | zero=>rw [hd] at hy hz;simp at hy hz;exact⟨hy,hz⟩
    | succ d=>rw [hd] at hy;simp at hy
   subst e1 e2
   exact hkeep _ _ hx
theorem append_BS {base:Nat} {No:Nat->Prop} {W:World} {v:Value} {l:List (List C × List Tm)} {x:List C × List Tm} {u:Value × Value} (ty:TypeId) (hO:BOwS B base No W v l) (ad:Addr) (c:Nat) (hc:∀ (j:Nat) (y:Value),(flat2 [u])[j]? = some y->W.cell? (ad.add j)=some y) (hx:ClRow (OkRS B base No W v) W x.1 u.1/\KdT (OkRS B base No W v) W (TmIn (OkRS B base No W v) W) x.2 u.2) (hn:l.length+1<=200000) (hb:base<=W.heap.size) (hN:No W.heap.size) :
  ∃ v' W',(Builtin.append_ #[24,24] ty #[v,.slice (some ad) 1 c]).run Tryz.prog W=.ok v' W'/\BOwS B base No W' v' (l ++ [x])/\W.grownBy W' v.ownBlock/\(v'.ownBlock=v.ownBlock\/v'.ownBlock=some W.heap.size):=by
 obtain⟨i0,hi,hz0,hz1,hz2⟩:=info_parts infoB
 obtain⟨us,h1,h2,h3,h4⟩:=hO
 have hone:∀ y∈flat2 [u],y.oneCell'=true:=by
  obtain⟨⟨a1,c1,e1,_⟩,⟨a2,c2,e2,_⟩⟩:=hx
  intro y hy
  simp only [flat2,List.mem_cons,List.not_mem_nil,or_false] at hy
  rcases hy with rfl|rfl
  ·rw [e1];rfl
  ·rw [e2];rfl
 obtain⟨v',W',hrun,r1,r2,_,r4⟩:=run_append_own_at (P:=Tryz.prog) W base 24 ty 40 i0 _ 2 48 Tryz.underlying24 hi hz0 hz1 hz2 rfl (by decide) v l.length (flat2 us) h2 ad 1 c (flat2 [u]) (flat2_length _) hc hone (by unfold maxLen;omega) (by omega) hb
 refine⟨v',W',hrun,⟨us ++ [u],by simp [h1],by rw [List.length_append,flat2_append];exact r1,fun k hk=>?_,fun j y z hy hz=>?_⟩,r2,r4⟩
 ·rcases r4 with h|h
  ·rw [h] at hk;exact h3 k hk
  ·rw [h] at hk;injection hk with hk;rw [<- hk];exact hN
 ·have hkeep:∀ (y:List C × List Tm) (z:Value × Value),ClRow (OkRS B base No W v) W y.1 z.1/\KdT (OkRS B base No W v) W (TmIn (OkRS B base No W v) W) y.2 z.2->ClRow (OkRS B base No W' v') W' y.1 z.1/\KdT (OkRS B base No W' v') W' (TmIn (OkRS B base No W' v') W') y.2 z.2:=fun y z h =>
   ⟨h.1.keep r2.size (okrs_grown r2 r4) (fun q hq hs=>r2.block q hs hq.2.1),h.2.all r2.size (okrs_grown r2 r4) (fun q hq hs=>r2.block q hs hq.2.1)⟩
  rcases Nat.lt_or_ge j l.length with hj|hj
  ·rw [List.getElem?_append_left hj] at hy
   rw [List.getElem?_append_left (by omega)] at hz
   exact hkeep _ _ (h4 j y z hy hz)
  ·rw [List.getElem?_append_right hj] at hy
   rw [List.getElem?_append_right (by omega),h1] at hz
   obtain⟨e1,e2⟩:x=y/\u=z:=by
    cases hd:j - l.length with
    | zero=>rw [hd] at hy hz;simp at hy hz;exact⟨hy,hz⟩
    | succ d=>rw [hd] at hy;simp at hy
   subst e1 e2
   exact hkeep _ _ hx
theorem KOwS.len {base:Nat} {No:Nat->Prop} {w:World} {v:Value} {l:List Tm} (h:KOwS B base No w v l):∃ a c,v=.slice a l.length c:=by obtain⟨us,_,h2,_⟩:=h;exact owns_len h2
theorem BOwS.len {base:Nat} {No:Nat->Prop} {w:World} {v:Value} {l:List (List C × List Tm)} (h:BOwS B base No w v l):∃ a c,v=.slice a l.length c:=by obtain⟨us,_,h2,_⟩:=h;exact owns_len h2
structure HalfS (B:Nat->Prop) (n o:Nat) (r:List C) (l:List Tm) (W:World) (va vk:Value):Prop where
 row:ClRow (OkRS B n (fun q=>q≠o) W vk) W r va
 kids:KOwS B n (fun q=>q≠o) W vk l
 ge:n<=o
 bn:∀ q,B q->q<n
theorem HalfS.keep {n o:Nat} {r:List C} {l:List Tm} {W W':World} {va vk:Value} (h:HalfS B n o r l W va vk) (hk:Kn (fun q=>n<=q->q≠o->q<W.heap.size) W W'):HalfS B n o r l W' va vk:=by
 refine⟨h.row.keep hk.size (fun q hq=>⟨hq.1.same (hk.block q (fun _ _=>hq.1.lt) hq.1.lt),hq.2⟩) (fun q hq hs=>hk.block q (fun _ _=>hs) hs),?_,h.ge,h.bn⟩
 obtain⟨us,h1,h2,h3,h4⟩:=h.kids
 refine⟨us,h1,owns_keep h2 (fun k hk'=>hk.block k (fun _ _=>(World.ownsRow.lt h2 k hk').2) (World.ownsRow.lt h2 k hk').2),h3,fun j x u hx hu=>(h4 j x u hx hu).keep hk.size (fun q hq=>⟨hq.1.same (hk.block q (fun _ _=>hq.1.lt) hq.1.lt),hq.2⟩) (fun q hq hs=>hk.block q (fun _ _=>hs) hs)⟩
theorem HalfS.blw {n o:Nat} {r:List C} {l:List Tm} {W W':World} {va vk:Value} (h:HalfS B n o r l W va vk) (hb:Below W.heap.size W W'):HalfS B n o r l W' va vk:=h.keep (Kn.of_below hb)
theorem HalfS.set {n o:Nat} {r:List C} {l:List Tm} {W W':World} {va vk:Value} (h:HalfS B n o r l W va vk) (hk:Kn (fun q=>q≠o) W W'):HalfS B n o r l W' va vk:=by
 refine⟨h.row.keep hk.size (fun q hq=>⟨hq.1.same (hk.block q hq.2.2 hq.1.lt),hq.2⟩) (fun q hq hs=>hk.block q hq.2.2 hs),h.kids.keep hk (fun q h=>h),h.ge,h.bn⟩
theorem HalfS.next {n o:Nat} {r:List C} {l:List Tm} {W W2:World} {va vk:Value} {x:Tm} {u:V6} (ty:TypeId) (h:HalfS B n o r l W va vk) (hnW:n<=W.heap.size) (ho:o<W.heap.size) (hb:Below W.heap.size W W2) (hx:TmIn (OkS B W.heap.size W2) W2 x (agg6 u)) (hl:l.length+1<=200000) :
  ∃ vk' W4,(Builtin.append_ #[23,23] ty #[vk,.slice (some ⟨W2.heap.size,0,none⟩) 1 1]).run Tryz.prog (W2.alloc (.cells #[u.1,u.2.1,u.2.2.1,u.2.2.2.1,u.2.2.2.2.1,u.2.2.2.2.2] 26))=.ok vk' W4/\HalfS B n o r (l ++ [x]) W4 va vk'/\Below n W W4/\W4.heap[o]? = W.heap[o]?:=by
 obtain⟨W3,hW3⟩:∃ W3,W3=W2.alloc (.cells #[u.1,u.2.1,u.2.2.1,u.2.2.2.1,u.2.2.2.2.1,u.2.2.2.2.2] 26):=⟨_,rfl⟩
 have b3:Below W2.heap.size W2 W3:=by rw [hW3];exact belowA _ _
 have hn:=heapNew W2 (.cells #[u.1,u.2.1,u.2.2.1,u.2.2.2.1,u.2.2.2.2.1,u.2.2.2.2.2] 26)
 rw [<- hW3] at hn ⊢
 have bb:=bchain hb b3
 have h3:=h.blw bb
 have hs3:W3.heap.size=W2.heap.size+1:=by rw [hW3];simp
 have hlt:∀ k,vk.ownBlock=some k->n<=k/\k<W.heap.size/\k≠o:=fun k hk=>by
  obtain⟨us,h1,h2,h4,_⟩:=h.kids
  exact⟨(World.ownsRow.lt h2 k hk).1,(World.ownsRow.lt h2 k hk).2,h4 k hk⟩
 have hs2:=hb.size
 have hx3:TmIn (OkRS B n (fun q=>q≠o) W3 vk) W3 x (agg6 u):=hx.keep b3.size (fun q hq=>⟨(hq.mono hnW).blw b3,fun e=>by have:=hlt q e.symm;have hbn:=h.bn q;exact Or.elim hq (fun hq=>by have:=hbn hq.1;omega) (fun hq=>by have:=hq.1;omega),by have hbn:=h.bn q;have:=h.ge;exact Or.elim hq (fun hq=>by have:=hbn hq.1;omega) (fun hq=>by have:=hq.1;omega)⟩) (fun q _ hs=>b3.block q hs)
 obtain⟨vk',W4,hrun,hO,hg,hv⟩:=append_TS ty h3.kids ⟨W2.heap.size,0,none⟩ 1 (fun j y hy=>by
  rw [Addr.add_lit]
  match j with
  | 0=>simp [flat6] at hy;subst hy;simp [World.cell?,hn]
  | 1=>simp [flat6] at hy;subst hy;simp [World.cell?,hn]
  | 2=>simp [flat6] at hy;subst hy;simp [World.cell?,hn]
  | 3=>simp [flat6] at hy;subst hy;simp [World.cell?,hn]
  | 4=>simp [flat6] at hy;subst hy;simp [World.cell?,hn]
  | 5=>simp [flat6] at hy;subst hy;simp [World.cell?,hn]
  | j+6=>simp [flat6] at hy) hx3 hl (by omega) (by omega)
 refine⟨vk',W4,hrun,⟨h3.row.keep hg.size (okrs_grown hg hv) (fun q hq hs=>hg.block q hs hq.2.1),hO,h.ge,h.bn⟩,?_,?_⟩
 ·exact (bb.mono hnW).trans ((Below.refl n W3).grown hg (by omega) (fun k hk=>(hlt k hk).1))
 ·have ho3:W3.heap[o]? = W.heap[o]?:=bb.block o ho
  rw [<- ho3]
  exact hg.block o (by omega) (fun e=>(hlt o e.symm).2.2 rfl)
structure WholeS (B:Nat->Prop) (n o:Nat) (t:Tm) (k:Nat) (W:World) (va vk vs:Value):Prop where
 row:ClRow (OkRS B n (fun q=>q≠o) W vs) W t.r va
 kids:KdT (OkRS B n (fun q=>q≠o) W vs) W (TmIn (OkRS B n (fun q=>q≠o) W vs) W) t.kids vk
 sys:BOwS B n (fun q=>q≠o) W vs (t.sys.take k)
 ge:n<=o
 bn:∀ q,B q->q<n
theorem HalfS.all {n o:Nat} {t:Tm} {W:World} {va vk:Value} (h:HalfS B n o t.r t.kids W va vk):WholeS B n o t 0 W va vk (.slice none 0 0):=by
 refine⟨h.row.keep (Nat.le_refl _) (fun q hq=>⟨hq.1,(fun e=>by cases e),hq.2.2⟩) (fun _ _ _=>rfl),h.kids.row.all (Nat.le_refl _) (fun q hq=>⟨hq.1,(fun e=>by cases e),hq.2⟩) (fun _ _ _=>rfl),BOwS.nil _ _ _,h.ge,h.bn⟩
theorem WholeS.blw {n o:Nat} {t:Tm} {k:Nat} {W W':World} {va vk vs:Value} (h:WholeS B n o t k W va vk vs) (hb:Below W.heap.size W W'):WholeS B n o t k W' va vk vs:=by
 have ho:∀ q,OkRS B n (fun q=>q≠o) W vs q->OkRS B n (fun q=>q≠o) W' vs q:=fun q hq=>⟨hq.1.blw hb,hq.2⟩
 exact⟨h.row.keep hb.size ho (fun q _ hs=>hb.block q hs),h.kids.all hb.size ho (fun q _ hs=>hb.block q hs),h.sys.keep (Kn.of_below (No:=fun _=>True) hb) (fun _ _=>trivial),h.ge,h.bn⟩
theorem WholeS.set {n o:Nat} {t:Tm} {k:Nat} {W W':World} {va vk vs:Value} (h:WholeS B n o t k W va vk vs) (hk:Kn (fun q=>q≠o) W W'):WholeS B n o t k W' va vk vs:=by
 have ho:∀ q,OkRS B n (fun q=>q≠o) W vs q->OkRS B n (fun q=>q≠o) W' vs q:=fun q hq=>⟨hq.1.same (hk.block q hq.2.2 hq.1.lt),hq.2⟩
 have hb:∀ q,OkRS B n (fun q=>q≠o) W vs q->q<W.heap.size->W'.heap[q]? = W.heap[q]?:=fun q hq hs=>hk.block q hq.2.2 hs
 exact⟨h.row.keep hk.size ho hb,h.kids.all hk.size ho hb,h.sys.keep hk (fun _ h=>h),h.ge,h.bn⟩
theorem WholeS.next {n o p:Nat} {t:Tm} {k:Nat} {W W2:World} {va vk vs vf vl:Value} {b:List C × List Tm} (ty:TypeId) (h:WholeS B n o t k W va vk vs) (hx:t.sys[k]? = some b) (hnW:n<=W.heap.size) (ho:o<W.heap.size) (hb:Below W.heap.size W W2) (hh:HalfS B W.heap.size p b.1 b.2 W2 vf vl) (hl:k+1<=200000) :
  ∃ vs' W4,(Builtin.append_ #[24,24] ty #[vs,.slice (some ⟨W2.heap.size,0,none⟩) 1 1]).run Tryz.prog (W2.alloc (.cells #[vf,vl] 40))=.ok vs' W4/\WholeS B n o t (k+1) W4 va vk vs'/\Below n W W4/\W4.heap[o]? = W.heap[o]?:=by
 obtain⟨W3,hW3⟩:∃ W3,W3=W2.alloc (.cells #[vf,vl] 40):=⟨_,rfl⟩
 have b3:Below W2.heap.size W2 W3:=by rw [hW3];exact belowA _ _
 have hn:=heapNew W2 (.cells #[vf,vl] 40)
 rw [<- hW3] at hn ⊢
 have bb:=bchain hb b3
 have h3:=h.blw bb
 have hs3:W3.heap.size=W2.heap.size+1:=by rw [hW3];simp
 have hlt:∀ k,vs.ownBlock=some k->n<=k/\k<W.heap.size/\k≠o:=fun k hk=>by
  obtain⟨us,h1,h2,h4,_⟩:=h.sys
  exact⟨(World.ownsRow.lt h2 k hk).1,(World.ownsRow.lt h2 k hk).2,h4 k hk⟩
 have hs2:=hb.size
 have up:∀ q,OkS B W.heap.size W2 q->OkRS B n (fun q=>q≠o) W3 vs q:=fun q hq=>⟨(hq.mono hnW).blw b3,fun e=>by have:=hlt q e.symm;have hbn:=h.bn q;exact Or.elim hq (fun hq=>by have:=hbn hq.1;omega) (fun hq=>by have:=hq.1;omega),by have hbn:=h.bn q;have:=h.ge;exact Or.elim hq (fun hq=>by have:=hbn hq.1;omega) (fun hq=>by have:=hq.1;omega)⟩
 have hx3:ClRow (OkRS B n (fun q=>q≠o) W3 vs) W3 b.1 vf/\KdT (OkRS B n (fun q=>q≠o) W3 vs) W3 (TmIn (OkRS B n (fun q=>q≠o) W3 vs) W3) b.2 vl :=
  ⟨hh.row.keep b3.size (fun q hq=>up q hq.1) (fun q _ hs=>b3.block q hs),hh.kids.row.all b3.size (fun q hq=>up q hq.1) (fun q _ hs=>b3.block q hs)⟩
 have hkl:(t.sys.take k).length=k:=by rw [List.length_take];have:=some_lt hx;omega
 obtain⟨vs',W4,hrun,hO,hg,hv⟩:=append_BS (x:=b) (u:=(vf,vl)) ty h3.sys ⟨W2.heap.size,0,none⟩ 1 (fun j y hy=>by
  rw [Addr.add_lit]
  match j with
  | 0=>simp [flat2] at hy;subst hy;simp [World.cell?,hn]
  | 1=>simp [flat2] at hy;subst hy;simp [World.cell?,hn]
  | j+2=>simp [flat2] at hy) hx3 (by rw [hkl];exact hl) (by omega) (by omega)
 rw [show t.sys.take k ++ [b]=t.sys.take (k+1) by rw [List.take_add_one,hx];rfl] at hO
 refine⟨vs',W4,hrun,⟨h3.row.keep hg.size (okrs_grown hg hv) (fun q hq hs=>hg.block q hs hq.2.1),h3.kids.all hg.size (okrs_grown hg hv) (fun q hq hs=>hg.block q hs hq.2.1),hO,h.ge,h.bn⟩,?_,?_⟩
 ·exact (bb.mono hnW).trans ((Below.refl n W3).grown hg (by omega) (fun k hk=>(hlt k hk).1))
 ·have ho3:W3.heap[o]? = W.heap[o]?:=bb.block o ho
  rw [<- ho3]
  exact hg.block o (by omega) (fun e=>(hlt o e.symm).2.2 rfl)
theorem WholeS.term {n o:Nat} {t:Tm} {W:World} {va vk vs:Value} (h:WholeS B n o t t.sys.length W va vk vs) (hk:I64 t.kind) (hn:I64 t.n):TmIn (OkS B n W) W t (.agg #[.int .i64 t.kind,.int .i64 t.n,.string t.name,va,vk,vs]):=by
 have h3:=h.sys
 rw [List.take_of_length_le (Nat.le_refl _)] at h3
 obtain⟨k0,n0,s0,r0,l0,y0⟩:=t
 exact TmIn.mk k0 n0 s0 r0 l0 y0 va vk vs hk hn (h.row.keep (Nat.le_refl _) (fun q hq=>hq.1) (fun _ _ _=>rfl)) (h.kids.all (Nat.le_refl _) (fun q hq=>hq.1) (fun _ _ _=>rfl)) (h3.row.all (Nat.le_refl _) (fun q hq=>hq.1) (fun _ _ _=>rfl))
end
end Go.Proofs.YtblbhmnahoiecaaGreat
