/- Regions that make a variable and store into it. -/
import Derived.Test.YtmblbmdchinflaaGreatFG35
import Derived.Test.YtmblbmdchinflaaGreatFYBdI
set_option linter.unusedVariables false
set_option linter.unusedSimpArgs false
namespace Go.Proofs.YtmblbmdchinflaaGreat
open Go.RowKit
def OkZ (g lo:Nat) (G:Option Nat) (q:Nat):Prop:=lo≤q∧g<q∧G≠some q
def PS (g lo:Nat) (T:Tm) (G:Option Nat) (w:World) (o:Nat):Prop:=∃ ra rc ka kc sa sc,Six w o (.int .i64 T.kind) (.int .i64 T.n) (.string T.name) (.slice ra T.r.length rc) (.slice ka T.kids.length kc) (.slice sa T.sys.length sc)∧TmIn (OkZ g lo G) w T (.agg #[.int .i64 T.kind,.int .i64 T.n,.string T.name,.slice ra T.r.length rc,.slice ka T.kids.length kc,.slice sa T.sys.length sc])
def ChS (g lo:Nat) (T:Tm) (G:Option Nat) (w:World) (G':Option Nat) (w':World):Prop:=Kn (fun q=>q≠g∧G≠some q) w w'∧(G'=G∨(G=none∧G'=some w.heap.size))∧∀ o,G=some o→o<w.heap.size→w'.heap[o]? = w.heap[o]?∨PS g lo T G' w' o
def BaS (g k:Nat) (w0:World) (l:Array Bool) (G:Option Nat) (w:World):Prop:=(l.getD 12 true=false→Mk w g 0)∧Kn (Ng g) w0 w∧(∀ o,G=some o→w0.heap.size≤o∧o<w.heap.size)∧(l.getD k true=false→G=none)
theorem okz_st {g lo:Nat} {G G':Option Nat} {w:World} {q:Nat} (h:OkZ g lo G q) (hq:q<w.heap.size) (hG:G'=G∨(G=none∧G'=some w.heap.size)):OkZ g lo G' q∧G≠some q∧q<w.heap.size:=by
 refine⟨⟨h.1,h.2.1,?_⟩,h.2.2,hq⟩
 rcases hG with rfl|⟨_,rfl⟩
 ·exact h.2.2
 ·intro e;injection e with e;omega
theorem tm_ss {g lo L:Nat} {T:Tm} {G G':Option Nat} {w w':World} {t:Tm} {v:Value} (h:TmIn (OkZ g lo G) w t v) (c:ChS g L T G w G' w'):TmIn (OkZ g lo G') w' t v :=
 ((h.lt' (ok':=fun q=>OkZ g lo G' q∧G≠some q∧q<w.heap.size) fun q h1 h2=>okz_st h1 h2 c.2.1).kn c.1 fun q hq=>⟨by have:=hq.1.2.1;show q≠g;omega,hq.2.1⟩).up fun q hq=>hq.1
theorem kd_ss {g lo L:Nat} {T:Tm} {G G':Option Nat} {w w':World} {l:List Tm} {v:Value} (h:KdT (OkZ g lo G) w (TmIn (OkZ g lo G) w) l v) (c:ChS g L T G w G' w'):KdT (OkZ g lo G') w' (TmIn (OkZ g lo G') w') l v :=
 ((h.ltA (ok':=fun q=>OkZ g lo G' q∧G≠some q∧q<w.heap.size) fun q h1 h2=>okz_st h1 h2 c.2.1).kn c.1 fun q hq=>⟨by have:=hq.1.2.1;show q≠g;omega,hq.2.1⟩).all (Nat.le_refl _) (fun q hq=>hq.1) (fun _ _ _=>rfl)
theorem ps_ss {g L:Nat} {T:Tm} {G G':Option Nat} {w w':World} {o:Nat} (h:PS g L T G w o) (c:ChS g L T G w G' w') (hG:G=some o):PS g L T G' w' o:=by
 obtain⟨ra,rc,ka,kc,sa,sc,hs,ht⟩:=h
 rcases c.2.2 o hG hs.lt with e|e
 ·exact⟨ra,rc,ka,kc,sa,sc,⟨e.trans hs.blk⟩,tm_ss ht c⟩
 ·exact e
theorem six_ss {g L:Nat} {T:Tm} {G G':Option Nat} {w w':World} {o:Nat} (h:∃ u0 u1 u2 u3 u4 u5,Six w o u0 u1 u2 u3 u4 u5) (c:ChS g L T G w G' w') (hG:G=some o):∃ u0 u1 u2 u3 u4 u5,Six w' o u0 u1 u2 u3 u4 u5:=by
 obtain⟨u0,u1,u2,u3,u4,u5,hs⟩:=h
 rcases c.2.2 o hG hs.lt with e|⟨ra,rc,ka,kc,sa,sc,e,_⟩
 ·exact⟨_,_,_,_,_,_,⟨e.trans hs.blk⟩⟩
 ·exact⟨_,_,_,_,_,_,e⟩
theorem chs_kn {g L:Nat} {T:Tm} {G:Option Nat} {w w':World} (h:Kn (Ng g) w w') (hg:∀ o,G=some o→g≠o):ChS g L T G w G w':=⟨h.sub fun q hq=>hq.1,.inl rfl,fun o e hlt=>.inl (h.block o (fun q=>hg o e q.symm) hlt)⟩
theorem getD_true {l:Array Bool} {i k:Nat} (h:(l.setIfInBounds i true).getD k true=false):l.getD k true=false:=by
 by_cases e:k=i
 ·subst e
  unfold Array.getD at h ⊢
  by_cases q:k<l.size
  ·rw [dif_pos (by simpa using q)] at h;simp at h
  ·rw [dif_neg (by simpa using q)] at h;cases h
 ·by_cases q:i<l.size
  ·rw [getD_set q,if_neg e] at h;exact h
  ·unfold Array.getD at h ⊢
   rw [Array.setIfInBounds,dif_neg q] at h;exact h
theorem mk_ls {g i:Nat} {w w':World} {l:Array Bool} (h:l.getD 12 true=false→Mk w g 0) (hb:Below w.heap.size w w'):(l.setIfInBounds i true).getD 12 true=false→Mk w' g 0:=fun e=>(h (getD_true e)).blw hb
theorem bas_kn {g k i:Nat} {w0 w w':World} {l:Array Bool} {G:Option Nat} (h:BaS g k w0 l G w) (hk:Kn (Ng g) w w') (hM:(l.setIfInBounds i true).getD 12 true=false→Mk w' g 0):BaS g k w0 (l.setIfInBounds i true) G w':=⟨hM,h.2.1.trans hk,fun o e=>⟨(h.2.2.1 o e).1,by have:=(h.2.2.1 o e).2;have:=hk.size;omega⟩,fun e=>h.2.2.2 (getD_true e)⟩
theorem okz_ge {g k:Nat} {w0 w:World} {l:Array Bool} {G:Option Nat} (h:BaS g k w0 l G w) (hg:g<w0.heap.size) {lo q:Nat} (hlo:lo≤w0.heap.size) (hq:w.heap.size≤q):OkZ g lo G q:=by
 have:=h.2.1.size
 refine⟨by omega,by omega,fun e=>?_⟩
 have:=(h.2.2.1 _ e).2
 omega
end Go.Proofs.YtmblbmdchinflaaGreat
