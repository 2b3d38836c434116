/- Which term a tree is, of trees of some kinds. Resolve: what catches; what there is at the start. Resolve. -/
import Derived.Test.YtahnbigkdfmpbaaGreatDoorIZTop
import Derived.Test.YtahnbigkdfmpbaaGreatDoorIZBack
import Derived.Test.YtahnbigkdfmpbaaGreatDoorIZB
import Derived.Test.YtahnbigkdfmpbaaGreatDoorIPCatch
set_option linter.unusedVariables false
set_option linter.unusedSimpArgs false
namespace Go.Proofs.YtahnbigkdfmpbaaGreatDoor
def Nice (PA:List Sx→Prop):Nat→Sx→Prop
 | 0,_=>False
 | f+1,t=>okF (f+1) 0 t=true∧blk t≤1000000 ∧
  (((t.kind=1∨t.kind=6)∧(isWd (spineR (f+1) t).1.name=false→(spineR (f+1) t).1.kind=1)∧(spineR (f+1) t).1.name.length≤1000000∧(spineR (f+1) t).2.length≤1000000∧cA (spineR (f+1) t).2.reverse≤2*blk t∧PA (spineR (f+1) t).2.reverse∧∀ x∈(spineR (f+1) t).2,Nice PA f x)
  ∨ ((t.kind=2∨t.kind=3)∧t.kids.length=1∧2*blk (kd t 0) + 2*t.names.length≤2*blk t∧Nice PA f (kd t 0))
  ∨ (t.kind=7∧t.kids.length=2∧okF f 0 (kd t 0)=true∧okF f 1 (kd t 1)=true∧blk (kd t 1)≤1000000∧(spineR f (kd t 0)).1.name.length≤1000000∧((wdOf (spineR f (kd t 0)).1.name).1=21∨(wdOf (spineR f (kd t 0)).1.name).1=26)∧(spineR f (kd t 0)).2.length=(wdOf (spineR f (kd t 0)).1.name).2.length∧cA (spineR f (kd t 0)).2.reverse≤2*blk t∧PA (spineR f (kd t 0)).2.reverse∧∀ x∈(spineR f (kd t 0)).2,Nice PA f x))
theorem Nice.s {PA:List Sx→Prop} {f:Nat} {t:Sx} (h:Nice PA f t):∃ k,f=k+1:=by
 cases f with
 | zero=>exact h.elim
 | succ k=>exact⟨k,rfl⟩
def CallsP (R:Rsv) (PA:List Sx→Prop):Prop:=∀ (term:Sg→Sx→Rz Tm) (σ:Sg) (n m:Nat) (args:List Sx),PA args→(∀ x∈args,TermP R term (2*blk x) x)→m≤R.bv→n+cA args≤40000000→σ.v.length+cA args≤40000000→σ.d.length+cA args≤40000000→CallP R term σ n m args
theorem call_none (R:Rsv):CallsP R (fun l=>l=[]):=by
 intro term σ n m args hP hT hm h1 h2 h3 k tk lo hi a ta cap No w hin hsh htk har hlen hcap hNo hhi hr
 subst hP
 obtain rfl:=List.length_eq_zero_iff.1 (Nat.le_zero.1 hlen)
 refine (call0_any R.ptr k ta a cap w).mono ?_
 rintro e w' ⟨hE,hb⟩
 exact OutT.leaf hin hsh hb hE
theorem termZ_any (R:Rsv) (PA:List Sx→Prop) (hCP:CallsP R PA):∀ (f:Nat) (t:Sx),f≤1000000→Nice PA f t→TermP R (termR f) (2*blk t) t:=by
 intro f
 induction f with
 | zero=>intro t _ h;exact h.elim
 | succ f ih =>
  rintro t hf ⟨hok,hb,hA | hL | hAt⟩ σ n m No v w hin hsh ht hm hn hv hd hr
  ·obtain⟨hk,hh1,hnl,har,hcA,hPA,hNi⟩:=hA
   have hT:∀ x∈(spineR (f+1) t).2,TermP R (termR f) (2*blk x) x:=fun x hx=>ih x (by omega) (hNi x hx)
   have e:termR (f+1) σ t=appliedR (f+1) (termR f) σ t:=by
    show (if t.kind=1∨t.kind=6 then _ else _)=_
    rw [if_pos hk]
   rw [e] at hr ⊢
   have key:∀ (No:Nat→Prop) (v:Value) (w:World),R.In w σ n→R.Sh w No→SxIn m w t v→Calls Tryz.prog 44 #[R.ptr,v] w (OutT R σ n No (2*blk t) (appliedR (f+1) (termR f) σ t) w):=fun No v w a1 a2 a3 =>
    applied_any R σ n m (f+1) (2*blk t) No t v w (termR f) a1 a2 a3 hm hok hf hnl hh1 hT hcA (hCP (termR f) σ n m _ hPA (fun x hx=>hT x (List.mem_reverse.1 hx)) hm (by omega) (by omega) (by omega)) (by omega) (by omega) (by omega) har hr
   rcases hk with hk|hk
   ·exact termN_any R σ n m _ No t v w _ hin hsh ht hm hk hr key
   ·exact termApp_any R σ n m _ No t v w _ hin hsh ht hm hk hr key
  ·obtain⟨hk,hl1,hc,hNi⟩:=hL
   have hT:=ih (kd t 0) (by omega) hNi
   have hnm:=blk_nlen t
   rcases hk with hk|hk
   ·have e:termR (f+1) σ t=(bodyR (termR f) σ t).bnd fun a=>some (.inr (inAllF 5 t.names.length a)):=by
     show (if t.kind=1∨t.kind=6 then _ else _)=_
     rw [if_neg (by omega),if_pos hk]
    rw [e] at hr ⊢
    have hr0:bodyR (termR f) σ t≠none:=fun e=>hr (by rw [e];rfl)
    exact termLam_any R σ n m _ No t v w (bodyR (termR f) σ t) _ hin hsh ht hm hk (by omega) rfl hr fun No v w a1 a2 a3 =>
     (bodyV_any R σ n m (2*blk (kd t 0)) No t v w (termR f) a1 a2 a3 hm hk hl1 hT hb (by omega) (by omega) (by omega) hr0).mono fun e w' ho=>ho.more hc
   ·have e:termR (f+1) σ t=(bodyR (termR f) σ t).bnd fun a=>some (.inr (inAllF 12 t.names.length a)):=by
     show (if t.kind=1∨t.kind=6 then _ else _)=_
     rw [if_neg (by omega),if_neg (by omega),if_pos hk]
    rw [e] at hr ⊢
    have hr0:bodyR (termR f) σ t≠none:=fun e=>hr (by rw [e];rfl)
    exact termPLam_any R σ n m _ No t v w (bodyR (termR f) σ t) _ hin hsh ht hm hk (by omega) rfl hr fun No v w a1 a2 a3 =>
     (bodyD_any R σ n m (2*blk (kd t 0)) No t v w (termR f) a1 a2 a3 hm hk hl1 hT hb (by omega) (by omega) (by omega) hr0).mono fun e w' ho=>ho.more hc
  ·obtain⟨hk,hl2,hok0,hok1,hb1,hnl,hnd,hlen,hcA,hPA,hNi⟩:=hAt
   have hT:∀ x∈(spineR f (kd t 0)).2,TermP R (termR f) (2*blk x) x:=fun x hx=>ih x (by omega) (hNi x hx)
   have e:termR (f+1) σ t=atR f (termR f) σ t:=by
    show (if t.kind=1∨t.kind=6 then _ else _)=_
    rw [if_neg (by omega),if_neg (by omega),if_neg (by omega),if_pos hk]
   rw [e] at hr ⊢
   exact termAt_any R σ n m _ No t v w _ hin hsh ht hm hk hr fun No v w a1 a2 a3 =>
    atW_any R σ n m f (2*blk t) No t v w (termR f) a1 a2 a3 hm hl2 hok0 hok1 hb1 (by omega) hnl hnd hlen hcA (hCP (termR f) σ n m _ hPA (fun x hx=>hT x (List.mem_reverse.1 hx)) hm (by omega) (by omega) (by omega)) (by omega) hr
end Go.Proofs.YtahnbigkdfmpbaaGreatDoor
namespace Go.Proofs.YtahnbigkdfmpbaaGreatDoor
open Go.RowKit Go.Maps Go.WideMaps
theorem assert_faultS (v:Value) (w:World):(Instr.typeAssert (.iface 84 v) 20 84 false).run Tryz.prog w=.ok v w:=by
 simp [Instr.typeAssert,run_underlying Tryz.underlying84]
set_option maxRecDepth 100000 in
set_option maxHeartbeats 1000000 in
theorem catchR_panicking (p q:Nat) (a b x y:Int) (older:List PanicEntry) (w:World) (hpq:¬ p=q) (hp:p<w.heap.size) (hq:q<w.heap.size) (c0:w.cell? ⟨p,0,none⟩=some (.int .i64 a)) (c1:w.cell? ⟨q,0,none⟩=some (.int .i64 b)) (z0:w.frozen? ⟨p,0,none⟩=false) (z1:w.frozen? ⟨q,0,none⟩=false) :
  CallsD Tryz.prog 25 #[.pointer (some ⟨p,0,none⟩),.pointer (some ⟨q,0,none⟩)] (.panicking ({ v:=.iface 84 (.agg #[.int .i64 x,.int .i64 y]),recovered:=false } :: older)) w fun e u' w' =>
   e=.returned (.tuple #[])∧u'=.panicking ({ v:=.iface 84 (.agg #[.int .i64 x,.int .i64 y]),recovered:=true } :: older)∧Put2 p q w w' (.int .i64 x) (.int .i64 y):=by
 refine callsD_of_wpS Tryz.func25 rfl fun c₀ cs hu=>?_
 apply wpS_seq
 apply wpS_region
 simp [wpOpsS,go_sem,recoverD,hu,Tryz.ntmps25,Exit.thenS]
 refine wpS_of_wp ?_
 obtain⟨I,hI⟩:∃ I,I=Value.agg #[.int .i64 x,.int .i64 y]:=⟨_,rfl⟩
 change Code.wp Tryz.prog _ _ { tmps:=#[.pointer (some ⟨p,0,none⟩),.pointer (some ⟨q,0,none⟩),.iface 84 (.agg #[.int .i64 x,.int .i64 y]),undef,.iface 84 (.agg #[.int .i64 x,.int .i64 y]),undef,undef,undef,undef,undef,undef,undef,undef],defers:=[] } w
 clear hI
 have e1:¬ p=w.heap.size:=by omega
 have e2:¬ q=w.heap.size:=by omega
 have e3:¬ w.heap.size=p:=by omega
 have e4:¬ w.heap.size=q:=by omega
 have hta:=fun w=>assert_faultS (.agg #[.int .i64 x,.int .i64 y]) w
 go_wp2_with fail
 go_region
 simp +zetaDelta [bodyPostS,results,Tryz.results25]
 exact put2_of _ hpq hp hq c0 c1
theorem catchR_idle (p q:Nat) (w:World) :
  CallsD Tryz.prog 25 #[.pointer (some ⟨p,0,none⟩),.pointer (some ⟨q,0,none⟩)] .returning w fun e u' w'=>e=.returned (.tuple #[])∧u'=.returning∧w'=w:=by
 refine callsD_of_wpS Tryz.func25 rfl fun c₀ cs hu=>?_
 apply wpS_seq
 apply wpS_region
 simp [wpOpsS,go_sem,recoverD,hu,Tryz.ntmps25,Exit.thenS]
 refine wpS_of_wp ?_
 change Code.wp Tryz.prog _ _ { tmps:=#[.pointer (some ⟨p,0,none⟩),.pointer (some ⟨q,0,none⟩),.nilIface,undef,.nilIface,undef,undef,undef,undef,undef,undef,undef,undef],defers:=[] } w
 go_wp2_with fail
 cases c₀
 simp_all +zetaDelta [bodyPostS,results,Tryz.results25]
set_option maxRecDepth 100000 in
theorem right_any (n:Nat) (t:Sx) (v:Value) (w:World) (h:SxIn n w t v) (hn:n≤w.heap.size) (hb:blk t≤1000000) :
  Calls Tryz.prog 24 #[v] w fun e w'=>e=.returned (.int .i64 (if okF 65536 0 t then 0 else 61))∧Below w.heap.size w w':=by
 obtain⟨ka,kc,na,nc,rfl,hN,hK⟩:=h.form
 obtain⟨w1,hw1⟩:∃ w1,w1=w.alloc (.cells #[.int .i64 t.kind,.string (bs t.name),.slice ka t.kids.length kc,.slice na t.names.length nc,.int .i64 t.at_] 26):=⟨_,rfl⟩
 have hal:Below w.heap.size w w1:=by rw [hw1];exact below_alloc _ _
 have hB:Bx w1 w.heap.size (.int .i64 t.kind) (.string (bs t.name)) (.slice ka t.kids.length kc) (.slice na t.names.length nc) (.int .i64 t.at_):=by rw [hw1];exact bx_new _ _ _ _ _ _
 have Hw1:Hid (_=_):=hw1
 clear hw1
 have c:=fits_any 65536 (rules_any 65536) 0 n 1 t _ w1 (by omega) (by omega) (h.keep (hal.mono hn)) (Nat.le_trans hn hal.size) hb
 unfold fv at c
 rw [fid0] at c
 generalize okF 65536 0 t=q at *
 cases q
 all_goals
  go_enter Tryz.func24,Tryz.ntmps24
  go_wp2_with fail
  rw [← Hw1.out]
  refine c.mono ?_
  rintro e w' ⟨rfl,hb2⟩
  go_wp2_with fail
  go_ret
  exact⟨rfl,chain hal hb2⟩
theorem WdIn.up {w w':World} {b hi hi2:Nat} (h:WdIn w b hi) (hb:Below w.heap.size w w') (h1:hi≤hi2) (h2:hi2≤w'.heap.size):WdIn w' b hi2:=by
 obtain⟨a1,a2,m,⟨es,clock,e1,e2⟩,a3⟩:=h
 exact⟨by omega,h2,m,⟨es,clock,(hb.block b (by omega)).trans e1,e2⟩,a3.grown a2 h1 (grown_none hb) (fun g hg=>by cases hg)⟩
theorem NmMem.blw {w w':World} {b base n:Nat} {U:List Bs} (h:NmMem w b base n U) (hb:Below w.heap.size w w'):NmMem w' b base n U:=h.kn (Kn.of_below (No:=fun _=>True) hb) trivial (fun _ _ _ _ _ _ _=>trivial)
theorem rsv_start {w2 w3 w4 w5 w6:World} {bw bg bv bd r:Nat} {g vs ds:List Bs} (hw:WdIn w2 bw w2.heap.size) (hg:GlIn w3 bg g.length g) (hgb:bg=w2.heap.size) (h23:Below w2.heap.size w2 w3) (hv:NmMem w4 bv (bv+1) vs.length vs.reverse) (hvb:w3.heap.size≤bv) (h34:Below w3.heap.size w3 w4) (hd:NmMem w5 bd (bd+1) ds.length ds.reverse) (hdb:w4.heap.size≤bd) (h45:Below w4.heap.size w4 w5)
  (hr:r=w5.heap.size) (h56:Below w5.heap.size w5 w6) (hblk:w6.heap[r]? = some (.cells #[.map (some bw),.map (some bg),.int .i64 (vs.length:Nat),.map (some bv),.int .i64 (ds.length:Nat),.map (some bd)] 80 (0,0))) (hlv:vs.length≤1000000) (hld:ds.length≤1000000) :
  (⟨r,bw,bg,g.length,bv,bd⟩:Rsv).In w6 ⟨g,vs.reverse,ds.reverse⟩ (vs.length+ds.length)∧(⟨r,bw,bg,g.length,bv,bd⟩:Rsv).Sh w6 (fun k=>k<bv):=by
 have l2:=hg
 obtain⟨_,⟨es,clock,e1,_⟩,_⟩:=l2
 have hbg:bg<w3.heap.size:=(Array.getElem?_eq_some_iff.1 e1).1
 have hbv:bv<w4.heap.size:=hv.lt
 have hbd:bd<w5.heap.size:=hd.lt
 have s34:=h34.size
 have s45:=h45.size
 have s56:=h56.size
 have s23:=h23.size
 have h35:Below w3.heap.size w3 w5:=h34.trans (h45.mono s34)
 have h36:Below w3.heap.size w3 w6:=h35.trans (h56.mono h35.size)
 have h26:Below w2.heap.size w2 w6:=h23.trans (h36.mono s23)
 have h46:Below w4.heap.size w4 w6:=h45.trans (h56.mono s45)
 have hv6:=hv.blw h46
 have hd6:=hd.blw h56
 have rv:∀ k,RB w6 bv k→bv+1≤k∧k<w4.heap.size:=fun k hk=>by
  obtain⟨es,clock,x,hb,hx,hg⟩:=hk
  have hb4:w4.heap[bv]? = some (.map es clock):=(h46.block bv hbv).symm.trans hb
  have:=RB.lt hv ⟨es,clock,x,hb4,hx,hg⟩
  exact⟨this.1,this.2.1⟩
 have rd:∀ k,RB w6 bd k→bd+1≤k:=fun k hk=>(RB.lt hd6 hk).1
 have hr6:r<w6.heap.size:=(Array.getElem?_eq_some_iff.1 hblk).1
 refine⟨⟨?_,hw.up h26 (by show _≤bv;omega) (by show bv≤_;omega),?_,hv6.mono (by omega),hd6.mono (by omega),⟨by show bg<bv;omega,by show bv<bd;omega,by show bd<r;omega⟩,?_,by omega,by simp;omega,by simp;omega⟩,⟨?_,?_,?_,?_,?_,fun k hk=>by show k<_;omega,fun k hk=>hk⟩⟩
 ·rw [hblk]
  simp [Rsv.cells]
 ·exact hg.kn (Kn.of_below (No:=fun _=>True) h36) trivial
 ·intro es clock hb x hx k hk hR
  have a1:=rv k ⟨es,clock,x,hb,hx,hk⟩
  have a2:=rd k hR
  omega
 ·intro es clock hb x hx k hk hN
  have a1:=rv k ⟨es,clock,x,hb,hx,hk⟩
  omega
 ·intro es clock hb x hx k hk hN
  have a1:=rd k ⟨es,clock,x,hb,hx,hk⟩
  omega
 ·show ¬ r<bv
  omega
 ·show ¬ bv<bv
  omega
 ·show ¬ bd<bv
  omega
end Go.Proofs.YtahnbigkdfmpbaaGreatDoor
namespace Go.Proofs.YtahnbigkdfmpbaaGreatDoor
open Go.RowKit Go.Maps Go.WideMaps
def ResP (r:Rz Tm) (w:World) (e:Ending) (w':World):Prop:=Below w.heap.size w w'∧match r with
 | none=>True
 | some (.inl p)=>e=.returned (.tuple #[.agg #[.int .i64 0,.int .i64 0,.string ⟨#[]⟩,.slice none 0 0,.slice none 0 0,.slice none 0 0],.int .i64 p.1,.int .i64 (p.2:Nat)])
 | some (.inr a)=>∃ va,e=.returned (.tuple #[va,.int .i64 0,.int .i64 0])∧TmIn (fun g=>w.heap.size≤g∧g<w'.heap.size) w' a va
theorem mkfS (fn:Fn) (first cap:Array Value) (w:World):(Instr.makeFunc fn first cap).run Tryz.prog w=.ok (.func fn first cap) w:=rfl
set_option maxRecDepth 100000 in
set_option maxHeartbeats 4000000 in
theorem resolve_any (PA:List Sx→Prop) (hCP:∀ R,CallsP R PA) (f m:Nat) (hf:f≤1000000) (t:Sx) (v:Value) (g vs ds:List Bs) (vg vv vd:Value) (w:World) (ht:SxIn m w t v) (hg:NmS m w g vg) (hv:NmS m w vs vv) (hd:NmS m w ds vd) (hm:m≤w.heap.size) (hNi:Nice PA f t) (hb:blk t≤1000000) (hok:okF 65536 0 t=true)
  (hlg:g.length≤1000) (hlv:vs.length≤1000) (hld:ds.length≤24) (hcg:∀ x∈g,x.length≤1000000) (hcv:∀ x∈vs,x.length≤1000000) (hcd:∀ x∈ds,x.length≤1000000) (hwg:g.any isWd=false) (hwv:vs.any isWd=false) (hwd:ds.any isWd=false) (hr:termR f ⟨g,vs.reverse,ds.reverse⟩ t≠none) :
  Calls Tryz.prog 15 #[v,vg,vv,vd] w (ResP (termR f ⟨g,vs.reverse,ds.reverse⟩ t) w):=by
 obtain⟨ka,kc,na,nc,rfl,_,_⟩:=ht.form
 obtain⟨ga,gc,rfl⟩:∃ a cap,vg=.slice a g.length cap:=let ⟨a,cap,e,_⟩:=hg;⟨a,cap,e⟩
 obtain⟨xa,xc,rfl⟩:∃ a cap,vv=.slice a vs.length cap:=let ⟨a,cap,e,_⟩:=hv;⟨a,cap,e⟩
 obtain⟨da,dc,rfl⟩:∃ a cap,vd=.slice a ds.length cap:=let ⟨a,cap,e,_⟩:=hd;⟨a,cap,e⟩
 obtain⟨w1,hw1⟩:∃ w1,w1=(((w.alloc (.cells #[.int .i64 t.kind,.string (bs t.name),.slice ka t.kids.length kc,.slice na t.names.length nc,.int .i64 t.at_] 26)).alloc (.cells #[.int .i64 0,.int .i64 0,.string ⟨#[]⟩,.slice none 0 0,.slice none 0 0,.slice none 0 0] 37)).alloc (.cells #[.int .i64 0] 3)).alloc (.cells #[.int .i64 0] 27):=⟨_,rfl⟩
 have q1:Below w.heap.size w w1:=by rw [hw1];exact chain (chain (chain (below_alloc _ _) (below_alloc _ _)) (below_alloc _ _)) (below_alloc _ _)
 have s1:w1.heap.size=w.heap.size+1+1+1+1:=by rw [hw1];simp
 have bx1:Bx w1 w.heap.size (.int .i64 t.kind) (.string (bs t.name)) (.slice ka t.kids.length kc) (.slice na t.names.length nc) (.int .i64 t.at_):=by
  rw [hw1]
  exact (((bx_new w _ _ _ _ _).blw (below_alloc _ _)).blw (below_alloc _ _)).blw (below_alloc _ _)
 have tx1:Tx w1 (w.heap.size+1) (.int .i64 0) (.int .i64 0) (.string ⟨#[]⟩) (.slice none 0 0) (.slice none 0 0) (.slice none 0 0):=by
  rw [hw1]
  have:=((tx_new (w.alloc (.cells #[.int .i64 t.kind,.string (bs t.name),.slice ka t.kids.length kc,.slice na t.names.length nc,.int .i64 t.at_] 26)) (.int .i64 0) (.int .i64 0) (.string ⟨#[]⟩) (.slice none 0 0) (.slice none 0 0) (.slice none 0 0)).blw (below_alloc _ (.cells #[.int .i64 0] 3))).blw (below_alloc _ (.cells #[.int .i64 0] 27))
  simpa using this
 have cp:w1.cell? ⟨w.heap.size+1+1,0,none⟩=some (.int .i64 0):=by rw [hw1];simp [go_sem]
 have cq:w1.cell? ⟨w.heap.size+1+1+1,0,none⟩=some (.int .i64 0):=by rw [hw1];simp [go_sem]
 have zp:w1.frozen? ⟨w.heap.size+1+1,0,none⟩=false:=by rw [hw1];simp [go_sem]
 have zq:w1.frozen? ⟨w.heap.size+1+1+1,0,none⟩=false:=by rw [hw1];simp [go_sem]
 have cW:=words_any w1
 have hmf:=mkfS
 have Hw1:Hid (w1=_):=hw1
 have H1:Hid (Below w.heap.size w w1∧w1.heap.size=w.heap.size+1+1+1+1∧Bx w1 w.heap.size _ _ _ _ _∧Tx w1 (w.heap.size+1) _ _ _ _ _ _∧w1.cell? ⟨w.heap.size+1+1,0,none⟩=some (.int .i64 0)∧w1.cell? ⟨w.heap.size+1+1+1,0,none⟩=some (.int .i64 0)∧w1.frozen? ⟨w.heap.size+1+1,0,none⟩=false∧w1.frozen? ⟨w.heap.size+1+1+1,0,none⟩=false):=⟨q1,s1,bx1,tx1,cp,cq,zp,zq⟩
 clear q1 s1 bx1 tx1 cp cq zp zq hw1
 obtain⟨r,hrr⟩:∃ r,r=termR f ⟨g,vs.reverse,ds.reverse⟩ t:=⟨_,rfl⟩
 have HRR:Hid (r=termR f ⟨g,vs.reverse,ds.reverse⟩ t):=hrr
 rw [← hrr] at hr ⊢
 clear hrr
 go_enter_defers Tryz.func15,Tryz.ntmps15
 go_wp2_with fail
 rw [← Hw1.out]
 refine cW.mono ?_
 rintro e w2 ⟨rfl,hWd,h12⟩
 clear cW Hw1
 obtain⟨q1,s1,bx1,tx1,cp,cq,zp,zq⟩:=H1.out
 have Q2:Below w.heap.size w w2:=q1.trans (h12.mono q1.size)
 have cS:=asSet_any m g _ w2 (hg.keep (Q2.mono hm)) (by have:=Q2.size;omega) (by omega) hcg
 have H2:Hid (WdIn w2 w1.heap.size w2.heap.size∧Below w1.heap.size w1 w2∧Below w.heap.size w w2):=⟨hWd,h12,Q2⟩
 clear hWd h12 Q2 q1 s1 bx1 tx1 cp cq zp zq
 go_wp2_with fail
 refine cS.mono ?_
 rintro e w3 ⟨rfl,hGl,h23⟩
 obtain⟨hWd,h12,Q2⟩:=H2.out
 have Q3:Below w.heap.size w w3:=Q2.trans (h23.mono Q2.size)
 have cV:=firstN_any vs (.slice xa vs.length xc) w3 (NmS.nmk (hv.keep (Q3.mono hm)) (fun k hk=>by have:=Q3.size;omega) (by have:=Q3.size;omega)) (by omega) hcv
 have H3:Hid (GlIn w3 w2.heap.size g.length g∧Below w2.heap.size w2 w3∧Below w.heap.size w w3):=⟨hGl,h23,Q3⟩
 clear hWd h12 Q2 hGl h23 Q3 cS
 go_wp2_with fail
 refine cV.mono ?_
 rintro e w4 ⟨bv,rfl,hbv,hMv,h34⟩
 obtain⟨hGl,h23,Q3⟩:=H3.out
 have Q4:Below w.heap.size w w4:=Q3.trans (h34.mono Q3.size)
 have cD:=firstN_any ds (.slice da ds.length dc) w4 (NmS.nmk (hd.keep (Q4.mono hm)) (fun k hk=>by have:=Q4.size;omega) (by have:=Q4.size;omega)) (by omega) hcd
 have H4:Hid (NmMem w4 bv (bv+1) vs.length vs.reverse∧w3.heap.size≤bv∧Below w3.heap.size w3 w4∧Below w.heap.size w w4):=⟨hMv,hbv,h34,Q4⟩
 clear hGl h23 Q3 hMv hbv h34 Q4 cV
 go_wp2_with fail
 refine cD.mono ?_
 rintro e w5 ⟨bd,rfl,hbd,hMd,h45⟩
 obtain⟨hMv,hbv,h34,Q4⟩:=H4.out
 obtain⟨hGl,h23,_⟩:=H3.out
 obtain⟨hWd,h12,_⟩:=H2.out
 obtain⟨q1,s1,bx1,tx1,cp,cq,zp,zq⟩:=H1.out
 have Q5:Below w.heap.size w w5:=Q4.trans (h45.mono Q4.size)
 have sz2:=h12.size
 have sz3:=h23.size
 have sz4:=h34.size
 have sz5:=h45.size
 have B15:Below w1.heap.size w1 w5:=((h12.trans (h23.mono sz2)).trans (h34.mono (Nat.le_trans sz2 sz3))).trans (h45.mono (Nat.le_trans sz2 (Nat.le_trans sz3 sz4)))
 obtain⟨w6,hw6⟩:∃ w6,w6=w5.alloc (.cells #[.map (some w1.heap.size),.map (some w2.heap.size),.int .i64 (vs.length:Nat),.map (some bv),.int .i64 (ds.length:Nat),.map (some bd)] 80):=⟨_,rfl⟩
 have h56:Below w5.heap.size w5 w6:=by rw [hw6];exact below_alloc _ _
 have hblk:w6.heap[w5.heap.size]? = some (.cells #[.map (some w1.heap.size),.map (some w2.heap.size),.int .i64 (vs.length:Nat),.map (some bv),.int .i64 (ds.length:Nat),.map (some bd)] 80 (0,0)):=by rw [hw6];exact heap_alloc_new w5 _
 obtain⟨hin6,hsh6⟩:=rsv_start hWd hGl rfl h23 hMv hbv h34 hMd hbd h45 rfl h56 hblk (by omega) (by omega)
 have B16:Below w1.heap.size w1 w6:=B15.trans (h56.mono (Nat.le_trans sz2 (Nat.le_trans sz3 (Nat.le_trans sz4 sz5))))
 have Q6:Below w.heap.size w w6:=q1.trans (B16.mono q1.size)
 have hbv1:w1.heap.size≤bv:=by omega
 obtain⟨R,hR⟩:∃ R:Rsv,R=⟨w5.heap.size,w1.heap.size,w2.heap.size,g.length,bv,bd⟩:=⟨_,rfl⟩
 rw [← hR] at hin6 hsh6
 have hRr:R.r=w5.heap.size:=by rw [hR]
 have hRv:R.bv=bv:=by rw [hR]
 have c1:=hasWord_any R _ _ m g _ w6 hin6 (hg.keep (Q6.mono hm)) (by have:=Q6.size;omega) (by omega) hcg
 rw [hwg] at c1
 unfold Rsv.ptr at c1
 rw [hRr] at c1
 have H6:Hid (w6=_∧Below w.heap.size w w6∧Below w1.heap.size w1 w6∧R.In w6 ⟨g,vs.reverse,ds.reverse⟩ (vs.length+ds.length)∧R.Sh w6 (fun k=>k<bv)∧R.r=w5.heap.size∧R.bv=bv∧w1.heap.size≤bv):=⟨hw6,Q6,B16,hin6,hsh6,hRr,hRv,hbv1⟩
 rw [hw6] at c1
 clear hMv hbv h34 Q4 hGl h23 hWd h12 q1 s1 bx1 tx1 cp cq zp zq Q5 sz2 sz3 sz4 sz5 B15 hw6 h56 hblk hin6 hsh6 B16 Q6 hbv1 hR hRr hRv hMd hbd h45 cD H2 H3 H4
 go_wp2_with fail
 refine c1.mono ?_
 rintro e w7 ⟨rfl,h67⟩
 obtain⟨hw6,Q6,B16,hin6,hsh6,hRr,hRv,hbv1⟩:=H6.out
 rw [← hw6] at h67
 have Q7:Below w.heap.size w w7:=Q6.trans (h67.mono Q6.size)
 have B17:Below w1.heap.size w1 w7:=B16.trans (h67.mono B16.size)
 have hin7:=hin6.keep h67
 have hsh7:=hsh6.keep hin6 h67
 have c2:=hasWord_any R _ _ m vs _ w7 hin7 (hv.keep (Q7.mono hm)) (by have:=Q7.size;omega) (by omega) hcv
 rw [hwv] at c2
 unfold Rsv.ptr at c2
 rw [hRr] at c2
 have H7:Hid (Below w.heap.size w w7∧Below w1.heap.size w1 w7∧R.In w7 ⟨g,vs.reverse,ds.reverse⟩ (vs.length+ds.length)∧R.Sh w7 (fun k=>k<bv)∧R.r=w5.heap.size∧R.bv=bv∧w1.heap.size≤bv):=⟨Q7,B17,hin7,hsh7,hRr,hRv,hbv1⟩
 clear hw6 Q6 B16 hin6 hsh6 hRr hRv hbv1 h67 Q7 B17 hin7 hsh7 c1 H6
 go_wp2_with fail
 refine c2.mono ?_
 rintro e w8 ⟨rfl,h78⟩
 obtain⟨Q7,B17,hin7,hsh7,hRr,hRv,hbv1⟩:=H7.out
 have Q8:Below w.heap.size w w8:=Q7.trans (h78.mono Q7.size)
 have B18:Below w1.heap.size w1 w8:=B17.trans (h78.mono B17.size)
 have hin8:=hin7.keep h78
 have hsh8:=hsh7.keep hin7 h78
 have c3:=hasWord_any R _ _ m ds _ w8 hin8 (hd.keep (Q8.mono hm)) (by have:=Q8.size;omega) (by omega) hcd
 rw [hwd] at c3
 unfold Rsv.ptr at c3
 rw [hRr] at c3
 have H8:Hid (Below w.heap.size w w8∧Below w1.heap.size w1 w8∧R.In w8 ⟨g,vs.reverse,ds.reverse⟩ (vs.length+ds.length)∧R.Sh w8 (fun k=>k<bv)∧R.r=w5.heap.size∧R.bv=bv∧w1.heap.size≤bv):=⟨Q8,B18,hin8,hsh8,hRr,hRv,hbv1⟩
 clear Q7 B17 hin7 hsh7 hRr hRv hbv1 h78 Q8 B18 hin8 hsh8 c2 H7
 go_wp2_with fail
 refine c3.mono ?_
 rintro e w9 ⟨rfl,h89⟩
 obtain⟨Q8,B18,hin8,hsh8,hRr,hRv,hbv1⟩:=H8.out
 obtain⟨q1,s1,bx1,tx1,cp,cq,zp,zq⟩:=H1.out
 have Q9:Below w.heap.size w w9:=Q8.trans (h89.mono Q8.size)
 have B19:Below w1.heap.size w1 w9:=B18.trans (h89.mono B18.size)
 have hin9:=hin8.keep h89
 have hsh9:=hsh8.keep hin8 h89
 have cR:=right_any m t _ w9 (ht.keep (Q9.mono hm)) (by have:=Q9.size;omega) hb
 rw [hok,if_pos rfl] at cR
 have bx9:=bx1.blw B19
 obtain⟨x0,x1,x2,x3,x4⟩:=bx9.cells
 have H9:Hid (Below w.heap.size w w9∧Below w1.heap.size w1 w9∧R.In w9 ⟨g,vs.reverse,ds.reverse⟩ (vs.length+ds.length)∧R.Sh w9 (fun k=>k<bv)∧R.r=w5.heap.size∧R.bv=bv∧w1.heap.size≤bv):=⟨Q9,B19,hin9,hsh9,hRr,hRv,hbv1⟩
 clear Q8 B18 hin8 hsh8 hRr hRv hbv1 h89 Q9 B19 hin9 hsh9 c3 H8 q1 s1 bx1 tx1 cp cq zp zq bx9
 go_wp2_with fail
 refine cR.mono ?_
 rintro e w10 ⟨rfl,h910⟩
 obtain⟨Q9,B19,hin9,hsh9,hRr,hRv,hbv1⟩:=H9.out
 obtain⟨q1,s1,bx1,tx1,cp,cq,zp,zq⟩:=H1.out
 have Q10:Below w.heap.size w w10:=Q9.trans (h910.mono Q9.size)
 have B110:Below w1.heap.size w1 w10:=B19.trans (h910.mono B19.size)
 have hin10:=hin9.keep h910
 have hsh10:=hsh9.keep hin9 h910
 clear x0 x1 x2 x3 x4
 obtain⟨x0,x1,x2,x3,x4⟩:=(bx1.blw B110).cells
 have cT:=termZ_any R PA (hCP R) f t hf hNi ⟨g,vs.reverse,ds.reverse⟩ (vs.length+ds.length) m _ _ w10 hin10 hsh10 (ht.keep (Q10.mono hm)) (by rw [hRv];have:=q1.size;omega) (by omega) (by simp only [List.length_reverse];omega) (by simp only [List.length_reverse];omega) (by rw [← HRR.out];exact hr)
 rw [← HRR.out] at cT
 unfold Rsv.ptr at cT
 rw [hRr] at cT
 have hdl:((ds.length:Nat):Int)≤24:=by omega
 have H10:Hid (Below w.heap.size w w10∧Below w1.heap.size w1 w10∧w1.heap.size≤bv∧w1.heap.size=w.heap.size+1+1+1+1∧Tx w10 (w.heap.size+1) (.int .i64 0) (.int .i64 0) (.string ⟨#[]⟩) (.slice none 0 0) (.slice none 0 0) (.slice none 0 0)∧w10.cell? ⟨w.heap.size+1+1,0,none⟩=some (.int .i64 0)∧w10.cell? ⟨w.heap.size+1+1+1,0,none⟩=some (.int .i64 0)∧w10.frozen? ⟨w.heap.size+1+1,0,none⟩=false∧w10.frozen? ⟨w.heap.size+1+1+1,0,none⟩=false):=⟨Q10,B110,hbv1,s1,tx1.blw B110,(B110.cell (p:=⟨w.heap.size+1+1,0,none⟩) (by show w.heap.size+1+1<_;omega)).trans cp,(B110.cell (p:=⟨w.heap.size+1+1+1,0,none⟩) (by show w.heap.size+1+1+1<_;omega)).trans cq,(B110.frozen (p:=⟨w.heap.size+1+1,0,none⟩) (by show w.heap.size+1+1<_;omega)).trans zp,(B110.frozen (p:=⟨w.heap.size+1+1+1,0,none⟩) (by show w.heap.size+1+1+1<_;omega)).trans zq⟩
 clear Q9 B19 hin9 hsh9 hRr hRv hbv1 h910 Q10 B110 hin10 hsh10 cR H9 q1 s1 bx1 tx1 cp cq zp zq H1
 go_wp2_with fail
 refine cT.mono ?_
 rintro e w11 ⟨hk11,hE⟩
 obtain⟨Q10,B110,hbv1,s1,tx10,cp,cq,zp,zq⟩:=H10.out
 have hsz10:w.heap.size+1+1+1<w10.heap.size:=by have:=B110.size;omega
 have tx11:=tx10.kn hk11 (by show w.heap.size+1<bv;omega)
 have cp11:=(hk11.cell (p:=⟨w.heap.size+1+1,0,none⟩) (by show w.heap.size+1+1<bv;omega) (by show w.heap.size+1+1<_;omega)).trans cp
 have cq11:=(hk11.cell (p:=⟨w.heap.size+1+1+1,0,none⟩) (by show w.heap.size+1+1+1<bv;omega) (by show w.heap.size+1+1+1<_;omega)).trans cq
 have zp11:=(hk11.frozen (p:=⟨w.heap.size+1+1,0,none⟩) (by show w.heap.size+1+1<bv;omega) (by show w.heap.size+1+1<_;omega)).trans zp
 have zq11:=(hk11.frozen (p:=⟨w.heap.size+1+1+1,0,none⟩) (by show w.heap.size+1+1+1<bv;omega) (by show w.heap.size+1+1+1<_;omega)).trans zq
 have Q11:Below w.heap.size w w11:=Q10.trans (hk11.below (fun k hk=>by show k<bv;omega) (by omega))
 have hsz11:w10.heap.size≤w11.heap.size:=hk11.size
 clear x0 x1 x2 x3 x4 cT H10 Q10 B110 tx10 cp cq zp zq hk11
 cases r with
 | none=>exact absurd rfl hr
 | some y =>
  cases y with
  | inl p =>
   obtain⟨pp,xx⟩:=p
   obtain rfl:e=_:=hE
   refine leaves_cons (f:=25) (args:=#[.pointer (some ⟨w.heap.size+1+1,0,none⟩),.pointer (some ⟨w.heap.size+1+1+1,0,none⟩)]) (by simp) (by simp [go_sem]) ?_
   refine (catchR_panicking (w.heap.size+1+1) (w.heap.size+1+1+1) 0 0 pp (xx:Nat) [] w11 (by omega) (by omega) (by omega) cp11 cq11 zp11 zq11).mono ?_
   rintro e u' w12 ⟨rfl,rfl,h12⟩
   have tx12:Tx w12 (w.heap.size+1) _ _ _ _ _ _:=(h12.block _ (by omega) (by omega) (by omega)).trans tx11
   obtain⟨d0,d1,d2,d3,d4,d5⟩:=tx12.cells
   have i2:=h12.cp
   have i3:=h12.cq
   exact⟨.tuple #[.agg #[.int .i64 0,.int .i64 0,.string ⟨#[]⟩,.slice none 0 0,.slice none 0 0,.slice none 0 0],.int .i64 pp,.int .i64 (xx:Nat)],by simp only [results,Tryz.results15];simp [go_sem,d0,d1,d2,d3,d4,d5,i2,i3],⟨h12.os.trans Q11.os,h12.tape.trans Q11.tape,h12.output.trans Q11.output,Nat.le_trans Q11.size h12.size,fun k hk=>(h12.block k (by omega) (by omega) (by omega)).trans (Q11.block k hk)⟩,rfl⟩
  | inr a =>
   obtain⟨vT,rfl,ok,n3,hTm,hok3,_,_,_⟩:=hE
   obtain⟨ra,rc,qa,qc,sa,sc,rfl,_⟩:=hTm.form
   have t8:=tx11.put (.int .i64 (a.kind:Nat)) (.int .i64 (a.n:Nat)) (.string (bs a.name)) (.slice ra a.r.length rc) (.slice qa a.kids.length qc) (.slice sa a.sys.length sc)
   have k8:Kn (fun k=>k≠w.heap.size+1) w11 (pu6 w11 (w.heap.size+1) (.int .i64 (a.kind:Nat)) (.int .i64 (a.n:Nat)) (.string (bs a.name)) (.slice ra a.r.length rc) (.slice qa a.kids.length qc) (.slice sa a.sys.length sc)):=pu6_kn
   have k9:Kn (fun k=>k≠w.heap.size+1+1∧k≠w.heap.size+1+1+1) (pu6 w11 (w.heap.size+1) (.int .i64 (a.kind:Nat)) (.int .i64 (a.n:Nat)) (.string (bs a.name)) (.slice ra a.r.length rc) (.slice qa a.kids.length qc) (.slice sa a.sys.length sc)) (((pu6 w11 (w.heap.size+1) (.int .i64 (a.kind:Nat)) (.int .i64 (a.n:Nat)) (.string (bs a.name)) (.slice ra a.r.length rc) (.slice qa a.kids.length qc) (.slice sa a.sys.length sc)).setCell ⟨w.heap.size+1+1,0,none⟩ (.int .i64 0)).setCell ⟨w.heap.size+1+1+1,0,none⟩ (.int .i64 0)):=((Kn.refl _ _).setCell (p:=⟨w.heap.size+1+1,0,none⟩) (.inl fun h=>h.1 rfl) _).setCell (p:=⟨w.heap.size+1+1+1,0,none⟩) (.inl fun h=>h.2 rfl) _
   have t9:=t8.kn k9 ⟨by omega,by omega⟩
   have hT9:=(hTm.kn k8 fun k hk=>by have:=(hok3 k hk).1;omega).kn k9 fun k hk=>by have:=(hok3 k hk).1;constructor <;> omega
   have i2:(((pu6 w11 (w.heap.size+1) (.int .i64 (a.kind:Nat)) (.int .i64 (a.n:Nat)) (.string (bs a.name)) (.slice ra a.r.length rc) (.slice qa a.kids.length qc) (.slice sa a.sys.length sc)).setCell ⟨w.heap.size+1+1,0,none⟩ (.int .i64 0)).setCell ⟨w.heap.size+1+1+1,0,none⟩ (.int .i64 0)).cell? ⟨w.heap.size+1+1,0,none⟩=some (.int .i64 0):=by
    rw [World.cell?_setCell_other _ _ _ _ (by simp)]
    exact World.cell?_setCell_same _ _ _ ((k8.cell (p:=⟨w.heap.size+1+1,0,none⟩) (by show w.heap.size+1+1≠_;omega) (by show w.heap.size+1+1<_;omega)).trans cp11)
   have i3:(((pu6 w11 (w.heap.size+1) (.int .i64 (a.kind:Nat)) (.int .i64 (a.n:Nat)) (.string (bs a.name)) (.slice ra a.r.length rc) (.slice qa a.kids.length qc) (.slice sa a.sys.length sc)).setCell ⟨w.heap.size+1+1,0,none⟩ (.int .i64 0)).setCell ⟨w.heap.size+1+1+1,0,none⟩ (.int .i64 0)).cell? ⟨w.heap.size+1+1+1,0,none⟩=some (.int .i64 0) :=
    World.cell?_setCell_same _ _ _ ((World.cell?_setCell_other _ _ _ _ (by simp)).trans ((k8.cell (p:=⟨w.heap.size+1+1+1,0,none⟩) (by show w.heap.size+1+1+1≠_;omega) (by show w.heap.size+1+1+1<_;omega)).trans cq11))
   have Q12:Below w.heap.size w (((pu6 w11 (w.heap.size+1) (.int .i64 (a.kind:Nat)) (.int .i64 (a.n:Nat)) (.string (bs a.name)) (.slice ra a.r.length rc) (.slice qa a.kids.length qc) (.slice sa a.sys.length sc)).setCell ⟨w.heap.size+1+1,0,none⟩ (.int .i64 0)).setCell ⟨w.heap.size+1+1+1,0,none⟩ (.int .i64 0)):=(Q11.trans (k8.below (fun k hk=>by show k≠_;omega) (by omega))).trans (k9.below (fun k hk=>⟨by omega,by omega⟩) (by have:=k8.size;omega))
   have hok9:∀ k,ok k→w.heap.size≤k∧k<(((pu6 w11 (w.heap.size+1) (.int .i64 (a.kind:Nat)) (.int .i64 (a.n:Nat)) (.string (bs a.name)) (.slice ra a.r.length rc) (.slice qa a.kids.length qc) (.slice sa a.sys.length sc)).setCell ⟨w.heap.size+1+1,0,none⟩ (.int .i64 0)).setCell ⟨w.heap.size+1+1+1,0,none⟩ (.int .i64 0)).heap.size:=fun k hk=>by have:=hok3 k hk;have:=k8.size;have:=k9.size;omega
   obtain⟨c0,c1,c2,c3,c4,c5⟩:=tx11.cells
   have g0:=tx11.cold 0
   have g1:=tx11.cold 1
   have g2:=tx11.cold 2
   have g3:=tx11.cold 3
   have g4:=tx11.cold 4
   have g5:=tx11.cold 5
   have H12:Hid (_∧_∧_∧_∧_∧_):=⟨t9,hT9,i2,i3,Q12,hok9⟩
   clear t8 k8 k9 t9 hT9 i2 i3 Q12 hok9 hTm hok3 tx11
   go_wp2_with fail
   obtain⟨t9,hT9,i2,i3,Q12,hok9⟩:=H12.out
   unfold pu6 at t9 hT9 i2 i3 Q12 hok9
   obtain⟨d0,d1,d2,d3,d4,d5⟩:=t9.cells
   refine leaves_cons (f:=25) (args:=#[.pointer (some ⟨w.heap.size+1+1,0,none⟩),.pointer (some ⟨w.heap.size+1+1+1,0,none⟩)]) (by simp) (by simp [go_sem]) ?_
   refine (catchR_idle _ _ _).mono ?_
   rintro e u' w'' ⟨rfl,rfl,rfl⟩
   exact⟨.tuple #[.agg #[.int .i64 (a.kind:Nat),.int .i64 (a.n:Nat),.string (bs a.name),.slice ra a.r.length rc,.slice qa a.kids.length qc,.slice sa a.sys.length sc],.int .i64 0,.int .i64 0],by simp only [results,Tryz.results15];simp [go_sem,d0,d1,d2,d3,d4,d5,i2,i3],Q12,_,rfl,hT9.up hok9⟩
end Go.Proofs.YtahnbigkdfmpbaaGreatDoor
