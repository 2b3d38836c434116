/- What is applied, to what. Which term a tree is: the rules that hang on formulas. A word without arguments. -/
import Derived.Deep.DeepCutAuto
import Derived.Deep.CutBlock
import Derived.Deep.LoopGhost
import Derived.Test.YtahnbigkdfmpbaaGreatDoorIZBody
import Derived.Test.YtahnbigkdfmpbaaGreatDoorIZForm
set_option linter.unusedVariables false
set_option linter.unusedSimpArgs false
namespace Go.Proofs.YtahnbigkdfmpbaaGreatDoor
open Go.RowKit Go.Maps Go.WideMaps
theorem OutT.leaf {R:Rsv} {σ:Sg} {n:Nat} {No:Nat→Prop} {c:Nat} {r:Rz Tm} {w w':World} {e:Ending} (h:R.In w σ n) (hs:R.Sh w No) (hb:Below w.heap.size w w') (hE:EndZ r (fun a v w'=>TmIn (fun _=>False) w' a v) e w'):OutT R σ n No c r w e w':=by
 refine⟨Kn.of_below hb,?_⟩
 cases r with
 | none=>trivial
 | some y =>
  cases y with
  | inl p=>exact hE
  | inr a =>
   obtain⟨v,he,hT⟩:=hE
   exact⟨v,he,fun _=>False,n,hT,fun g hg=>hg.elim,h.keep hb,Nat.le_add_right _ _,hs.more h hb fun g hg=>hg.elim⟩
theorem OutT.more {R:Rsv} {σ:Sg} {n:Nat} {No:Nat→Prop} {c c2:Nat} {r:Rz Tm} {w w':World} {e:Ending} (h:OutT R σ n No c r w e w') (hc:c≤c2):OutT R σ n No c2 r w e w':=by
 obtain⟨h1,h2⟩:=h
 refine⟨h1,?_⟩
 cases r with
 | none=>trivial
 | some y =>
  cases y with
  | inl p=>exact h2
  | inr a =>
   obtain⟨v,he,ok,n',a1,a2,a3,a4,a5⟩:=h2
   exact⟨v,he,ok,n',a1,a2,a3,by omega,a5⟩
def Wx (w:World) (x k:Nat) (vt:Value):Prop:=w.heap[x]? = some (.cells #[.int .i64 (k:Nat),vt] 97 (0,0))
theorem Wx.lt {x k:Nat} {w:World} {vt:Value} (h:Wx w x k vt):x<w.heap.size:=(Array.getElem?_eq_some_iff.1 h).1
theorem Wx.blw {x k:Nat} {w w':World} {vt:Value} (h:Wx w x k vt) (hb:Below w.heap.size w w'):Wx w' x k vt:=(hb.block x h.lt).trans h
theorem Wx.kn {No:Nat→Prop} {x k:Nat} {w w':World} {vt:Value} (h:Wx w x k vt) (hk:Kn No w w') (hx:No x):Wx w' x k vt:=(hk.block x hx h.lt).trans h
theorem Wx.cells {x k:Nat} {w:World} {vt:Value} (h:Wx w x k vt):w.cell? ⟨x,0,none⟩=some (.int .i64 (k:Nat))∧w.cell? ⟨x,1,none⟩=some vt:=by
 unfold Wx at h
 constructor <;> simp [World.cell?,h]
def cA:List Sx→Nat
 | []=>0
 | x :: l=>2*blk x+cA l
theorem cA_app (l m:List Sx):cA (l++m)=cA l+cA m:=by
 induction l with
 | nil=>simp [cA]
 | cons x l ih=>simp only [List.cons_append,cA,ih];omega
set_option maxRecDepth 100000 in
theorem WdIn.lookB {w:World} {b hi:Nat} (h:WdIn w b hi) (s:Bs) (hs:s.length≤1000000) (c:Bool):∃ vt,TkIn b hi w (wdOf s).2 vt∧∀ w9:World,w9.heap[b]? = w.heap[b]? →
  (Instr.lookup 71 (.map (some b)) (.string (bs s)) c).run Tryz.prog w9=.ok (if c then .tuple #[.agg #[.int .i64 ((wdOf s).1:Nat),vt],.bool (isWd s)] else .agg #[.int .i64 ((wdOf s).1:Nat),vt]) w9:=by
 obtain⟨_,_,m,⟨es,clock,hb,F,hsz,hD⟩,hv⟩:=h
 have hf:=hv.find s
 have hA:=fun (w9:World) (h9:w9.heap[b]? = w.heap[b]?)=>Maps.fit_look c lawStr Tryz.underlying71 (zeroWord w9) (h9.trans hb) F (keyS s hs)
 simp only [← hD] at hA
 unfold wdOf isWd wordT
 cases hw:findW wdR s with
 | none =>
  rw [hw] at hf
  refine⟨.slice none 0 0,⟨none,rfl,fun j x hx=>by simp at hx⟩,fun w9 h9=>?_⟩
  rcases hA w9 h9 with ⟨h1,_,_⟩|⟨e0,y,_,_,_,hR,h3,_⟩
  ·rw [h1];cases c <;> rfl
  ·have e1:=h3 .nil
   rw [wd_at,hf] at e1
   unfold Rh at hR
   injection hR with hR
   rw [← hR] at e1
   cases e1
 | some p =>
  rw [hw] at hf
  obtain⟨vt,h2,h4⟩:=hf
  refine⟨vt,h4,fun w9 h9=>?_⟩
  rcases hA w9 h9 with ⟨h1,_,h5⟩|⟨e0,y,_,_,h1,hR,h3,_⟩
  ·have e1:=h5 .nil
   rw [wd_at,h2] at e1
   cases e1
  ·have e1:=h3 .nil
   rw [wd_at,h2] at e1
   unfold Rh at hR
   injection hR with hR
   rw [← hR] at e1
   injection e1 with e1
   rw [h1,← e1]
   cases c <;> rfl
theorem Wx.put {w:World} {x:Nat} {o0 o1:Value} (h:w.heap[x]? = some (.cells #[o0,o1] 97 (0,0))) (k:Nat) (vt:Value):Wx ((w.setCell ⟨x,0,none⟩ (.int .i64 (k:Nat))).setCell ⟨x,1,none⟩ vt) x k vt:=by
 unfold Wx
 simp [World.setCell,Array.getElem?_modify,h]
theorem TkIn.blw {lo hi:Nat} {w w':World} {tk:List Nat} {v:Value} (h:TkIn lo hi w tk v) (hb:Below hi w w'):TkIn lo hi w' tk v:=by
 obtain⟨a,h1,h2⟩:=h
 refine⟨a,h1,fun j x hx=>?_⟩
 obtain⟨g,a1,a2,a3,a4⟩:=h2 j x hx
 exact⟨g,a1,a2,a3,(hb.cell (p:=⟨g,j,none⟩) a3).trans a4⟩
theorem AR.blw {n lo:Nat} {w w':World} {l:List Sx} {v:Value} (h:AR n lo w l v) (hb:Below w.heap.size w w') (hn:n≤w.heap.size):AR n lo w' l v:=by
 obtain⟨a,cap,rfl,h1,h2⟩:=h
 refine⟨a,cap,rfl,h1,fun j x hx=>?_⟩
 obtain⟨g,ka,kc,na,nc,rfl,e1,e2,e3,c0,c1,c2,c3,c4⟩:=h2 j x hx
 have c:=fun i=>hb.cell (p:=⟨g,i,none⟩) e2
 exact⟨g,ka,kc,na,nc,rfl,e1,Nat.lt_of_lt_of_le e2 hb.size,e3.keep (hb.mono hn),(c _).trans c0,(c _).trans c1,(c _).trans c2,(c _).trans c3,(c _).trans c4⟩
def AR2 (n lo hi:Nat) (w:World) (l:List Sx) (a:Option Addr):Prop:=∀ (j:Nat) (x:Sx),l[j]? = some x→∃ g off ka kc na nc,a=some ⟨g,off,none⟩∧lo≤g∧g<hi∧SxIn n w x (.agg #[.int .i64 x.kind,.string (bs x.name),.slice ka x.kids.length kc,.slice na x.names.length nc,.int .i64 x.at_]) ∧
  w.cell? ⟨g,off+j*5,none⟩=some (.int .i64 x.kind)∧w.cell? ⟨g,off+j*5+1,none⟩=some (.string (bs x.name))∧w.cell? ⟨g,off+j*5+2,none⟩=some (.slice ka x.kids.length kc)∧w.cell? ⟨g,off+j*5+3,none⟩=some (.slice na x.names.length nc)∧w.cell? ⟨g,off+j*5+4,none⟩=some (.int .i64 x.at_)
theorem AR.two {n lo lo2:Nat} {w:World} {l:List Sx} {a:Option Addr} {cap:Nat} (h:AR n lo w l (.slice a l.length cap)) (hl:lo2≤lo):AR2 n lo2 w.heap.size w l a:=by
 obtain⟨a',cap',e,h1,h2⟩:=h
 obtain⟨rfl,_,rfl⟩:a=a'∧l.length=l.length∧cap=cap':=by injection e with e1 e2 e3;exact⟨e1,rfl,e3⟩
 intro j x hx
 obtain⟨g,ka,kc,na,nc,e0,e1,e2,e3,c0,c1,c2,c3,c4⟩:=h2 j x hx
 simp only [Nat.zero_add] at *
 exact⟨g,0,ka,kc,na,nc,e0,by omega,e2,e3,by simpa using c0,by simpa using c1,by simpa using c2,by simpa using c3,by simpa using c4⟩
theorem AR2.kn {n lo hi:Nat} {No:Nat→Prop} {w w':World} {l:List Sx} {a:Option Addr} (h:AR2 n lo hi w l a) (hh:hi≤w.heap.size) (hk:Kn No w w') (hb:Below n w w') (hN:∀ g,lo≤g→g<hi→No g):AR2 n lo hi w' l a:=by
 intro j x hx
 obtain⟨g,off,ka,kc,na,nc,e0,e1,e2,e3,c0,c1,c2,c3,c4⟩:=h j x hx
 have c:=fun i=>hk.cell (p:=⟨g,i,none⟩) (hN g e1 e2) (by show g<_;omega)
 exact⟨g,off,ka,kc,na,nc,e0,e1,e2,e3.keep hb,(c _).trans c0,(c _).trans c1,(c _).trans c2,(c _).trans c3,(c _).trans c4⟩
theorem AR2.blw {n lo hi:Nat} {w w':World} {l:List Sx} {a:Option Addr} (h:AR2 n lo hi w l a) (hh:hi≤w.heap.size) (hn:n≤w.heap.size) (hb:Below w.heap.size w w'):AR2 n lo hi w' l a :=
 h.kn hh (Kn.of_below (No:=fun _=>True) hb) (hb.mono hn) (fun _ _ _=>trivial)
theorem AR2.take {n lo hi:Nat} {w:World} {l:List Sx} {a:Option Addr} (h:AR2 n lo hi w l a) (k:Nat):AR2 n lo hi w (l.take k) a:=by
 intro j x hx
 refine h j x ?_
 rw [List.getElem?_take] at hx
 split at hx
 ·exact hx
 ·cases hx
structure ApF (m s z p bw bv kk:Nat) (t hd:Sx) (ar:List Sx) (tk:List Nat) (ka na fka fna aa ta:Option Addr) (kc nc fkc fnc:Nat) (w:World):Prop where
 bx:Bx w s (.int .i64 t.kind) (.string (bs t.name)) (.slice ka t.kids.length kc) (.slice na t.names.length nc) (.int .i64 t.at_)
 tx:Tx w (s+1) (.int .i64 0) (.int .i64 0) (.string ⟨#[]⟩) (.slice none 0 0) (.slice none 0 0) (.slice none 0 0)
 fx:Bx w z (.int .i64 hd.kind) (.string (bs hd.name)) (.slice fka hd.kids.length fkc) (.slice fna hd.names.length fnc) (.int .i64 hd.at_)
 wx:Wx w p kk (.slice ta tk.length tk.length)
 ar:AR2 m s z w ar aa
 ht:SxIn m w t (.agg #[.int .i64 t.kind,.string (bs t.name),.slice ka t.kids.length kc,.slice na t.names.length nc,.int .i64 t.at_])
 hh:SxIn m w hd (.agg #[.int .i64 hd.kind,.string (bs hd.name),.slice fka hd.kids.length fkc,.slice fna hd.names.length fnc,.int .i64 hd.at_])
 tk:TkIn bw bv w tk (.slice ta tk.length tk.length)
 lt:m≤bv∧bv≤s∧s+2≤z∧z<p∧p<w.heap.size
theorem ApF.kn {m s z p bw bv kk:Nat} {t hd:Sx} {ar:List Sx} {tk:List Nat} {ka na fka fna aa ta:Option Addr} {kc nc fkc fnc:Nat} {w w':World} {No:Nat→Prop} (h:ApF m s z p bw bv kk t hd ar tk ka na fka fna aa ta kc nc fkc fnc w) (hk:Kn No w w') (hN:∀ g,g<bv∨(s≤g∧g≤p)→No g):ApF m s z p bw bv kk t hd ar tk ka na fka fna aa ta kc nc fkc fnc w':=by
 obtain⟨l1,l2,l3,l4,l5⟩:=h.lt
 have hb:Below bv w w':=hk.below (fun g hg=>hN g (.inl hg)) (by omega)
 exact⟨h.bx.kn hk (hN _ (.inr (by omega))),h.tx.kn hk (hN _ (.inr (by omega))),h.fx.kn hk (hN _ (.inr (by omega))),h.wx.kn hk (hN _ (.inr (by omega))),h.ar.kn (by omega) hk (hb.mono l1) (fun g h1 h2=>hN g (.inr (by omega))),h.ht.keep (hb.mono l1),h.hh.keep (hb.mono l1),h.tk.blw hb,l1,l2,l3,l4,Nat.lt_of_lt_of_le l5 hk.size⟩
theorem ApF.blw {m s z p bw bv kk:Nat} {t hd:Sx} {ar:List Sx} {tk:List Nat} {ka na fka fna aa ta:Option Addr} {kc nc fkc fnc:Nat} {w w':World} (h:ApF m s z p bw bv kk t hd ar tk ka na fka fna aa ta kc nc fkc fnc w) (hb:Below w.heap.size w w'):ApF m s z p bw bv kk t hd ar tk ka na fka fna aa ta kc nc fkc fnc w' :=
 h.kn (Kn.of_below (No:=fun _=>True) hb) (fun _ _=>trivial)
structure ApI (R:Rsv) (σ:Sg) (n y x:Nat) (No:Nat→Prop) (w:World) (a:Tm) (ra qa sa:Option Addr) (rc qc sc:Nat) (ok:Nat→Prop) (wr:World):Prop where
 tx:Tx wr x (.int .i64 (a.kind:Nat)) (.int .i64 (a.n:Nat)) (.string (bs a.name)) (.slice ra a.r.length rc) (.slice qa a.kids.length qc) (.slice sa a.sys.length sc)
 tm:TmIn ok wr a (.agg #[.int .i64 (a.kind:Nat),.int .i64 (a.n:Nat),.string (bs a.name),.slice ra a.r.length rc,.slice qa a.kids.length qc,.slice sa a.sys.length sc])
 okb:∀ g,ok g→y≤g∧g<wr.heap.size
 rin:R.In wr σ n
 sh:R.Sh wr (fun g=>No g∨ok g)
 kn:Kn (fun g=>No g∧g≠x) w wr
end Go.Proofs.YtahnbigkdfmpbaaGreatDoor
namespace Go.Proofs.YtahnbigkdfmpbaaGreatDoor
def withR (a:Tm) (l:List Cl):Tm:=.mk a.kind a.n a.name l a.kids a.sys
def uniT:Tm:=.mk 3 0 [] [] [] []
def atR (f:Nat) (term:Sg→Sx→Rz Tm) (σ:Sg) (t:Sx):Rz Tm :=
 (if ((wdOf (spineR f (kd t 0)).1.name).1=21∨(wdOf (spineR f (kd t 0)).1.name).1=26)∧(spineR f (kd t 0)).2.length=(wdOf (spineR f (kd t 0)).1.name).2.length
  then callR term σ (wdOf (spineR f (kd t 0)).1.name).1 (wdOf (spineR f (kd t 0)).1.name).2 (spineR f (kd t 0)).2.reverse []
  else (term σ (kd t 0)).bnd fun a=>some (.inr (tmK 13 [a,uniT,uniT]))).bnd fun a=>(fmR σ f (kd t 1)).bnd fun l=>some (.inr (withR a l))
def termR:Nat→Sg→Sx→Rz Tm
 | 0,_,_=>none
 | f+1,σ,t =>
  if t.kind=1∨t.kind=6 then appliedR (f+1) (termR f) σ t
  else if t.kind=2 then (bodyR (termR f) σ t).bnd fun a=>some (.inr (inAllF 5 t.names.length a))
  else if t.kind=3 then (bodyR (termR f) σ t).bnd fun a=>some (.inr (inAllF 12 t.names.length a))
  else if t.kind=7 then atR f (termR f) σ t
  else none
end Go.Proofs.YtahnbigkdfmpbaaGreatDoor
namespace Go.Proofs.YtahnbigkdfmpbaaGreatDoor
open Go.RowKit Go.Maps Go.WideMaps
set_option maxRecDepth 100000 in
set_option maxHeartbeats 4000000 in
theorem call0_any (p:Value) (k:Nat) (ta a:Option Addr) (cap:Nat) (w:World) :
  Calls Tryz.prog 75 #[p,.agg #[.int .i64 (k:Nat),.slice ta 0 0],.slice a 0 cap] w fun e w'=>EndZ (some (.inr (tmK k []))) (fun a v w'=>TmIn (fun _=>False) w' a v) e w'∧Below w.heap.size w w':=by
 go_enter Tryz.func75,Tryz.ntmps75
 go_wp2_with fail
 obtain⟨w1,hw1⟩:∃ w1,w1=((w.alloc (.cells #[.int .i64 (k:Nat),.slice ta 0 0] 97)).alloc (.cells #[.int .i64 0,.int .i64 0,.string ⟨#[]⟩,.slice none 0 0,.slice none 0 0,.slice none 0 0] 37)).alloc (.cells #[.int .i64 (k:Nat),.int .i64 0,.string ⟨#[]⟩,.slice none 0 0,.slice none 0 0,.slice none 0 0] 37):=⟨_,rfl⟩
 have q1:Below w.heap.size w w1:=by rw [hw1];exact chain (chain (below_alloc _ _) (below_alloc _ _)) (below_alloc _ _)
 have t1:Tx w1 (w.heap.size+1) (.int .i64 0) (.int .i64 0) (.string ⟨#[]⟩) (.slice none 0 0) (.slice none 0 0) (.slice none 0 0):=by
  rw [hw1]
  have:=(tx_new (w.alloc (.cells #[.int .i64 (k:Nat),.slice ta 0 0] 97)) (.int .i64 0) (.int .i64 0) (.string ⟨#[]⟩) (.slice none 0 0) (.slice none 0 0) (.slice none 0 0)).blw (below_alloc _ (.cells #[.int .i64 (k:Nat),.int .i64 0,.string ⟨#[]⟩,.slice none 0 0,.slice none 0 0,.slice none 0 0] 37))
  simpa using this
 have t2:Tx w1 (w.heap.size+1+1) (.int .i64 (k:Nat)) (.int .i64 0) (.string ⟨#[]⟩) (.slice none 0 0) (.slice none 0 0) (.slice none 0 0):=by
  rw [hw1]
  have:=tx_new ((w.alloc (.cells #[.int .i64 (k:Nat),.slice ta 0 0] 97)).alloc (.cells #[.int .i64 0,.int .i64 0,.string ⟨#[]⟩,.slice none 0 0,.slice none 0 0,.slice none 0 0] 37)) (.int .i64 (k:Nat)) (.int .i64 0) (.string ⟨#[]⟩) (.slice none 0 0) (.slice none 0 0) (.slice none 0 0)
  simpa using this
 rw [← hw1]
 clear hw1
 go_loopw [16] (fun i wr=>i=.int .i64 0∧wr=w1) (fun _ _=>0)
 case atStart=>exact⟨rfl,rfl⟩
 case round =>
  obtain⟨rfl,hw⟩:=hrel
  rw [hw]
  clear hw
  have g2:=t1.put (.int .i64 (k:Nat)) (.int .i64 0) (.string ⟨#[]⟩) (.slice none 0 0) (.slice none 0 0) (.slice none 0 0)
  have hal2:Below w.heap.size w (pu6 w1 (w.heap.size+1) (.int .i64 (k:Nat)) (.int .i64 0) (.string ⟨#[]⟩) (.slice none 0 0) (.slice none 0 0) (.slice none 0 0)):=Below.put6 q1 (by omega) _ _ _ _ _ _
  obtain⟨c0,c1,c2,c3,c4,c5⟩:=t1.cells
  obtain⟨i0,i1,i2,i3,i4,i5⟩:=t2.cells
  have f0:=t1.cold 0
  have f1:=t1.cold 1
  have f2:=t1.cold 2
  have f3:=t1.cold 3
  have f4:=t1.cold 4
  have f5:=t1.cold 5
  have H2:Hid (_∧_):=⟨g2,hal2⟩
  clear g2 hal2 t1 t2 q1
  go_wp2
  obtain⟨g2,hal2⟩:=H2.out
  unfold pu6 at g2 hal2
  obtain⟨d0,d1,d2,d3,d4,d5⟩:=g2.cells
  exact⟨rfl,.agg #[.int .i64 (k:Nat),.int .i64 0,.string ⟨#[]⟩,.slice none 0 0,.slice none 0 0,.slice none 0 0],by simp only [results,Tryz.results75];simp [go_sem,d0,d1,d2,d3,d4,d5],⟨_,rfl,tm_leafN k 0 []⟩,hal2⟩
end Go.Proofs.YtahnbigkdfmpbaaGreatDoor
