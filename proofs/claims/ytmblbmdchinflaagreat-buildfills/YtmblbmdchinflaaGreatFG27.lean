/- A maker: it keeps the first error. -/
import Derived.Test.YtmblbmdchinflaaGreatEG8
import Derived.Test.YtmblbmdchinflaaGreatEG5
import Derived.Test.YtmblbmdchinflaaGreatEG7
import Derived.Test.YtmblbmdchinflaaGreatEG24
import Derived.Test.YtmblbmdchinflaaGreatEG23
import Derived.Laws.BitsLemmas
import Derived.WalkKit
import Derived.Sort.Grow
import Derived.Deep.Draws
import Derived.Deep.RegionHeld3
import Derived.Lib.QuietBelow
import Derived.Laws.OwnMore
import Derived.OwnWalk
import Derived.Deep.Onto
import Derived.Deep.QuietTactic
import Derived.BigQuiet
import Derived.WalkSmall
import Derived.Lib.SliceRun
import Derived.Maps.OwnSet
import Derived.Maps.AppendAt
import Derived.DeepKeys4
import Derived.WideKeyPair
import Derived.Deep.AppendLies
import Derived.Lib.AppendZeros
import Derived.RangeFuncNested
import Derived.RangeFuncBound
import Derived.RangeFuncCalls
import Derived.RangeFuncLeaves
import Derived.RangeFuncFrom
import Derived.RangeFuncBox
import Derived.Shelf.Abstract
import Derived.Shelf.RegionOpen
import Derived.OwnWalkIn
import Derived.TacticsInMore
import Derived.LoopNIn
import Derived.LoopIn
import Derived.Test.YtmblbmdchinflaaGreatEFC
import Derived.Test.YtmblbmdchinflaaGreatEFD
set_option linter.unusedVariables false
set_option linter.unusedSimpArgs false
set_option maxRecDepth 100000
set_option maxHeartbeats 4000000
namespace Go.Proofs.YtmblbmdchinflaaGreat
open Go.RowKit
open Go.RowKit Go.Sort
open Go.RowKit Go.Shelf
open Go.RowKit Go.Shelf Go.Sort
open Go.RowKit Go.Maps
structure Mk (w:World) (g:Nat) (f:Int):Prop where
 blk:∃ ty,w.heap[g]? = some (.cells #[.int .i64 f] ty (0,0))
abbrev Ng (g:Nat):Nat→Prop:=fun q=>q≠g
theorem Mk.lt {w:World} {g:Nat} {f:Int} (h:Mk w g f):g<w.heap.size:=by obtain⟨ty,h⟩:=h.blk;exact (Array.getElem?_eq_some_iff.1 h).1
theorem Mk.cells {w:World} {g:Nat} {f:Int} (h:Mk w g f):w.cell? ⟨g,0,none⟩=some (.int .i64 f)∧w.frozen? ⟨g,0,none⟩=false:=by
 obtain⟨ty,h⟩:=h.blk
 exact⟨by simp [World.cell?,h],by unfold World.frozen?; simp [h]⟩
theorem Mk.kn {No:Nat→Prop} {w w':World} {g:Nat} {f:Int} (h:Mk w g f) (hk:Kn No w w') (hg:No g):Mk w' g f:=by
 have hl:=h.lt
 obtain⟨ty,h⟩:=h.blk
 exact⟨ty,(hk.block g hg hl).trans h⟩
theorem Mk.blw {w w':World} {g:Nat} {f:Int} (h:Mk w g f) (hb:Below w.heap.size w w'):Mk w' g f:=h.kn (Kn.of_below (No:=fun _=>True) hb) trivial
theorem Mk.set {w:World} {g:Nat} {f:Int} (h:Mk w g f) (e:Int):Mk (w.setCell ⟨g,0,none⟩ (.int .i64 e)) g e:=by
 obtain⟨ty,h⟩:=h.blk
 exact⟨ty,set_blk h _⟩
theorem kn_set66 (w:World) (s:Nat) (u0 u1 u2 u3 u4 u5:Value):Kn (fun q=>q≠s) w ((((((w.setCell ⟨s,0,none⟩ u0).setCell ⟨s,1,none⟩ u1).setCell ⟨s,2,none⟩ u2).setCell ⟨s,3,none⟩ u3).setCell ⟨s,4,none⟩ u4).setCell ⟨s,5,none⟩ u5):=(((((kn_set _ _ _ _).trans (kn_set _ _ _ _)).trans (kn_set _ _ _ _)).trans (kn_set _ _ _ _)).trans (kn_set _ _ _ _)).trans (kn_set _ _ _ _)
def fstE (f e:Int):Int:=if f=0 then e else f
theorem fstE_zero {f e:Int}:fstE f e=0↔f=0∧e=0:=by unfold fstE;split <;> simp [*]
theorem fstE_none (f:Int):fstE f 0=f:=by unfold fstE;split <;> simp [*]
theorem Kn.new {No:Nat→Prop} {x:Nat} {w0 w w':World} (h:Kn No w0 w) (hk:Kn (fun q=>q≠x) w w') (hx:w0.heap.size≤x):Kn No w0 w' :=
 ⟨hk.os.trans h.os,hk.tape.trans h.tape,hk.output.trans h.output,Nat.le_trans h.size hk.size,fun i hi hb=>(hk.block i (by omega) (Nat.lt_of_lt_of_le hb h.size)).trans (h.block i hi hb)⟩
theorem Kn.blw {No:Nat→Prop} {w0 w w':World} (h:Kn No w0 w) (hb:Below w.heap.size w w'):Kn No w0 w':=h.trans (Kn.of_below hb)
theorem keep_any (g:Nat) (f e0:Int) (w:World) (hM:Mk w g f) :
  Calls Tryz.prog 72 #[.pointer (some ⟨g,0,none⟩),.int .i64 e0] w fun e w'=>e=.returned (.tuple #[])∧Mk w' g (fstE f e0)∧Kn (Ng g) w w':=by
 obtain⟨y0,f0⟩:=hM.cells
 have m2:=hM.set e0
 have k2:=kn_set w g 0 (.int .i64 e0)
 have HE:Hid (fstE f e0=if f=0 then e0 else f):=(rfl:_=_)
 obtain⟨F,hF⟩:∃ F,F=fstE f e0:=⟨_,rfl⟩
 rw [← hF] at HE ⊢
 clear hF
 go_enter Tryz.func72,Tryz.ntmps72
 by_cases hz:f=0
 ·have hE:F=e0:=by rw [HE.out,if_pos hz]
  subst hE
  subst hz
  clear HE
  go_wp2_with fail
  go_end0
  exact⟨rfl,m2,k2⟩
 ·have hE:F=f:=by rw [HE.out,if_neg hz]
  have hz1:(f == 0)=false:=by simpa using hz
  subst hE
  have kr:=Kn.refl (Ng g) w
  clear m2 k2 HE
  go_wp2_with fail
  go_end0
  exact⟨rfl,hM,kr⟩
theorem mrow_any (g:Nat) (f e0:Int) (a:Option Addr) (n c:Nat) (w:World) (hM:Mk w g f) :
  Calls Tryz.prog 36 #[.pointer (some ⟨g,0,none⟩),.slice a n c,.int .i64 e0] w fun e w'=>e=.returned (.slice a n c)∧Mk w' g (fstE f e0)∧Kn (Ng g) w w':=by
 have ck:=keep_any g f e0 w hM
 clear hM
 go_enter Tryz.func36,Tryz.ntmps36
 go_wp2_with fail
 refine ck.mono ?_
 rintro e w2 ⟨rfl,hM2,hk2⟩
 clear ck
 go_wp2_with fail
 go_ret
 exact⟨rfl,hM2,hk2⟩
theorem mpart_any (g:Nat) (f e0:Int) (k n:Int) (nm:ByteArray) (ra:Option Addr) (rl rc:Nat) (ka:Option Addr) (kl kc:Nat) (sa:Option Addr) (sl sc:Nat) (w:World) (hM:Mk w g f) :
  Calls Tryz.prog 69 #[.pointer (some ⟨g,0,none⟩),.agg #[.int .i64 k,.int .i64 n,.string nm,.slice ra rl rc,.slice ka kl kc,.slice sa sl sc],.int .i64 e0] w fun e w'=>e=.returned (.agg #[.int .i64 k,.int .i64 n,.string nm,.slice ra rl rc,.slice ka kl kc,.slice sa sl sc])∧Mk w' g (fstE f e0)∧Kn (Ng g) w w':=by
 obtain⟨w1,hw1⟩:∃ W,W=(w.alloc (.cells #[.int .i64 k,.int .i64 n,.string nm,.slice ra rl rc,.slice ka kl kc,.slice sa sl sc] 26)).alloc (.cells #[.int .i64 0,.int .i64 0,.string ⟨#[]⟩,.slice none 0 0,.slice none 0 0,.slice none 0 0] 26):=⟨_,rfl⟩
 have b1:Below w.heap.size w w1:=by rw [hw1];exact bchain (belowA _ _) (belowA _ _)
 obtain⟨X,hX⟩:∃ X,X=w.heap.size:=⟨_,rfl⟩
 have s1:w1.heap.size=X+2:=by rw [hw1,hX];simp
 have x1:Six w1 X (.int .i64 k) (.int .i64 n) (.string nm) (.slice ra rl rc) (.slice ka kl kc) (.slice sa sl sc):=⟨by rw [hX,hw1];exact (Below.heap_alloc _ _ _ (by simp)).trans (heapNew w _)⟩
 have x2:Six w1 (X+1) (.int .i64 0) (.int .i64 0) (.string ⟨#[]⟩) (.slice none 0 0) (.slice none 0 0) (.slice none 0 0):=⟨by
  rw [hX,hw1];have:=heapNew (w.alloc (.cells #[.int .i64 k,.int .i64 n,.string nm,.slice ra rl rc,.slice ka kl kc,.slice sa sl sc] 26)) (.cells #[.int .i64 0,.int .i64 0,.string ⟨#[]⟩,.slice none 0 0,.slice none 0 0,.slice none 0 0] 26);rwa [World.size_alloc] at this⟩
 have hgX:g<X:=by rw [hX];exact hM.lt
 have hM1:=hM.blw b1
 have ck:=keep_any g f e0 w1 hM1
 have HW:Hid (_=_):=hw1
 have HX:Hid (X=w.heap.size):=hX
 have Hb1:Hid (Below w.heap.size w w1):=b1
 clear hw1 hX hM hM1 b1
 go_enter Tryz.func69,Tryz.ntmps69
 go_upto_region 1 with fail
 rw [← HW.out]
 simp only [← HX.out]
 clear HW
 go_wp2_with fail
 refine ck.mono ?_
 rintro e w2 ⟨rfl,hM2,hk2⟩
 clear ck
 have hX2:=x1.kn hk2 (by omega)
 have zz:=x2.kn hk2 (by omega)
 obtain⟨y0,y1,y2,y3,y4,y5,_⟩:=hX2.cells
 have zz2:=zz.set6 (.int .i64 k) (.int .i64 n) (.string nm) (.slice ra rl rc) (.slice ka kl kc) (.slice sa sl sc)
 obtain⟨o0,o1,o2,o3,o4,o5,ff⟩:=zz.cells
 have f0:=ff 0
 have f1:=ff 1
 have f2:=ff 2
 have f3:=ff 3
 have f4:=ff 4
 have f5:=ff 5
 obtain⟨w3,hwz⟩:∃ W,W=(((((w2.setCell ⟨X+1,0,none⟩ (.int .i64 k)).setCell ⟨X+1,1,none⟩ (.int .i64 n)).setCell ⟨X+1,2,none⟩ (.string nm)).setCell ⟨X+1,3,none⟩ (.slice ra rl rc)).setCell ⟨X+1,4,none⟩ (.slice ka kl kc)).setCell ⟨X+1,5,none⟩ (.slice sa sl sc):=⟨_,rfl⟩
 rw [← hwz] at zz2
 have kz:Kn (fun q=>q≠X+1) w2 w3:=by rw [hwz];exact kn_set66 _ _ _ _ _ _ _ _
 have hM3:=hM2.kn kz (by omega)
 have hK3:Kn (Ng g) w w3:=((Kn.of_below Hb1.out).trans hk2).new kz (by rw [← HX.out];omega)
 obtain⟨h0,h1,h2,h3,h4,h5,_⟩:=zz2.cells
 have Hwz:Hid (_=_):=hwz
 clear hwz ff kz zz zz2 x1 x2 hX2
 go_wp2_with fail
 rw [← Hwz.out]
 exact bodyPost_ret (v:=.agg #[.int .i64 k,.int .i64 n,.string nm,.slice ra rl rc,.slice ka kl kc,.slice sa sl sc]) (by simp only [results,Tryz.results69];simp [go_sem,h0,h1,h2,h3,h4,h5]) rfl ⟨rfl,hM3,hK3⟩
def Bt (g lo hi:Nat):Nat→Prop:=fun q=>q≠g∧lo≤q∧q<hi
theorem ClRow.lt' {ok ok':Nat→Prop} {w:World} {l:List C} {v:Value} (h:ClRow ok w l v) (hq:∀ q,ok q→q<w.heap.size→ok' q):ClRow ok' w l v:=by
 obtain⟨a,cap,h1,h2,h3⟩:=h
 refine⟨a,cap,h1,h2,fun j x hx=>?_⟩
 obtain⟨g,off,a1,a2,a3,a4⟩:=h3 j x hx
 exact⟨g,off,a1,hq g a2 a3,a3,a4⟩
theorem KdT.lt' {ok ok':Nat→Prop} {w:World} {P:Tm→Value→Prop} {l:List Tm} {v:Value} (h:KdT ok w P l v) (hq:∀ q,ok q→q<w.heap.size→ok' q):KdT ok' w P l v:=by
 obtain⟨a,cap,h1,h2,h3⟩:=h
 refine⟨a,cap,h1,h2,fun j x hx=>?_⟩
 obtain⟨g,off,u0,u1,u2,u3,u4,u5,a1,a2,a3,a4⟩:=h3 j x hx
 exact⟨g,off,u0,u1,u2,u3,u4,u5,a1,hq g a2 a3,a3,a4⟩
theorem SyT.lt' {ok ok':Nat→Prop} {w:World} {P:Tm→Value→Prop} {l:List (List C × List Tm)} {v:Value} (h:SyT ok w P l v) (hq:∀ q,ok q→q<w.heap.size→ok' q):SyT ok' w P l v:=by
 obtain⟨a,cap,h1,h2,h3⟩:=h
 refine⟨a,cap,h1,h2,fun j x hx=>?_⟩
 obtain⟨g,off,vf,vk,a1,a2,a3,a4,a5,a6⟩:=h3 j x hx
 exact⟨g,off,vf,vk,a1,hq g a2 a3,a3,a4.lt' hq,a5.lt' hq,a6⟩
theorem TmIn.lt' {ok ok':Nat→Prop} {w:World} {t:Tm} {v:Value} (h:TmIn ok w t v) (hq:∀ q,ok q→q<w.heap.size→ok' q):TmIn ok' w t v :=
 h (TmIn ok' w) fun k n nm r kids sys vr vk vs hk hn h1 h2 h3=>.mk k n nm r kids sys vr vk vs hk hn (h1.lt' hq) (h2.lt' hq) (h3.lt' hq)
theorem SyT.ltA {ok ok':Nat→Prop} {w:World} {l:List (List C × List Tm)} {v:Value} (h:SyT ok w (TmIn ok w) l v) (hq:∀ q,ok q→q<w.heap.size→ok' q):SyT ok' w (TmIn ok' w) l v:=(h.lt' hq).mono fun _ _ hx=>hx.lt' hq
theorem KdT.ltA {ok ok':Nat→Prop} {w:World} {l:List Tm} {v:Value} (h:KdT ok w (TmIn ok w) l v) (hq:∀ q,ok q→q<w.heap.size→ok' q):KdT ok' w (TmIn ok' w) l v:=(h.lt' hq).mono fun _ _ hx=>hx.lt' hq
theorem TmIn.bt {g lo:Nat} {w:World} {t:Tm} {v:Value} (h:TmIn (OkN lo w) w t v) (hg:g<lo):TmIn (Bt g lo w.heap.size) w t v:=h.lt' fun q hq hs=>⟨by have:=hq.1;omega,hq.1,hs⟩
theorem ClRow.bt {g lo:Nat} {w:World} {l:List C} {v:Value} (h:ClRow (OkN lo w) w l v) (hg:g<lo):ClRow (Bt g lo w.heap.size) w l v:=h.lt' fun q hq hs=>⟨by have:=hq.1;omega,hq.1,hs⟩
theorem TmIn.tt {ok:Nat→Prop} {w:World} {t:Tm} {v:Value} (h:TmIn ok w t v):TmIn Tt w t v:=h.up fun _ _=>trivial
theorem ClRow.kn {ok No:Nat→Prop} {w w':World} {l:List C} {v:Value} (h:ClRow ok w l v) (hk:Kn No w w') (ho:∀ g,ok g→No g):ClRow ok w' l v:=h.keep hk.size (fun _ h=>h) (fun g h1 h2=>hk.block g (ho g h1) h2)
theorem heapBox {w:World} (o:Obj) {k:Nat} {x:Obj} (h:w.heap[k]? = some x):(w.alloc o).heap[k]? = some x:=(Below.heap_alloc _ _ _ (Array.getElem?_eq_some_iff.1 h).1).trans h
theorem ClRow.tt {ok:Nat→Prop} {w:World} {l:List C} {v:Value} (h:ClRow ok w l v):ClRow Tt w l v:=h.lt' fun _ _ _=>trivial
theorem zr {P:Program} {md:Region.Mode} {ops:Array Oper} {Q:Exit→Act→World→Prop} {S:World→Prop} {fuel:Nat} {listed:Array Bool} {a:Act} {w:World} (i:Nat) {o:Oper} (ho:ops[i]? = some o)
  (h:∀ K':Act→World→Prop,Shut (∀ a w,S w→(S w→wpAnyH P md ops Q S fuel (listed.setIfInBounds i true) a w)→K' a w)→StepP P ops Q o a w K') (hr:Region.ready md ops listed=[i]:=by kernel_rfl):wpAnyH P md ops Q S (fuel+1) listed a w :=
 wpAnyH_ready hr (by simp) (ready_cons ho h AllReadyH.nil)
theorem zst {w:World} {s:Nat} {v0 v1 v2 v3 v4 v5:Value} (h:Six w s v0 v1 v2 v3 v4 v5) (u0 u1 u2 u3 u4 u5:Value):∃ W,W=(((((w.setCell ⟨s,0,none⟩ u0).setCell ⟨s,1,none⟩ u1).setCell ⟨s,2,none⟩ u2).setCell ⟨s,3,none⟩ u3).setCell ⟨s,4,none⟩ u4).setCell ⟨s,5,none⟩ u5∧Six W s u0 u1 u2 u3 u4 u5∧Kn (fun q=>q≠s) w W ∧
  w.cell? ⟨s,0,none⟩=some v0∧w.cell? ⟨s,1,none⟩=some v1∧w.cell? ⟨s,2,none⟩=some v2∧w.cell? ⟨s,3,none⟩=some v3∧w.cell? ⟨s,4,none⟩=some v4∧w.cell? ⟨s,5,none⟩=some v5 ∧
  w.frozen? ⟨s,0,none⟩=false∧w.frozen? ⟨s,1,none⟩=false∧w.frozen? ⟨s,2,none⟩=false∧w.frozen? ⟨s,3,none⟩=false∧w.frozen? ⟨s,4,none⟩=false∧w.frozen? ⟨s,5,none⟩=false:=by
 obtain⟨o0,o1,o2,o3,o4,o5,ff⟩:=h.cells
 exact⟨_,rfl,h.set6 u0 u1 u2 u3 u4 u5,kn_set66 _ _ _ _ _ _ _ _,o0,o1,o2,o3,o4,o5,ff 0,ff 1,ff 2,ff 3,ff 4,ff 5⟩
theorem zal (w:World):∃ q W,q=w.heap.size∧W=w.alloc (.cells #[.int .i64 0,.int .i64 0,.string ⟨#[]⟩,.slice none 0 0,.slice none 0 0,.slice none 0 0] 26)∧Below w.heap.size w W∧(q<W.heap.size∧W.heap.size≤q+1)∧w.heap.size≤q∧Six W q (.int .i64 0) (.int .i64 0) (.string ⟨#[]⟩) (.slice none 0 0) (.slice none 0 0) (.slice none 0 0) :=
 ⟨_,_,rfl,rfl,belowA _ _,by simp,Nat.le_refl _,⟨heapNew _ _⟩⟩
def bothE (vs ds:Int) (t:Tm):Int:=if wrL ds vs t=0 then (if erT ⟨0,vs,0,0⟩ t 0 0=0 then (if 1000000<ds then 2 else erT ⟨0,0,0,ds⟩ (liT ⟨0,vs,0,0⟩ t 0 0) 0 0) else erT ⟨0,vs,0,0⟩ t 0 0) else wrL ds vs t
def bothT (vs ds:Int) (t:Tm):Tm:=if bothE vs ds t=0 then liT ⟨0,0,0,ds⟩ (liT ⟨0,vs,0,0⟩ t 0 0) 0 0 else zeroT
theorem lboth_any (hLA:LAll) (t:Tm) (v:Value) (w:World) (hv:TmIn Tt w t v) (hb:blk t≤20000) (vs ds:Int) :
  Calls Tryz.prog 70 #[v,.int .i64 vs,.int .i64 ds] w fun e w'=>∃ v',e=.returned (.tuple #[v',.int .i64 (bothE vs ds t)])∧TmIn (OkN w.heap.size w') w' (bothT vs ds t) v'∧Below w.heap.size w w':=by
 obtain⟨ra,rc,ka,kc,sa,sc,rfl,ht⟩:=hv.form
 obtain⟨w1,hw1⟩:∃ W,W=(w.alloc (.cells #[.int .i64 t.kind,.int .i64 t.n,.string t.name,.slice ra t.r.length rc,.slice ka t.kids.length kc,.slice sa t.sys.length sc] 26)).alloc (.cells #[.int .i64 0,.int .i64 0,.string ⟨#[]⟩,.slice none 0 0,.slice none 0 0,.slice none 0 0] 26):=⟨_,rfl⟩
 have b1:Below w.heap.size w w1:=by rw [hw1];exact bchain (belowA _ _) (belowA _ _)
 obtain⟨X,hX⟩:∃ X,X=w.heap.size:=⟨_,rfl⟩
 have s1:w1.heap.size=X+2:=by rw [hw1,hX];simp
 have x1:Six w1 X (.int .i64 t.kind) (.int .i64 t.n) (.string t.name) (.slice ra t.r.length rc) (.slice ka t.kids.length kc) (.slice sa t.sys.length sc):=⟨by rw [hX,hw1];exact (Below.heap_alloc _ _ _ (by simp)).trans (heapNew w _)⟩
 have x2:Six w1 (X+1) (.int .i64 0) (.int .i64 0) (.string ⟨#[]⟩) (.slice none 0 0) (.slice none 0 0) (.slice none 0 0):=⟨by
  rw [hX,hw1];have:=heapNew (w.alloc (.cells #[.int .i64 t.kind,.int .i64 t.n,.string t.name,.slice ra t.r.length rc,.slice ka t.kids.length kc,.slice sa t.sys.length sc] 26)) (.cells #[.int .i64 0,.int .i64 0,.string ⟨#[]⟩,.slice none 0 0,.slice none 0 0,.slice none 0 0] 26);rwa [World.size_alloc] at this⟩
 have HC:Hid (∀ W,Below w1.heap.size w1 W→Six W X (.int .i64 t.kind) (.int .i64 t.n) (.string t.name) (.slice ra t.r.length rc) (.slice ka t.kids.length kc) (.slice sa t.sys.length sc)):=fun W q=>x1.blw q
 have HZ:Hid (∀ W,Below w1.heap.size w1 W→Six W (X+1) (.int .i64 0) (.int .i64 0) (.string ⟨#[]⟩) (.slice none 0 0) (.slice none 0 0) (.slice none 0 0)):=fun W q=>x2.blw q
 have HT:Hid (∀ W,Below w1.heap.size w1 W→TmIn Tt W t (.agg #[.int .i64 t.kind,.int .i64 t.n,.string t.name,.slice ra t.r.length rc,.slice ka t.kids.length kc,.slice sa t.sys.length sc])):=fun W q=>((ht.blw b1).blw q).value
 have HB:Hid (∀ W,Below w1.heap.size w1 W→Below X w W):=fun W q=>by rw [hX];exact bchain b1 q
 have HXs:Hid (X=w.heap.size):=hX
 have Hs1:Hid (w1.heap.size=X+2):=s1
 have HW:Hid (_=_):=hw1
 have cw:=lwrong_any t _ w1 (HT.out w1 (Below.refl _ _)) hb ds vs
 have HE:Hid (bothE vs ds t=if wrL ds vs t=0 then (if erT ⟨0,vs,0,0⟩ t 0 0=0 then (if 1000000<ds then 2 else erT ⟨0,0,0,ds⟩ (liT ⟨0,vs,0,0⟩ t 0 0) 0 0) else erT ⟨0,vs,0,0⟩ t 0 0) else wrL ds vs t):=(rfl:_=_)
 have HTt:Hid (bothT vs ds t=if bothE vs ds t=0 then liT ⟨0,0,0,ds⟩ (liT ⟨0,vs,0,0⟩ t 0 0) 0 0 else zeroT):=(rfl:_=_)
 have HOk:Hid (wrL ds vs t=0→(Sf.mk 0 vs 0 0).ok∧Fm t∧0≤ds∧0≤vs):=fun h=>by
  unfold wrL at h
  split at h
  ·rename_i h1
   split at h
   ·cases h
   ·rename_i h2
    exact⟨by refine⟨?_,?_,?_,?_,?_,?_,?_,?_⟩ <;> dsimp only <;> omega,fm_of_wrong h1,by omega,by omega⟩
  ·omega
 obtain⟨e0,he0⟩:∃ e,e=wrL ds vs t:=⟨_,rfl⟩
 rw [← he0] at cw HE HOk
 clear he0
 rw [← hX]
 clear hw1 hX s1 x1 x2 hv ht b1
 go_enter Tryz.func70,Tryz.ntmps70
 go_upto_region 1 with fail
 rw [← HW.out]
 simp only [← HXs.out]
 clear HW
 obtain⟨y0,y1,y2,y3,y4,y5,_⟩:=(HC.out w1 (Below.refl _ _)).cells
 go_wp2_with fail
 refine cw.mono ?_
 rintro e w2 ⟨rfl,b2⟩
 clear cw y0 y1 y2 y3 y4 y5
 by_cases hz:e0=0
 ·subst hz
  obtain⟨hok,hfm,hds,hvs⟩:=HOk.out rfl
  rw [if_pos rfl] at HE
  have ct:=lterm_any (hLA _ hok) t _ w2 (HT.out w2 b2) hfm (by omega)
  obtain⟨y0,y1,y2,y3,y4,y5,_⟩:=(HC.out w2 b2).cells
  have hfL:Fm (liT ⟨0,vs,0,0⟩ t 0 0):=fm_li (s:=⟨0,vs,0,0⟩) hvs _ t 0 0 (Nat.le_refl _) hfm
  have hbL:blk (liT ⟨0,vs,0,0⟩ t 0 0)≤20000:=Nat.le_trans (blk_li (s:=⟨0,vs,0,0⟩) _ t 0 0 (Nat.le_refl _)) hb
  have HAn:Hid (ansL ⟨0,vs,0,0⟩ t=if erT ⟨0,vs,0,0⟩ t 0 0=0 then liT ⟨0,vs,0,0⟩ t 0 0 else zeroT):=(rfl:_=_)
  obtain⟨er,her⟩:∃ e,e=erT ⟨0,vs,0,0⟩ t 0 0:=⟨_,rfl⟩
  obtain⟨LT,hLT⟩:∃ T,T=liT ⟨0,vs,0,0⟩ t 0 0:=⟨_,rfl⟩
  rw [← her,← hLT] at HE HAn
  rw [← hLT] at HTt hfL hbL
  obtain⟨T,hT⟩:∃ T,T=ansL ⟨0,vs,0,0⟩ t:=⟨_,rfl⟩
  rw [← hT] at ct HAn
  rw [← her] at ct
  dsimp only at ct
  clear her hLT hT HOk hok hfm
  go_wp2_with fail
  refine ct.mono ?_
  rintro e w3 ⟨v3,rfl,hv3,b3⟩
  clear ct y0 y1 y2 y3 y4 y5
  have b23:=bchain b2 b3
  have hsz:=Hs1.out
  have hs2:=b2.size
  have hs3:=b3.size
  obtain⟨ra2,rc2,ka2,kc2,sa2,sc2,rfl,ht2⟩:=hv3.form
  by_cases hr:er=0
  ·subst hr
   rw [if_pos rfl] at HE
   have hTL:T=LT:=by rw [HAn.out,if_pos rfl]
   subst hTL
   obtain⟨x9,hx9⟩:∃ x,x=w3.heap.size:=⟨_,rfl⟩
   obtain⟨w4,hw4⟩:∃ W,W=w3.alloc (.cells #[.int .i64 T.kind,.int .i64 T.n,.string T.name,.slice ra2 T.r.length rc2,.slice ka2 T.kids.length kc2,.slice sa2 T.sys.length sc2] 26):=⟨_,rfl⟩
   have b4:Below w3.heap.size w3 w4:=by rw [hw4];exact belowA _ _
   have n4:Six w4 x9 (.int .i64 T.kind) (.int .i64 T.n) (.string T.name) (.slice ra2 T.r.length rc2) (.slice ka2 T.kids.length kc2) (.slice sa2 T.sys.length sc2):=⟨by rw [hw4,hx9];exact heapNew _ _⟩
   have b24:=bchain b23 b4
   have hv4:TmIn Tt w4 T (.agg #[.int .i64 T.kind,.int .i64 T.n,.string T.name,.slice ra2 T.r.length rc2,.slice ka2 T.kids.length kc2,.slice sa2 T.sys.length sc2]):=((ht2.blw b4).up fun _ _=>trivial).value
   have H4:Hid (_=_):=hw4
   have H9:Hid (x9=w3.heap.size):=hx9
   have hs4:=b4.size
   clear hw4 hx9 ht2 hv3
   go_upto_region 5 with fail
   rw [← H4.out]
   simp only [← H9.out]
   clear H4
   by_cases hd:1000000<ds
   ·have hd1:decide (1000000<ds)=true:=by simpa using hd
    rw [if_pos hd] at HE
    have Hf:Hid (bothE vs ds t=2∧bothT vs ds t=zeroT):=⟨HE.out,by rw [HTt.out,if_neg (by rw [HE.out];omega)]⟩
    clear HE HTt HAn hLA
    have zz:=HZ.out w4 b24
    have zz2:=zz.set6 (.int .i64 0) (.int .i64 0) (.string ⟨#[]⟩) (.slice none 0 0) (.slice none 0 0) (.slice none 0 0)
    obtain⟨o0,o1,o2,o3,o4,o5,ff⟩:=zz.cells
    have f0:=ff 0
    have f1:=ff 1
    have f2:=ff 2
    have f3:=ff 3
    have f4:=ff 4
    have f5:=ff 5
    obtain⟨h0,h1,h2,h3,h4,h5,_⟩:=zz2.cells
    obtain⟨wz,hwz⟩:∃ W,W=(((((w4.setCell ⟨X+1,0,none⟩ (.int .i64 0)).setCell ⟨X+1,1,none⟩ (.int .i64 0)).setCell ⟨X+1,2,none⟩ (.string ⟨#[]⟩)).setCell ⟨X+1,3,none⟩ (.slice none 0 0)).setCell ⟨X+1,4,none⟩ (.slice none 0 0)).setCell ⟨X+1,5,none⟩ (.slice none 0 0):=⟨_,rfl⟩
    rw [← hwz] at h0 h1 h2 h3 h4 h5
    have kz:Kn (fun q=>q≠X+1) w4 wz:=by rw [hwz];exact (((((kn_set _ _ _ _).trans (kn_set _ _ _ _)).trans (kn_set _ _ _ _)).trans (kn_set _ _ _ _)).trans (kn_set _ _ _ _)).trans (kn_set _ _ _ _)
    have bz:Below X w wz:=(HB.out w4 b24).trans (kz.below (fun q hq=>by omega) (by have:=(HB.out w4 b24).size;have:=HXs.out;omega))
    have Hwz:Hid (_=_):=hwz
    clear hwz ff zz zz2 kz
    go_wp2_with fail
    rw [← Hwz.out]
    exact bodyPost_ret (v:=.tuple #[.agg #[.int .i64 0,.int .i64 0,.string ⟨#[]⟩,.slice none 0 0,.slice none 0 0,.slice none 0 0],.int .i64 (2)]) (by simp only [results,Tryz.results70];simp [go_sem,h0,h1,h2,h3,h4,h5]) rfl ⟨_,by rw [Hf.out.1],by rw [Hf.out.2];exact zeroT_in _ _,bz⟩
   ·have hd1:decide (1000000<ds)=false:=by simpa using hd
    rw [if_neg hd] at HE
    have c5:=lterm_any (hLA ⟨0,0,0,ds⟩ (by refine⟨?_,?_,?_,?_,?_,?_,?_,?_⟩ <;> dsimp only <;> omega)) T _ w4 hv4 hfL (by omega)
    have HAn2:Hid (ansL ⟨0,0,0,ds⟩ T=if erT ⟨0,0,0,ds⟩ T 0 0=0 then liT ⟨0,0,0,ds⟩ T 0 0 else zeroT):=(rfl:_=_)
    have Hf0:Hid (bothT vs ds t=ansL ⟨0,0,0,ds⟩ T):=(by rw [HTt.out,HE.out,HAn2.out]:_=_)
    obtain⟨e5,he5⟩:∃ e,e=erT ⟨0,0,0,ds⟩ T 0 0:=⟨_,rfl⟩
    obtain⟨U,hU⟩:∃ U,U=ansL ⟨0,0,0,ds⟩ T:=⟨_,rfl⟩
    rw [← he5,← hU] at c5
    rw [← he5] at HE
    rw [← hU] at Hf0
    dsimp only at c5
    have Hf:Hid (bothE vs ds t=e5∧bothT vs ds t=U):=⟨HE.out,Hf0.out⟩
    clear HE HTt HAn HAn2 Hf0 hLA he5 hU hv4
    obtain⟨y0,y1,y2,y3,y4,y5,_⟩:=n4.cells
    go_wp2_with fail
    refine c5.mono ?_
    rintro e w5 ⟨v5,rfl,hv5,b5⟩
    clear c5 y0 y1 y2 y3 y4 y5
    obtain⟨ra5,rc5,ka5,kc5,sa5,sc5,rfl,ht5⟩:=hv5.form
    have htv:=ht5.value
    have b25:=bchain b24 b5
    clear ht5 hv5
    have zz:=HZ.out w5 b25
    have zz2:=zz.set6 (.int .i64 U.kind) (.int .i64 U.n) (.string U.name) (.slice ra5 U.r.length rc5) (.slice ka5 U.kids.length kc5) (.slice sa5 U.sys.length sc5)
    obtain⟨o0,o1,o2,o3,o4,o5,ff⟩:=zz.cells
    have f0:=ff 0
    have f1:=ff 1
    have f2:=ff 2
    have f3:=ff 3
    have f4:=ff 4
    have f5:=ff 5
    obtain⟨h0,h1,h2,h3,h4,h5,_⟩:=zz2.cells
    obtain⟨wz,hwz⟩:∃ W,W=(((((w5.setCell ⟨X+1,0,none⟩ (.int .i64 U.kind)).setCell ⟨X+1,1,none⟩ (.int .i64 U.n)).setCell ⟨X+1,2,none⟩ (.string U.name)).setCell ⟨X+1,3,none⟩ (.slice ra5 U.r.length rc5)).setCell ⟨X+1,4,none⟩ (.slice ka5 U.kids.length kc5)).setCell ⟨X+1,5,none⟩ (.slice sa5 U.sys.length sc5):=⟨_,rfl⟩
    rw [← hwz] at h0 h1 h2 h3 h4 h5
    have kz:Kn (fun q=>q≠X+1) w5 wz:=by rw [hwz];exact (((((kn_set _ _ _ _).trans (kn_set _ _ _ _)).trans (kn_set _ _ _ _)).trans (kn_set _ _ _ _)).trans (kn_set _ _ _ _)).trans (kn_set _ _ _ _)
    have bz:Below X w wz:=(HB.out w5 b25).trans (kz.below (fun q hq=>by omega) (by have:=(HB.out w5 b25).size;have:=HXs.out;omega))
    have HTm:Hid (TmIn (OkN X wz) wz U (.agg #[.int .i64 U.kind,.int .i64 U.n,.string U.name,.slice ra5 U.r.length rc5,.slice ka5 U.kids.length kc5,.slice sa5 U.sys.length sc5])):=htv.keep kz.size (fun q hq=>(hq.same (kz.block q (by have:=hq.1;omega) hq.lt)).mono (by omega)) (fun q hq hs=>kz.block q (by have:=hq.1;omega) hs)
    have Hwz:Hid (_=_):=hwz
    clear hwz ff zz zz2 kz htv
    go_wp2_with fail
    rw [← Hwz.out]
    exact bodyPost_ret (v:=.tuple #[.agg #[.int .i64 U.kind,.int .i64 U.n,.string U.name,.slice ra5 U.r.length rc5,.slice ka5 U.kids.length kc5,.slice sa5 U.sys.length sc5],.int .i64 (e5)]) (by simp only [results,Tryz.results70];simp [go_sem,h0,h1,h2,h3,h4,h5]) rfl ⟨_,by rw [Hf.out.1],by rw [Hf.out.2];exact HTm.out,bz⟩
  ·rw [if_neg hr] at HE
   have hr1:(er == 0)=false:=by simpa using hr
   have Hf:Hid (bothE vs ds t=er∧bothT vs ds t=zeroT):=⟨HE.out,by rw [HTt.out,if_neg (by rw [HE.out];exact hr)]⟩
   obtain⟨w4,hw4⟩:∃ W,W=w3.alloc (.cells #[.int .i64 T.kind,.int .i64 T.n,.string T.name,.slice ra2 T.r.length rc2,.slice ka2 T.kids.length kc2,.slice sa2 T.sys.length sc2] 26):=⟨_,rfl⟩
   have b4:Below w3.heap.size w3 w4:=by rw [hw4];exact belowA _ _
   have b24:=bchain b23 b4
   have H4:Hid (_=_):=hw4
   clear hw4 ht2 hv3 HE HTt HAn hLA
   go_upto_region 5 with fail
   rw [← H4.out]
   clear H4
   have zz:=HZ.out w4 b24
   have zz2:=zz.set6 (.int .i64 0) (.int .i64 0) (.string ⟨#[]⟩) (.slice none 0 0) (.slice none 0 0) (.slice none 0 0)
   obtain⟨o0,o1,o2,o3,o4,o5,ff⟩:=zz.cells
   have f0:=ff 0
   have f1:=ff 1
   have f2:=ff 2
   have f3:=ff 3
   have f4:=ff 4
   have f5:=ff 5
   obtain⟨h0,h1,h2,h3,h4,h5,_⟩:=zz2.cells
   obtain⟨wz,hwz⟩:∃ W,W=(((((w4.setCell ⟨X+1,0,none⟩ (.int .i64 0)).setCell ⟨X+1,1,none⟩ (.int .i64 0)).setCell ⟨X+1,2,none⟩ (.string ⟨#[]⟩)).setCell ⟨X+1,3,none⟩ (.slice none 0 0)).setCell ⟨X+1,4,none⟩ (.slice none 0 0)).setCell ⟨X+1,5,none⟩ (.slice none 0 0):=⟨_,rfl⟩
   rw [← hwz] at h0 h1 h2 h3 h4 h5
   have kz:Kn (fun q=>q≠X+1) w4 wz:=by rw [hwz];exact (((((kn_set _ _ _ _).trans (kn_set _ _ _ _)).trans (kn_set _ _ _ _)).trans (kn_set _ _ _ _)).trans (kn_set _ _ _ _)).trans (kn_set _ _ _ _)
   have bz:Below X w wz:=(HB.out w4 b24).trans (kz.below (fun q hq=>by omega) (by have:=(HB.out w4 b24).size;have:=HXs.out;omega))
   have Hwz:Hid (_=_):=hwz
   clear hwz ff zz zz2 kz
   go_wp2_with fail
   rw [← Hwz.out]
   exact bodyPost_ret (v:=.tuple #[.agg #[.int .i64 0,.int .i64 0,.string ⟨#[]⟩,.slice none 0 0,.slice none 0 0,.slice none 0 0],.int .i64 (er)]) (by simp only [results,Tryz.results70];simp [go_sem,h0,h1,h2,h3,h4,h5]) rfl ⟨_,by rw [Hf.out.1],by rw [Hf.out.2];exact zeroT_in _ _,bz⟩
 ·rw [if_neg hz] at HE
  have hz1:(e0 == 0)=false:=by simpa using hz
  have hsz:=Hs1.out
  have Hf:Hid (bothE vs ds t=e0∧bothT vs ds t=zeroT):=⟨HE.out,by rw [HTt.out,if_neg (by rw [HE.out];exact hz)]⟩
  clear HE HTt HOk hLA
  have zz:=HZ.out w2 b2
  have zz2:=zz.set6 (.int .i64 0) (.int .i64 0) (.string ⟨#[]⟩) (.slice none 0 0) (.slice none 0 0) (.slice none 0 0)
  obtain⟨o0,o1,o2,o3,o4,o5,ff⟩:=zz.cells
  have f0:=ff 0
  have f1:=ff 1
  have f2:=ff 2
  have f3:=ff 3
  have f4:=ff 4
  have f5:=ff 5
  obtain⟨h0,h1,h2,h3,h4,h5,_⟩:=zz2.cells
  obtain⟨wz,hwz⟩:∃ W,W=(((((w2.setCell ⟨X+1,0,none⟩ (.int .i64 0)).setCell ⟨X+1,1,none⟩ (.int .i64 0)).setCell ⟨X+1,2,none⟩ (.string ⟨#[]⟩)).setCell ⟨X+1,3,none⟩ (.slice none 0 0)).setCell ⟨X+1,4,none⟩ (.slice none 0 0)).setCell ⟨X+1,5,none⟩ (.slice none 0 0):=⟨_,rfl⟩
  rw [← hwz] at h0 h1 h2 h3 h4 h5
  have kz:Kn (fun q=>q≠X+1) w2 wz:=by rw [hwz];exact (((((kn_set _ _ _ _).trans (kn_set _ _ _ _)).trans (kn_set _ _ _ _)).trans (kn_set _ _ _ _)).trans (kn_set _ _ _ _)).trans (kn_set _ _ _ _)
  have bz:Below X w wz:=(HB.out w2 b2).trans (kz.below (fun q hq=>by omega) (by have:=(HB.out w2 b2).size;have:=HXs.out;omega))
  have Hwz:Hid (_=_):=hwz
  clear hwz ff zz zz2 kz
  go_wp2_with fail
  rw [← Hwz.out]
  exact bodyPost_ret (v:=.tuple #[.agg #[.int .i64 0,.int .i64 0,.string ⟨#[]⟩,.slice none 0 0,.slice none 0 0,.slice none 0 0],.int .i64 (e0)]) (by simp only [results,Tryz.results70];simp [go_sem,h0,h1,h2,h3,h4,h5]) rfl ⟨_,by rw [Hf.out.1],by rw [Hf.out.2];exact zeroT_in _ _,bz⟩
attribute [local go_sem] Oper.semAt_some
theorem AJoin_any (l m:List C) (a b:Value) (w:World) (ha:FRow w a l) (hb:FRow w b m) (hl:l.length≤40000) (hm:m.length≤40000) :
  Calls Tryz.prog 96 #[a,b] w fun e w'=>∃ v,e=.returned (.tuple #[v,.int .i64 (jnA l m).2])∧OwnsC w' w.heap.size v (jnA l m).1∧Below w.heap.size w w':=by
 have c1:=aright_any l a w ha (by omega)
 have c2:=fun w1 (h:Below w.heap.size w w1)=>aright_any m b w1 (hb.below h) (by omega)
 have c3:=fun w1 (h:Below w.heap.size w w1)=>ajoin_any l m a b w1 (ha.row.below h) (hb.row.below h) hl hm
 obtain⟨pa,ca,rfl⟩:=ha.len
 obtain⟨pb,cb,rfl⟩:=hb.len
 have HJ:Hid (jnA l m=if rightA l && rightA m then leastF (l++m) else ([],2)):=rfl
 clear ha hb
 generalize l.length=n1 at *
 generalize m.length=n2 at *
 cases hf:rightA l
 ·rw [hf] at c1 HJ
  go_enter Tryz.func96,Tryz.ntmps96
  go_wp2_with fail
  refine c1.mono ?_
  rintro e w1 ⟨rfl,hB1⟩
  clear c1
  go_wp2
  go_ret2
  rw [HJ.out]
  exact⟨_,rfl,World.ownsRow_nil _ _ _ _,hB1⟩
 ·cases hg:rightA m
  ·rw [hf] at c1 HJ
   rw [hg] at HJ
   simp only [hg] at c2
   go_enter Tryz.func96,Tryz.ntmps96
   go_wp2_with fail
   refine c1.mono ?_
   rintro e w1 ⟨rfl,hB1⟩
   clear c1
   replace c2:=c2 w1 hB1
   go_wp2_with fail
   refine c2.mono ?_
   rintro e w2 ⟨rfl,hB2⟩
   clear c2
   go_wp2
   go_ret2
   rw [HJ.out]
   exact⟨_,rfl,World.ownsRow_nil _ _ _ _,chain hB1 hB2⟩
  ·rw [hf] at c1 HJ
   rw [hg] at HJ
   simp only [hg] at c2
   go_enter Tryz.func96,Tryz.ntmps96
   go_wp2_with fail
   refine c1.mono ?_
   rintro e w1 ⟨rfl,hB1⟩
   clear c1
   replace c2:=c2 w1 hB1
   go_wp2_with fail
   refine c2.mono ?_
   rintro e w2 ⟨rfl,hB2⟩
   clear c2
   replace c3:=c3 w2 (chain hB1 hB2)
   go_wp2_with fail
   refine c3.mono ?_
   rintro e w3 ⟨v3,rfl,hO3,hB3⟩
   clear c3
   go_wp2
   go_ret2
   rw [HJ.out]
   exact⟨_,rfl,OwnsC.mono hO3 (chain hB1 hB2).size,chain (chain hB1 hB2) hB3⟩
attribute [local go_sem] Oper.semAt_some
theorem Meet_any (l m:List C) (a b:Value) (w:World) (ha:FRow w a l) (hb:FRow w b m) (hl:l.length≤40000) (hm:m.length≤40000) :
  Calls Tryz.prog 37 #[a,b] w fun e w'=>∃ v,e=.returned (.tuple #[v,.int .i64 (meetF l m).2])∧OwnsC w' w.heap.size v (meetF l m).1∧Below w.heap.size w w':=by
 have c1:=fright_any l a w ha (by omega)
 have c2:=fun w1 (h:Below w.heap.size w w1)=>fright_any m b w1 (hb.below h) (by omega)
 have c3:=fun w1 (h:Below w.heap.size w w1) (h1:l.length≤300) (h2:m.length≤300)=>fmeet_any l m a b w1 (ha.row.below h) (hb.row.below h) h1 h2
 have HL:Hid (rightF l=true→l.length≤300):=fun h=>by have:=rightF_len h;omega
 have HM:Hid (rightF m=true→m.length≤300):=fun h=>by have:=rightF_len h;omega
 obtain⟨pa,ca,rfl⟩:=ha.len
 obtain⟨pb,cb,rfl⟩:=hb.len
 have HJ:Hid (meetF l m=if rightF l && rightF m then meetR l m else ([],2)):=rfl
 clear ha hb
 generalize l.length=n1 at *
 generalize m.length=n2 at *
 cases hf:rightF l
 ·rw [hf] at c1 HJ
  go_enter Tryz.func37,Tryz.ntmps37
  go_wp2_with fail
  refine c1.mono ?_
  rintro e w1 ⟨rfl,hB1⟩
  clear c1
  go_wp2
  go_ret2
  rw [HJ.out]
  exact⟨_,rfl,World.ownsRow_nil _ _ _ _,hB1⟩
 ·cases hg:rightF m
  ·rw [hf] at c1 HJ
   rw [hg] at HJ
   simp only [hg] at c2
   go_enter Tryz.func37,Tryz.ntmps37
   go_wp2_with fail
   refine c1.mono ?_
   rintro e w1 ⟨rfl,hB1⟩
   clear c1
   replace c2:=c2 w1 hB1
   go_wp2_with fail
   refine c2.mono ?_
   rintro e w2 ⟨rfl,hB2⟩
   clear c2
   go_wp2
   go_ret2
   rw [HJ.out]
   exact⟨_,rfl,World.ownsRow_nil _ _ _ _,chain hB1 hB2⟩
  ·rw [hf] at c1 HJ
   rw [hg] at HJ
   simp only [hg] at c2
   go_enter Tryz.func37,Tryz.ntmps37
   go_wp2_with fail
   refine c1.mono ?_
   rintro e w1 ⟨rfl,hB1⟩
   clear c1
   replace c2:=c2 w1 hB1
   go_wp2_with fail
   refine c2.mono ?_
   rintro e w2 ⟨rfl,hB2⟩
   clear c2
   replace c3:=c3 w2 (chain hB1 hB2) (HL.out hf) (HM.out hg)
   go_wp2_with fail
   refine c3.mono ?_
   rintro e w3 ⟨v3,rfl,hO3,hB3⟩
   clear c3
   go_wp2
   go_ret2
   rw [HJ.out]
   exact⟨_,rfl,OwnsC.mono hO3 (chain hB1 hB2).size,chain (chain hB1 hB2) hB3⟩
end Go.Proofs.YtmblbmdchinflaaGreat
