/- Lifts: a node's parts. -/
import Derived.Deep.RegionHeld
import Derived.Deep.DeepCutAuto
import Derived.Test.YtblbhmnahoiecaaGreatGG9
import Derived.Test.YtblbhmnahoiecaaGreatGG8
import Derived.Defers
import Derived.Recover
import Derived.RegionTactic
set_option linter.unusedVariables false
set_option linter.unusedSimpArgs false
set_option maxRecDepth 100000
set_option maxHeartbeats 4000000
namespace Go.Proofs.YtblbhmnahoiecaaGreat
open Go.RowKit
structure LEnv (w:World) (s:Sf) (xs xl:Nat):Prop where
 sc:w.heap[xs]? = some (.cells #[.int .i64 s.vf,.int .i64 s.vb,.int .i64 s.df,.int .i64 s.db] 166 (0,0))
 lf:w.heap[xl]? = some (.cells #[.func (.func 215) #[] #[.pointer (some ⟨xs,0,none⟩),.pointer (some ⟨xl,0,none⟩)]] 192 (0,0))
theorem LEnv.blw {w w':World} {s:Sf} {xs xl:Nat} (h:LEnv w s xs xl) (hb:Below w.heap.size w w'):LEnv w' s xs xl :=
 ⟨(hb.block xs (Array.getElem?_eq_some_iff.1 h.sc).1).trans h.sc,(hb.block xl (Array.getElem?_eq_some_iff.1 h.lf).1).trans h.lf⟩
theorem LEnv.fn {w:World} {s:Sf} {xs xl:Nat} (h:LEnv w s xs xl):w.cell? ⟨xl,0,none⟩=some (.func (.func 215) #[] #[.pointer (some ⟨xs,0,none⟩),.pointer (some ⟨xl,0,none⟩)]):=by simp [World.cell?,h.lf]
theorem LEnv.cs {w:World} {s:Sf} {xs xl:Nat} (h:LEnv w s xs xl):w.cell? ⟨xs,0,none⟩=some (.int .i64 s.vf)∧w.cell? ⟨xs,1,none⟩=some (.int .i64 s.vb)∧w.cell? ⟨xs,2,none⟩=some (.int .i64 s.df)∧w.cell? ⟨xs,3,none⟩=some (.int .i64 s.db):=by
 refine⟨?_,?_,?_,?_⟩ <;> simp [World.cell?,h.sc]
def Bnd (w:World) (x bv bd:Nat):Prop:=w.heap[x]? = some (.cells #[.int .i64 (bv:Int),.int .i64 (bd:Int)] 194 (0,0))
theorem Bnd.blw {w w':World} {x bv bd:Nat} (h:Bnd w x bv bd) (hb:Below w.heap.size w w'):Bnd w' x bv bd:=(hb.block x (Array.getElem?_eq_some_iff.1 h).1).trans h
theorem Bnd.cs {w:World} {x bv bd:Nat} (h:Bnd w x bv bd):w.cell? ⟨x,0,none⟩=some (.int .i64 (bv:Int))∧w.cell? ⟨x,1,none⟩=some (.int .i64 (bd:Int)):=by
 unfold Bnd at h;refine⟨?_,?_⟩ <;> simp [World.cell?,h]
def LfC (s:Sf) (N:Nat):Prop:=∀ (t:Tm) (bv bd g off xs xl:Nat) (ra:Option Addr) (rc:Nat) (ka:Option Addr) (kc:Nat) (sa:Option Addr) (sc:Nat) (w:World),
 LEnv w s xs xl→Cs6 w g off t ra rc ka kc sa sc→TmTop Tt w t ra rc ka kc sa sc→Fm t→blk t≤N→bv+blk t≤60000→bd+blk t≤60000→blk t≤40000 →
 Calls Tryz.prog 215 #[.pointer (some ⟨g,off,none⟩),.agg #[.int .i64 (bv:Int),.int .i64 (bd:Int)],.pointer (some ⟨xs,0,none⟩),.pointer (some ⟨xl,0,none⟩)] w fun e w'=>LOut (erT s t bv bd) (TmIn (OkN w.heap.size w') w' (liT s t bv bd)) e∧Below w.heap.size w w'
theorem lf_eg:∀ args w,(callFunc 215 args).run Tryz.prog w=.ok (.enter 215 args) w:=enters_of Tryz.func215 (by kernel_rfl) rfl
theorem lf1_eg:∀ args w,(callFunc 219 args).run Tryz.prog w=.ok (.enter 219 args) w:=enters_of Tryz.func219 (by kernel_rfl) rfl
theorem lf2_eg:∀ args w,(callFunc 221 args).run Tryz.prog w=.ok (.enter 221 args) w:=enters_of Tryz.func221 (by kernel_rfl) rfl
theorem lf21_eg:∀ args w,(callFunc 222 args).run Tryz.prog w=.ok (.enter 222 args) w:=enters_of Tryz.func222 (by kernel_rfl) rfl
theorem mkfn (fn:Fn) (first cap:Array Value) (w:World):(Instr.makeFunc fn first cap).run Tryz.prog w=.ok (.func fn first cap) w:=rfl
theorem res_six {w2 w3:World} {X n:Nat} {t:Tm} {v:Value} (h:TmIn (OkN n w2) w2 t v) (hk:Kn (fun q=>q≠X) w2 w3) (hX:X<n):TmIn (OkN X w3) w3 t v :=
 h.keep hk.size (fun q hq=>(hq.same (hk.block q (by have:=hq.1;omega) hq.lt)).mono (by omega)) (fun q hq hs=>hk.block q (by have:=hq.1;omega) hs)
theorem lkid2_any {s:Sf} {N:Nat} (IH:LfC s N) (k:Int) (x:Tm) (bv bd g off xs xl xi:Nat) (ra:Option Addr) (rc:Nat) (ka:Option Addr) (kc:Nat) (sa:Option Addr) (sc:Nat) (w:World) (hE:LEnv w s xs xl) (hi:Bnd w xi bv bd) (h6:Cs6 w g off x ra rc ka kc sa sc) (ht:TmTop Tt w x ra rc ka kc sa sc) (hf:Fm x) (hN:blk x≤N) (h1:bv+blk x≤60000) (h2:bd+blk x≤60000) (h3:blk x≤40000) :
  Calls Tryz.prog 222 #[.int .i64 k,.pointer (some ⟨g,off,none⟩),.pointer (some ⟨xl,0,none⟩),.pointer (some ⟨xi,0,none⟩)] w fun e w'=>LOut (erT s x bv bd) (TmIn (OkN w.heap.size w') w' (liT s x bv bd)) e∧Below w.heap.size w w':=by
 obtain⟨w1,hw1⟩:∃ W,W=w.alloc (.cells #[.int .i64 0,.int .i64 0,.string ⟨#[]⟩,.slice none 0 0,.slice none 0 0,.slice none 0 0] 26):=⟨_,rfl⟩
 have b1:Below w.heap.size w w1:=by rw [hw1];exact belowA _ _
 have s1:w1.heap.size=w.heap.size+1:=by rw [hw1];simp
 obtain⟨X,hX⟩:∃ X,X=w.heap.size:=⟨_,rfl⟩
 have hz1:Six w1 X (.int .i64 0) (.int .i64 0) (.string ⟨#[]⟩) (.slice none 0 0) (.slice none 0 0) (.slice none 0 0):=⟨by rw [hw1,hX];exact heapNew _ _⟩
 have cf:=(hE.blw b1).fn
 obtain⟨ci0,ci1⟩:=(hi.blw b1).cs
 have cc:=IH x bv bd g off xs xl ra rc ka kc sa sc w1 (hE.blw b1) (h6.blw b1) (ht.blw b1) hf hN h1 h2 h3
 have eg:=lf_eg
 have hBw:Below X w w1:=by rw [hX];exact b1
 have sX:w1.heap.size=X+1:=by omega
 rw [← hX]
 have HX:Hid (X=w.heap.size):=hX
 have HW:Hid (_=_):=hw1
 clear hw1 hE hi h6 ht hf b1 s1 hX IH
 go_enter Tryz.func222,Tryz.ntmps222
 go_upto_region 1 with fail
 rw [← HW.out]
 simp only [← HX.out]
 clear HW HX
 go_wp2_with fail
 refine cc.mono ?_
 rintro e w2 ⟨⟨he0,v2,rfl,hv2⟩ | ⟨hne,rfl⟩,hb2⟩
 ·clear cc cf ci0 ci1
  obtain⟨ra2,rc2,ka2,kc2,sa2,sc2,rfl,ht2⟩:=hv2.form
  obtain⟨T2,hT2⟩:∃ T,T=liT s x bv bd:=⟨_,rfl⟩
  rw [← hT2] at ht2 ⊢
  have HTe:Hid (T2=liT s x bv bd):=hT2
  have z2:Six w2 X (.int .i64 0) (.int .i64 0) (.string ⟨#[]⟩) (.slice none 0 0) (.slice none 0 0) (.slice none 0 0):=hz1.blw hb2
  obtain⟨w3,hw3⟩:∃ W,W=(((((w2.setCell ⟨X,0,none⟩ (.int .i64 T2.kind)).setCell ⟨X,1,none⟩ (.int .i64 T2.n)).setCell ⟨X,2,none⟩ (.string T2.name)).setCell ⟨X,3,none⟩ (.slice ra2 T2.r.length rc2)).setCell ⟨X,4,none⟩ (.slice ka2 T2.kids.length kc2)).setCell ⟨X,5,none⟩ (.slice sa2 T2.sys.length sc2):=⟨_,rfl⟩
  have z3:=z2.set6 (.int .i64 T2.kind) (.int .i64 T2.n) (.string T2.name) (.slice ra2 T2.r.length rc2) (.slice ka2 T2.kids.length kc2) (.slice sa2 T2.sys.length sc2)
  rw [← hw3] at z3
  have k3:Kn (fun q=>q≠X) w2 w3:=by rw [hw3];exact (((((kn_set _ _ _ _).trans (kn_set _ _ _ _)).trans (kn_set _ _ _ _)).trans (kn_set _ _ _ _)).trans (kn_set _ _ _ _)).trans (kn_set _ _ _ _)
  obtain⟨o0,o1,o2,o3,o4,o5,ff⟩:=z2.cells
  have f0:=ff 0
  have f1:=ff 1
  have f2:=ff 2
  have f3:=ff 3
  have f4:=ff 4
  have f5:=ff 5
  obtain⟨h0,h1,h2,h3,h4,h5,_⟩:=z3.cells
  have HT:Hid (TmIn (OkN X w3) w3 T2 (.agg #[.int .i64 T2.kind,.int .i64 T2.n,.string T2.name,.slice ra2 T2.r.length rc2,.slice ka2 T2.kids.length kc2,.slice sa2 T2.sys.length sc2])):=res_six ht2.value k3 (by omega)
  have b3:Below X w w3:=(hBw.trans (hb2.mono (by omega))).trans (k3.below (fun q hq=>by omega) (by have:=hb2.size;omega))
  have H3:Hid (_=_):=hw3
  clear hw3 ff z2 z3 k3 ht2 hv2 hT2
  go_wp2_with fail
  rw [← H3.out]
  exact bodyPost_ret (v:=.agg #[.int .i64 T2.kind,.int .i64 T2.n,.string T2.name,.slice ra2 T2.r.length rc2,.slice ka2 T2.kids.length kc2,.slice sa2 T2.sys.length sc2]) (by simp only [results,Tryz.results222];simp [go_sem,h0,h1,h2,h3,h4,h5]) rfl ⟨.ok he0 (by rw [← HTe.out];exact HT.out),b3⟩
 ·clear cc
  exact⟨rfl,.inr ⟨hne,rfl⟩,hBw.trans (hb2.mono (by omega))⟩
theorem lkid1_any {s:Sf} {N:Nat} (IH:LfC s N) (i:Nat) (x:Tm) (kd:Int) (hkd:I64 kd) (hi9:i≤100000) (bv bd g off gt ot xs xl xp xb:Nat) (ra:Option Addr) (rc:Nat) (ka:Option Addr) (kc:Nat) (sa:Option Addr) (sc:Nat) (w:World) (hE:LEnv w s xs xl) (hi:Bnd w xb bv bd) (hp:w.cell? ⟨xp,0,none⟩=some (.pointer (some ⟨gt,ot,none⟩))) (hpl:xp<w.heap.size) (hk:w.cell? ⟨gt,ot,none⟩=some (.int .i64 kd)) (hkl:gt<w.heap.size) (h6:Cs6 w g off x ra rc ka kc sa sc) (ht:TmTop Tt w x ra rc ka kc sa sc) (hf:Fm x) (hN:blk x≤N) (h1:bv+1+blk x≤60000) (h2:bd+1+blk x≤60000) (h3:blk x≤40000) :
  Calls Tryz.prog 219 #[.int .i64 (i:Int),.pointer (some ⟨g,off,none⟩),.pointer (some ⟨xp,0,none⟩),.pointer (some ⟨xl,0,none⟩),.pointer (some ⟨xb,0,none⟩)] w fun e w'=>LOut (erT s x (bv+bvK kd i) (bd+bdK kd i)) (TmIn (OkN w.heap.size w') w' (liT s x (bv+bvK kd i) (bd+bdK kd i))) e∧Below w.heap.size w w':=by
 obtain⟨w1,hw1⟩:∃ W,W=w.alloc (.cells #[.int .i64 0,.int .i64 0,.string ⟨#[]⟩,.slice none 0 0,.slice none 0 0,.slice none 0 0] 26):=⟨_,rfl⟩
 have b1:Below w.heap.size w w1:=by rw [hw1];exact belowA _ _
 have s1:w1.heap.size=w.heap.size+1:=by rw [hw1];simp
 obtain⟨X,hX⟩:∃ X,X=w.heap.size:=⟨_,rfl⟩
 have hz1:Six w1 X (.int .i64 0) (.int .i64 0) (.string ⟨#[]⟩) (.slice none 0 0) (.slice none 0 0) (.slice none 0 0):=⟨by rw [hw1,hX];exact heapNew _ _⟩
 have cf:=(hE.blw b1).fn
 obtain⟨ci0,ci1⟩:=(hi.blw b1).cs
 have cp:=(b1.cell (p:=⟨xp,0,none⟩) hpl).trans hp
 have ck:=(b1.cell (p:=⟨gt,ot,none⟩) hkl).trans hk
 have hv1:=bvK_le kd i
 have hd1:=bdK_le kd i
 have cB:=bindsC_any kd (i:Int) w1
 rw [bvI_nat,bdI_nat] at cB
 obtain⟨V,hV⟩:∃ V,V=bvK kd i:=⟨_,rfl⟩
 obtain⟨D,hD⟩:∃ D,D=bdK kd i:=⟨_,rfl⟩
 rw [← hV] at hv1 cB ⊢
 rw [← hD] at hd1 cB ⊢
 have cc:=IH x (bv+V) (bd+D) g off xs xl ra rc ka kc sa sc w1 (hE.blw b1) (h6.blw b1) (ht.blw b1) hf hN (by omega) (by omega) h3
 have eg:=lf_eg
 have hBw:Below X w w1:=by rw [hX];exact b1
 have sX:w1.heap.size=X+1:=by omega
 rw [← hX]
 have HX:Hid (X=w.heap.size):=hX
 have HW:Hid (_=_):=hw1
 have wr1:wrap64 ((bv:Int) + (V:Int))=((bv+V:Nat):Int):=by simp [wrap64];omega
 have wr2:wrap64 ((bd:Int) + (D:Int))=((bd+D:Nat):Int):=by simp [wrap64];omega
 clear hw1 hE hi h6 ht hf b1 s1 hX IH hp hk hV hD
 go_enter Tryz.func219,Tryz.ntmps219
 go_upto_region 1 with fail
 rw [← HW.out]
 simp only [← HX.out]
 clear HW HX
 go_wp2_with fail
 refine cB.mono ?_
 rintro e w9 ⟨rfl,hw9⟩
 replace hw9:=hw9.symm
 subst hw9
 clear cB
 go_wp2_with fail
 refine cc.mono ?_
 rintro e w2 ⟨⟨he0,v2,rfl,hv2⟩ | ⟨hne,rfl⟩,hb2⟩
 ·clear cc cf ci0 ci1 cp ck
  obtain⟨ra2,rc2,ka2,kc2,sa2,sc2,rfl,ht2⟩:=hv2.form
  obtain⟨T2,hT2⟩:∃ T,T=liT s x (bv+V) (bd+D):=⟨_,rfl⟩
  rw [← hT2] at ht2 ⊢
  have HTe:Hid (T2=liT s x (bv+V) (bd+D)):=hT2
  have z2:Six w2 X (.int .i64 0) (.int .i64 0) (.string ⟨#[]⟩) (.slice none 0 0) (.slice none 0 0) (.slice none 0 0):=hz1.blw hb2
  obtain⟨w3,hw3⟩:∃ W,W=(((((w2.setCell ⟨X,0,none⟩ (.int .i64 T2.kind)).setCell ⟨X,1,none⟩ (.int .i64 T2.n)).setCell ⟨X,2,none⟩ (.string T2.name)).setCell ⟨X,3,none⟩ (.slice ra2 T2.r.length rc2)).setCell ⟨X,4,none⟩ (.slice ka2 T2.kids.length kc2)).setCell ⟨X,5,none⟩ (.slice sa2 T2.sys.length sc2):=⟨_,rfl⟩
  have z3:=z2.set6 (.int .i64 T2.kind) (.int .i64 T2.n) (.string T2.name) (.slice ra2 T2.r.length rc2) (.slice ka2 T2.kids.length kc2) (.slice sa2 T2.sys.length sc2)
  rw [← hw3] at z3
  have k3:Kn (fun q=>q≠X) w2 w3:=by rw [hw3];exact (((((kn_set _ _ _ _).trans (kn_set _ _ _ _)).trans (kn_set _ _ _ _)).trans (kn_set _ _ _ _)).trans (kn_set _ _ _ _)).trans (kn_set _ _ _ _)
  obtain⟨o0,o1,o2,o3,o4,o5,ff⟩:=z2.cells
  have f0:=ff 0
  have f1:=ff 1
  have f2:=ff 2
  have f3:=ff 3
  have f4:=ff 4
  have f5:=ff 5
  obtain⟨h0,h1,h2,h3,h4,h5,_⟩:=z3.cells
  have HT:Hid (TmIn (OkN X w3) w3 T2 (.agg #[.int .i64 T2.kind,.int .i64 T2.n,.string T2.name,.slice ra2 T2.r.length rc2,.slice ka2 T2.kids.length kc2,.slice sa2 T2.sys.length sc2])):=res_six ht2.value k3 (by omega)
  have b3:Below X w w3:=(hBw.trans (hb2.mono (by omega))).trans (k3.below (fun q hq=>by omega) (by have:=hb2.size;omega))
  have H3:Hid (_=_):=hw3
  clear hw3 ff z2 z3 k3 ht2 hv2 hT2
  go_wp2_with fail
  rw [← H3.out]
  exact bodyPost_ret (v:=.agg #[.int .i64 T2.kind,.int .i64 T2.n,.string T2.name,.slice ra2 T2.r.length rc2,.slice ka2 T2.kids.length kc2,.slice sa2 T2.sys.length sc2]) (by simp only [results,Tryz.results219];simp [go_sem,h0,h1,h2,h3,h4,h5]) rfl ⟨.ok he0 (by rw [← HTe.out];exact HT.out),b3⟩
 ·clear cc
  exact⟨rfl,.inr ⟨hne,rfl⟩,hBw.trans (hb2.mono (by omega))⟩
theorem map_get {α β:Type} {f:α→β} {l:List α} {k:Nat} {x:α} (h:l[k]? = some x) {y:β} (hy:(l.map f)[k]? = some y):y=f x:=by
 rw [List.getElem?_map,h] at hy;simpa using hy.symm
theorem lbr_any {s:Sf} (hs:s.ok) {N:Nat} (IH:LfC s N) (k:Int) (b:List C × List Tm) (bv bd bi g off xs xb xl xi:Nat) (fa:Option Addr) (fc:Nat) (ka:Option Addr) (kc:Nat) (w:World) (hE:LEnv w s xs xl) (hb:Bnd w xb bv bd) (hi:Bnd w xi bv bi) (h2:Cs2 w g off b fa fc ka kc) (hF:ClRow Tt w b.1 (.slice fa b.1.length fc)) (hK:KdT Tt w (TmIn Tt w) b.2 (.slice ka b.2.length kc)) (hf:∀ x∈b.2,Fm x) (hN:blkL b.2≤N) (hbl:b.1.length≤40000) (h1:bv+blkL b.2≤60000) (h3:bi+blkL b.2≤60000) (h4:blkL b.2≤40000) (hbd:bd≤60000) :
  Calls Tryz.prog 221 #[.int .i64 k,.pointer (some ⟨g,off,none⟩),.pointer (some ⟨xs,0,none⟩),.pointer (some ⟨xb,0,none⟩),.pointer (some ⟨xl,0,none⟩),.pointer (some ⟨xi,0,none⟩)] w fun e w'=>LOut (firstE ((rowP s bd b.1).2 :: b.2.map fun x=>erT s x bv bi)) (BrIn w.heap.size w' ((rowP s bd b.1).1,b.2.map fun x=>liT s x bv bi)) e∧Below w.heap.size w w':=by
 have hlen:=blkL_len b.2
 obtain⟨w1,hw1⟩:∃ W,W=w.alloc (.cells #[.slice none 0 0,.slice none 0 0] 40):=⟨_,rfl⟩
 have b1:Below w.heap.size w w1:=by rw [hw1];exact belowA _ _
 have s1:w1.heap.size=w.heap.size+1:=by rw [hw1];simp
 obtain⟨X,hX⟩:∃ X,X=w.heap.size:=⟨_,rfl⟩
 have hz1:Two w1 X (.slice none 0 0) (.slice none 0 0):=⟨by rw [hw1,hX];exact heapNew _ _⟩
 have HE:Hid (∀ W,Below w1.heap.size w1 W→LEnv W s xs xl):=fun W q=>(hE.blw b1).blw q
 have HB:Hid (∀ W,Below w1.heap.size w1 W→Bnd W xb bv bd):=fun W q=>(hb.blw b1).blw q
 have HI:Hid (∀ W,Below w1.heap.size w1 W→Bnd W xi bv bi):=fun W q=>(hi.blw b1).blw q
 have H2:Hid (∀ W,Below w1.heap.size w1 W→Cs2 W g off b fa fc ka kc):=fun W q=>(h2.blw b1).blw q
 have HK:Hid (∀ W,Below w1.heap.size w1 W→KdT Tt W (TmIn Tt W) b.2 (.slice ka b.2.length kc)):=fun W q=>(hK.blw b1).blw q
 obtain⟨F,hFl⟩:∃ F,F=b.1.length:=⟨_,rfl⟩
 obtain⟨L,hLl⟩:∃ L,L=b.2.length:=⟨_,rfl⟩
 have HR:Hid (∀ W,Below w1.heap.size w1 W→Calls Tryz.prog 217 #[.agg #[.int .i64 s.vf,.int .i64 s.vb,.int .i64 s.df,.int .i64 s.db],.slice fa F fc,.agg #[.int .i64 (bv:Int),.int .i64 (bd:Int)]] W fun e w'=>LOut (rowP s bd b.1).2 (fun v'=>OwnsC w' W.heap.size v' (rowP s bd b.1).1) e∧Below W.heap.size W w'):=fun W q=>by
  rw [hFl];exact lrow_any s hs bv bd b.1 _ W ((hF.blw b1).blw q) hbl (by omega)
 have HM:Hid (∀ W,Below w1.heap.size w1 W→Calls Tryz.prog 218 #[.slice ka L kc,.func (.func 222) #[] #[.pointer (some ⟨xl,0,none⟩),.pointer (some ⟨xi,0,none⟩)]] W fun e w'=>LOut (firstE (b.2.map fun x=>erT s x bv bi)) (fun v'=>KdT (OkN W.heap.size w') w' (TmIn (OkN W.heap.size w') w') (b.2.map fun x=>liT s x bv bi) v') e∧Below W.heap.size W w'):=fun W q=>by
  rw [hLl]
  refine lbecT_any 222 _ lf21_eg b.2 _ _ (by simp) (by simp) _ W (HK.out W q) (by omega) ?_
  intro k x y e0 p V hx hy he hat hV
  have qV:=bchain q hV
  rw [map_get hx hy,map_get hx he]
  obtain⟨g2,o2,n2,c2,e1,rfl⟩:=hat
  obtain⟨g3,o3,ra,rc,ka3,kc3,sa,sc,e2,_,h63,ht3⟩:=(HK.out V qV).at hx
  cases e1
  cases e2
  have hbx:blk x≤blkL b.2:=sumN_mem (List.mem_map_of_mem (f:=blk) (List.mem_of_getElem? hx))
  exact lkid2_any IH k x bv bi g2 (o2+k*6) xs xl xi ra rc ka3 kc3 sa sc V (HE.out V qV) (HI.out V qV) h63 ht3 (hf x (List.mem_of_getElem? hx)) (by omega) (by omega) (by omega) (by omega)
 have HFL:Hid (F=b.1.length∧L=b.2.length):=⟨hFl,hLl⟩
 have HX:Hid (X=w.heap.size):=hX
 have HW:Hid (_=_):=hw1
 have hmk:=mkfn
 have hBw:Below X w w1:=by rw [hX];exact b1
 have sX:Hid (w1.heap.size=X+1):=(by omega:w1.heap.size=X+1)
 obtain⟨P,hP⟩:∃ P,P=rowP s bd b.1:=⟨_,rfl⟩
 rw [← hP] at HR ⊢
 obtain⟨R,er⟩:=P
 dsimp only at HR ⊢
 obtain⟨em,hem⟩:∃ em,em=firstE (b.2.map fun x=>erT s x bv bi):=⟨_,rfl⟩
 rw [← hem] at HM
 rw [firstE_cons,← hem]
 obtain⟨res,hres⟩:∃ res,res=b.2.map fun x=>liT s x bv bi:=⟨_,rfl⟩
 rw [← hres] at HM ⊢
 have Hrl:Hid (res.length=L):=(by rw [hres,List.length_map];exact hLl.symm:res.length=L)
 rw [← hX]
 clear hw1 hE hb hi h2 hF hK b1 s1 hX hFl hLl hP hem hres IH hf hs
 have eg:=lf21_eg
 go_enter Tryz.func221,Tryz.ntmps221
 go_upto_region 1 with fail
 rw [← HW.out]
 simp only [← HX.out]
 clear HW HX
 refine wp_region_held_drew (S:=fun W=>Below w1.heap.size w1 W) (by kernel_rfl) ((Below.refl _ _).drew) (fun hS=>?_)
 obtain⟨wd,hwd⟩:∃ W,W=w1.drew:=⟨_,rfl⟩
 rw [← hwd] at hS ⊢
 clear hwd
 refine wpAnyH_take (i:=0) (v:=.agg #[.int .i64 s.vf,.int .i64 s.vb,.int .i64 s.df,.int .i64 s.db]) rfl (by kernel_rfl) (by kernel_rfl) (by kernel_rfl) (fun _ _ _ h=>h) (Or.inl ⟨by rfl,fun w hS=>by obtain⟨q0,q1,q2,q3⟩:=(HE.out w hS).cs;go_simp⟩) hS ?_
 try simp only [Act.put,List.getElem_toArray,List.getElem_cons_zero,List.getElem_cons_succ,List.setIfInBounds_toArray,List.set_cons_zero,List.set_cons_succ]
 refine wpAnyH_take (i:=1) (v:=.pointer (some ⟨g,off,none⟩)) rfl (by kernel_rfl) (by kernel_rfl) (by kernel_rfl) (fun _ _ _ h=>h) (Or.inl ⟨by rfl,fun w hS=>by go_simp⟩) hS ?_
 try simp only [Act.put,List.getElem_toArray,List.getElem_cons_zero,List.getElem_cons_succ,List.setIfInBounds_toArray,List.set_cons_zero,List.set_cons_succ]
 refine wpAnyH_take (i:=2) (v:=.pointer (some ⟨g,off,none⟩)) rfl (by kernel_rfl) (by kernel_rfl) (by kernel_rfl) (fun _ _ _ h=>h) (Or.inl ⟨by rfl,fun w hS=>by go_simp⟩) hS ?_
 try simp only [Act.put,List.getElem_toArray,List.getElem_cons_zero,List.getElem_cons_succ,List.setIfInBounds_toArray,List.set_cons_zero,List.set_cons_succ]
 refine wpAnyH_take (i:=3) (v:=.pointer (some ⟨g,off,none⟩)) rfl (by kernel_rfl) (by kernel_rfl) (by kernel_rfl) (fun _ _ _ h=>h) (Or.inl ⟨by rfl,fun w hS=>by go_simp⟩) hS ?_
 try simp only [Act.put,List.getElem_toArray,List.getElem_cons_zero,List.getElem_cons_succ,List.setIfInBounds_toArray,List.set_cons_zero,List.set_cons_succ]
 refine wpAnyH_take (i:=4) (v:=.slice fa F fc) rfl (by kernel_rfl) (by kernel_rfl) (by kernel_rfl) (fun _ _ _ h=>h) (Or.inl ⟨by rfl,fun w hS=>by have e:=(H2.out w hS).c0;rw [← HFL.out.1] at e;go_simp⟩) hS ?_
 try simp only [Act.put,List.getElem_toArray,List.getElem_cons_zero,List.getElem_cons_succ,List.setIfInBounds_toArray,List.set_cons_zero,List.set_cons_succ]
 refine wpAnyH_take (i:=5) (v:=.agg #[.int .i64 (bv:Int),.int .i64 (bd:Int)]) rfl (by kernel_rfl) (by kernel_rfl) (by kernel_rfl) (fun _ _ _ h=>h) (Or.inl ⟨by rfl,fun w hS=>by obtain⟨q0,q1⟩:=(HB.out w hS).cs;go_simp⟩) hS ?_
 try simp only [Act.put,List.getElem_toArray,List.getElem_cons_zero,List.getElem_cons_succ,List.setIfInBounds_toArray,List.set_cons_zero,List.set_cons_succ]
 refine wpAnyH_ready (rs:=[6]) (by kernel_rfl) (by simp) ?_
 refine ready_cons rfl (fun KK hKK=>?_) AllReadyH.nil
 refine⟨?_⟩
 have cR:=HR.out wd hS
 go_simp
 refine cR.mono ?_
 rintro e w2 ⟨⟨he0,v2,rfl,hv2⟩ | ⟨hne,rfl⟩,hb2⟩
 ·have hS2:=bchain hS hb2
  obtain⟨fa2,fc2,rfl⟩:=OwnsC.len hv2
  have hv2:=OwnsC.mono hv2 hS.size
  clear cR
  refine hKK.out _ _ hS2 (fun hS=>?_)
  clear hKK KK
  try simp only [Act.put,List.getElem_toArray,List.getElem_cons_zero,List.getElem_cons_succ,List.setIfInBounds_toArray,List.set_cons_zero,List.set_cons_succ]
  refine wpAnyH_ready (rs:=[7]) (by kernel_rfl) (by simp) ?_
  refine ready_cons rfl (fun KK hKK=>?_) AllReadyH.nil
  refine⟨?_⟩
  go_simp
  refine hKK.out _ _ hS (fun hS=>?_)
  clear hKK KK
  try simp only [Act.put,List.getElem_toArray,List.getElem_cons_zero,List.getElem_cons_succ,List.setIfInBounds_toArray,List.set_cons_zero,List.set_cons_succ]
  refine wpAnyH_done (by kernel_rfl) ?_ _
  have cM:=HM.out w2 hS2
  have c1:=(H2.out w2 hS2).c1
  rw [← HFL.out.2] at c1
  go_wp2_with fail
  refine cM.mono ?_
  rintro e w3 ⟨⟨hm0,v3,rfl,hv3⟩ | ⟨hne,rfl⟩,hb3⟩
  ·clear cM c1
   have hS3:=bchain hS2 hb3
   obtain⟨ka3,kc3,rfl,_⟩:=id hv3
   rw [Hrl.out] at hv3 ⊢
   have z3:=hz1.blw hS3
   obtain⟨q0,q1,qf⟩:=z3.cells
   have f0:=qf 0
   have f1:=qf 1
   obtain⟨w4,hw4⟩:∃ W,W=(w3.setCell ⟨X,0,none⟩ (.slice fa2 R.length fc2)).setCell ⟨X,1,none⟩ (.slice ka3 L kc3):=⟨_,rfl⟩
   have z4:=z3.set2 (.slice fa2 R.length fc2) (.slice ka3 L kc3)
   rw [← hw4] at z4
   have k4:Kn (fun q=>q≠X) w3 w4:=by rw [hw4];exact (kn_set _ _ _ _).trans (kn_set _ _ _ _)
   obtain⟨r0,r1,_⟩:=z4.cells
   have sX1:=sX.out
   have hs2:=hS2.size
   have up:∀ n q,X<n→OkN n w3 q→OkN X w4 q:=fun n q hn hq=>(hq.same (k4.block q (by have:=hq.1;omega) hq.lt)).mono (by omega)
   have ub:∀ n q,X<n→OkN n w3 q→q<w3.heap.size→w4.heap[q]? = w3.heap[q]?:=fun n q hn hq hs=>k4.block q (by have:=hq.1;omega) hs
   have HBr:Hid (BrIn X w4 (R,res) (.agg #[.slice fa2 R.length fc2,.slice ka3 L kc3])):=by
    refine⟨fa2,fc2,ka3,kc3,by rw [Hrl.out],?_,?_⟩
    ·exact (hv2.okn.okn hb3).keep k4.size (fun q hq=>up _ q (by omega) hq) (fun q hq hs=>ub _ q (by omega) hq hs)
    ·rw [Hrl.out];exact hv3.all k4.size (fun q hq=>up _ q (by omega) hq) (fun q hq hs=>ub _ q (by omega) hq hs)
   have b4:Below X w w4:=(hBw.trans (hS3.mono (by omega))).trans (k4.below (fun q hq=>by omega) (by have:=hS3.size;omega))
   have H4:Hid (_=_):=hw4
   clear hw4 z3 z4 k4 up ub hv2 hv3 qf sX1 hs2
   go_wp2_with fail
   rw [← H4.out]
   exact bodyPost_ret (v:=.agg #[.slice fa2 R.length fc2,.slice ka3 L kc3]) (by simp only [results,Tryz.results221];simp [go_sem,r0,r1]) rfl ⟨.ok (by first | rfl | (rw [if_pos he0];exact hm0)) HBr.out,b4⟩
  ·clear cM c1
   exact⟨rfl,.inr ⟨by rw [if_pos he0];exact hne,by rw [if_pos he0]⟩,hBw.trans ((bchain hS2 hb3).mono (by have:=sX.out;omega))⟩
 ·exact⟨rfl,.inr ⟨by rw [if_neg hne];exact hne,by rw [if_neg hne]⟩,hBw.trans ((bchain hS hb2).mono (by have:=sX.out;omega))⟩
theorem assert_errno (v:Value) (w:World):(Instr.typeAssert (.iface 30 v) 20 30 false).run Tryz.prog w=.ok v w:=by
 simp [Instr.typeAssert,run_underlying Tryz.underlying30]
theorem lcatch_panicking (q:Nat) (a x:Int) (older:List PanicEntry) (w:World) (hq:q<w.heap.size) (c0:w.cell? ⟨q,0,none⟩=some (.int .i64 a)) (z0:w.frozen? ⟨q,0,none⟩=false) :
  CallsD Tryz.prog 214 #[.pointer (some ⟨q,0,none⟩)] (.panicking ({ v:=.iface 30 (.int .i64 x),recovered:=false } :: older)) w fun e u' w' =>
   e=.returned (.tuple #[])∧u'=.panicking ({ v:=.iface 30 (.int .i64 x),recovered:=true } :: older)∧w'=w.setCell ⟨q,0,none⟩ (.int .i64 x):=by
 refine callsD_of_wpS Tryz.func214 rfl fun c₀ cs hu=>?_
 apply wpS_seq
 apply wpS_region
 simp [wpOpsS,go_sem,recoverD,hu,Tryz.ntmps214,Exit.thenS]
 refine wpS_of_wp ?_
 change Code.wp Tryz.prog _ _ { tmps:=#[.pointer (some ⟨q,0,none⟩),.iface 30 (.int .i64 x),.iface 30 (.int .i64 x),undef,undef,undef,undef],defers:=[] } w
 have hta:=fun w=>assert_errno (.int .i64 x) w
 go_wp2_with fail
 simp +zetaDelta [bodyPostS,results,Tryz.results214]
theorem lcatch_idle (q:Nat) (w:World) :
  CallsD Tryz.prog 214 #[.pointer (some ⟨q,0,none⟩)] .returning w fun e u' w'=>e=.returned (.tuple #[])∧u'=.returning∧w'=w:=by
 refine callsD_of_wpS Tryz.func214 rfl fun c₀ cs hu=>?_
 apply wpS_seq
 apply wpS_region
 simp [wpOpsS,go_sem,recoverD,hu,Tryz.ntmps214,Exit.thenS]
 refine wpS_of_wp ?_
 change Code.wp Tryz.prog _ _ { tmps:=#[.pointer (some ⟨q,0,none⟩),.nilIface,.nilIface,undef,undef,undef,undef],defers:=[] } w
 go_wp2_with fail
 cases c₀
 simp_all +zetaDelta [bodyPostS,results,Tryz.results214]
def zeroT:Tm:=.mk 0 0 ⟨#[]⟩ [] [] []
theorem zeroT_in (ok:Nat→Prop) (w:World):TmIn ok w zeroT (.agg #[.int .i64 0,.int .i64 0,.string ⟨#[]⟩,.slice none 0 0,.slice none 0 0,.slice none 0 0]) :=
 TmIn.mk 0 0 ⟨#[]⟩ [] [] [] _ _ _ (by unfold I64;omega) (by unfold I64;omega) (cl_nil _ _) (kt_nil _ _ _) (sy_nil _ _ _)
def ansL (s:Sf) (t:Tm):Tm:=if erT s t 0 0=0 then liT s t 0 0 else zeroT
theorem lterm_any {s:Sf} (hL:∀ N,LfC s N) (t:Tm) (v:Value) (w:World) (hv:TmIn Tt w t v) (hf:Fm t) (hb:blk t≤40000) :
  Calls Tryz.prog 175 #[.agg #[.int .i64 s.vf,.int .i64 s.vb,.int .i64 s.df,.int .i64 s.db],v] w fun e w'=>∃ v',e=.returned (.tuple #[v',.int .i64 (erT s t 0 0)])∧TmIn (OkN w.heap.size w') w' (ansL s t) v'∧Below w.heap.size w w':=by
 obtain⟨ra,rc,ka,kc,sa,sc,rfl,ht⟩:=hv.form
 obtain⟨wa,hwa⟩:∃ W,W=((w.alloc (.cells #[.int .i64 s.vf,.int .i64 s.vb,.int .i64 s.df,.int .i64 s.db] 166)).alloc (.cells #[.int .i64 t.kind,.int .i64 t.n,.string t.name,.slice ra t.r.length rc,.slice ka t.kids.length kc,.slice sa t.sys.length sc] 26)):=⟨_,rfl⟩
 have sa':wa.heap.size=w.heap.size+2:=by rw [hwa];simp
 have ba:Below w.heap.size w wa:=by rw [hwa];exact bchain (belowA _ _) (belowA _ _)
 obtain⟨wb,hwb⟩:∃ W,W=(wa.alloc (.cells #[.int .i64 0,.int .i64 0,.string ⟨#[]⟩,.slice none 0 0,.slice none 0 0,.slice none 0 0] 26)).alloc (.cells #[.int .i64 0] 30):=⟨_,rfl⟩
 have sb':wb.heap.size=w.heap.size+4:=by rw [hwb];simp;omega
 have bb:Below wa.heap.size wa wb:=by rw [hwb];exact bchain (belowA _ _) (belowA _ _)
 obtain⟨X,hX⟩:∃ X,X=w.heap.size:=⟨_,rfl⟩
 obtain⟨w2,hw2⟩:∃ W,W=wb.alloc (.cells #[.func (.func 215) #[] #[.pointer (some ⟨X,0,none⟩),.pointer (some ⟨X+4,0,none⟩)]] 192):=⟨_,rfl⟩
 have b2:Below wb.heap.size wb w2:=by rw [hw2];exact belowA _ _
 have s2:w2.heap.size=X+5:=by rw [hw2];simp;omega
 have bw2:=bchain (bchain ba bb) b2
 have ma:wa.heap[X]? = some (.cells #[.int .i64 s.vf,.int .i64 s.vb,.int .i64 s.df,.int .i64 s.db] 166 (0,0)):=by rw [hwa,hX];exact (Below.heap_alloc _ _ _ (by simp)).trans (heapNew w _)
 have mt:wa.heap[X+1]? = some (.cells #[.int .i64 t.kind,.int .i64 t.n,.string t.name,.slice ra t.r.length rc,.slice ka t.kids.length kc,.slice sa t.sys.length sc] 26 (0,0)):=by
  rw [hwa,hX];have:=heapNew (w.alloc (.cells #[.int .i64 s.vf,.int .i64 s.vb,.int .i64 s.df,.int .i64 s.db] 166)) (.cells #[.int .i64 t.kind,.int .i64 t.n,.string t.name,.slice ra t.r.length rc,.slice ka t.kids.length kc,.slice sa t.sys.length sc] 26);rwa [World.size_alloc] at this
 have mr:Six wb (X+2) (.int .i64 0) (.int .i64 0) (.string ⟨#[]⟩) (.slice none 0 0) (.slice none 0 0) (.slice none 0 0):=⟨by
  rw [hwb];refine (Below.heap_alloc _ _ _ (by simp;omega)).trans ?_
  have:=heapNew wa (.cells #[.int .i64 0,.int .i64 0,.string ⟨#[]⟩,.slice none 0 0,.slice none 0 0,.slice none 0 0] 26);rwa [sa',← hX] at this⟩
 have me:wb.heap[X+3]? = some (.cells #[.int .i64 0] 30 (0,0)):=by
  rw [hwb];have:=heapNew (wa.alloc (.cells #[.int .i64 0,.int .i64 0,.string ⟨#[]⟩,.slice none 0 0,.slice none 0 0,.slice none 0 0] 26)) (.cells #[.int .i64 0] 30);rwa [World.size_alloc,sa',← hX] at this
 have mf:w2.heap[X+4]? = some (.cells #[.func (.func 215) #[] #[.pointer (some ⟨X,0,none⟩),.pointer (some ⟨X+4,0,none⟩)]] 192 (0,0)):=by
  rw [hw2];have:=heapNew wb (.cells #[.func (.func 215) #[] #[.pointer (some ⟨X,0,none⟩),.pointer (some ⟨X+4,0,none⟩)]] 192);rwa [sb',← hX] at this
 have bab:=bchain bb b2
 have hE:LEnv w2 s X (X+4):=⟨(bab.block X (by omega)).trans ma,mf⟩
 have h6:Cs6 w2 (X+1) 0 t ra rc ka kc sa sc:=cs6_of ((bab.block (X+1) (by omega)).trans mt)
 have cc:Calls Tryz.prog 215 #[.pointer (some ⟨X+1,0,none⟩),.agg #[.int .i64 0,.int .i64 0],.pointer (some ⟨X,0,none⟩),.pointer (some ⟨X+4,0,none⟩)] w2 fun e w'=>LOut (erT s t 0 0) (TmIn (OkN w2.heap.size w') w' (liT s t 0 0)) e∧Below w2.heap.size w2 w' :=
  hL _ t 0 0 (X+1) 0 X (X+4) ra rc ka kc sa sc w2 hE h6 (ht.blw bw2) hf (Nat.le_refl _) (by omega) (by omega) hb
 have HZ2:Hid (∀ W,Below w2.heap.size w2 W→Six W (X+2) (.int .i64 0) (.int .i64 0) (.string ⟨#[]⟩) (.slice none 0 0) (.slice none 0 0) (.slice none 0 0)∧W.heap[X+3]? = some (.cells #[.int .i64 0] 30 (0,0))):=fun W q=>by
  have q2:=bchain b2 q
  exact⟨mr.blw q2,(q2.block (X+3) (by omega)).trans me⟩
 have HB:Hid (∀ W,Below w2.heap.size w2 W→Below X w W):=fun W q=>by rw [hX];exact bchain bw2 q
 have HA:Hid (ansL s t=if erT s t 0 0=0 then liT s t 0 0 else zeroT):=(rfl:_=_)
 obtain⟨er,her⟩:∃ e,e=erT s t 0 0:=⟨_,rfl⟩
 obtain⟨T,hT⟩:∃ T,T=liT s t 0 0:=⟨_,rfl⟩
 rw [← her,← hT] at cc HA
 rw [← her,← hX]
 have cf:=hE.fn
 have hmk:=mkfn
 have eg:=lf_eg
 have HW:Hid (w2=((((w.alloc (.cells #[.int .i64 s.vf,.int .i64 s.vb,.int .i64 s.df,.int .i64 s.db] 166)).alloc (.cells #[.int .i64 t.kind,.int .i64 t.n,.string t.name,.slice ra t.r.length rc,.slice ka t.kids.length kc,.slice sa t.sys.length sc] 26)).alloc (.cells #[.int .i64 0,.int .i64 0,.string ⟨#[]⟩,.slice none 0 0,.slice none 0 0,.slice none 0 0] 26)).alloc (.cells #[.int .i64 0] 30)).alloc (.cells #[.func (.func 215) #[] #[.pointer (some ⟨w.heap.size,0,none⟩),.pointer (some ⟨w.heap.size+4,0,none⟩)]] 192)):=(by rw [hw2,hwb,hwa,hX]:_=_)
 have HX:Hid (X=w.heap.size):=hX
 have Hs2:Hid (w2.heap.size=X+5):=s2
 clear hwa hwb hw2 ba bb b2 bw2 sa' sb' ma mt mr me mf bab hE h6 ht hv hf her hT hX s2 hL hb
 go_enter_defers Tryz.func175,Tryz.ntmps175
 go_upto_region 4 with fail
 rw [← HW.out]
 simp only [← HX.out]
 clear HW
 go_wp2_with fail
 refine cc.mono ?_
 rintro e w3 ⟨⟨h0,v3,rfl,hv3⟩ | ⟨hne,rfl⟩,hb3⟩
 ·clear cc cf
  obtain⟨ra2,rc2,ka2,kc2,sa2,sc2,rfl,ht2⟩:=hv3.form
  obtain⟨z3,e3⟩:=HZ2.out w3 hb3
  have hs2:=Hs2.out
  have hs3:=hb3.size
  obtain⟨w4,hw4⟩:∃ W,W=(((((w3.setCell ⟨X+2,0,none⟩ (.int .i64 T.kind)).setCell ⟨X+2,1,none⟩ (.int .i64 T.n)).setCell ⟨X+2,2,none⟩ (.string T.name)).setCell ⟨X+2,3,none⟩ (.slice ra2 T.r.length rc2)).setCell ⟨X+2,4,none⟩ (.slice ka2 T.kids.length kc2)).setCell ⟨X+2,5,none⟩ (.slice sa2 T.sys.length sc2):=⟨_,rfl⟩
  have k4:Kn (fun q=>q≠X+2) w3 w4:=by rw [hw4];exact (((((kn_set _ _ _ _).trans (kn_set _ _ _ _)).trans (kn_set _ _ _ _)).trans (kn_set _ _ _ _)).trans (kn_set _ _ _ _)).trans (kn_set _ _ _ _)
  have z4:=z3.set6 (.int .i64 T.kind) (.int .i64 T.n) (.string T.name) (.slice ra2 T.r.length rc2) (.slice ka2 T.kids.length kc2) (.slice sa2 T.sys.length sc2)
  rw [← hw4] at z4
  have e4:=(k4.block (X+3) (by omega) (by omega)).trans e3
  have c40:w4.cell? ⟨X+3,0,none⟩=some (.int .i64 0):=by simp [World.cell?,e4]
  have c4f:w4.frozen? ⟨X+3,0,none⟩=false:=by simp [World.frozen?,e4]
  obtain⟨w5,hw5⟩:∃ W,W=w4.setCell ⟨X+3,0,none⟩ (.int .i64 0):=⟨_,rfl⟩
  have k5:Kn (fun q=>q≠X+3) w4 w5:=by rw [hw5];exact kn_set _ _ _ _
  have z5:=z4.kn k5 (by omega)
  have c5:w5.cell? ⟨X+3,0,none⟩=some (.int .i64 0):=by rw [hw5];exact World.cell?_setCell_same' _ _ _ (by rw [c40];rfl)
  have HTm:Hid (TmIn (OkN X w5) w5 T (.agg #[.int .i64 T.kind,.int .i64 T.n,.string T.name,.slice ra2 T.r.length rc2,.slice ka2 T.kids.length kc2,.slice sa2 T.sys.length sc2])):=by
   have hA:∀ q,OkN w2.heap.size w3 q→w5.heap[q]? = w3.heap[q]?:=fun q hq=>(k5.block q (by have:=hq.1;omega) (by have:=hq.lt;have:=k4.size;omega)).trans (k4.block q (by have:=hq.1;omega) hq.lt)
   exact ht2.value.keep (Nat.le_trans k4.size k5.size) (fun q hq=>(hq.same (hA q hq)).mono (by omega)) (fun q hq _=>hA q hq)
  have b5:Below X w w5:=((HB.out w3 hb3).trans (k4.below (fun q hq=>by omega) (by omega))).trans (k5.below (fun q hq=>by omega) (by have:=k4.size;omega))
  obtain⟨o0,o1,o2,o3,o4,o5,ff⟩:=z3.cells
  have f0:=ff 0
  have f1:=ff 1
  have f2:=ff 2
  have f3:=ff 3
  have f4:=ff 4
  have f5:=ff 5
  obtain⟨d0,d1,d2,d3,d4,d5,_⟩:=z5.cells
  have H4:Hid (_=_):=hw4
  have H5:Hid (_=_):=hw5
  have Hc4:Hid (_∧_):=(⟨c40,c4f⟩:w4.cell? ⟨X+3,0,none⟩=some (.int .i64 0)∧w4.frozen? ⟨X+3,0,none⟩=false)
  have p40:(((((((w3.setCell ⟨X+2,0,none⟩ (.int .i64 T.kind)).setCell ⟨X+2,1,none⟩ (.int .i64 T.n)).setCell ⟨X+2,2,none⟩ (.string T.name)).setCell ⟨X+2,3,none⟩ (.slice ra2 T.r.length rc2)).setCell ⟨X+2,4,none⟩ (.slice ka2 T.kids.length kc2)).setCell ⟨X+2,5,none⟩ (.slice sa2 T.sys.length sc2)).cell? ⟨X+3,0,none⟩=some (.int .i64 0)):=by rw [← hw4];exact c40
  have p4f:(((((((w3.setCell ⟨X+2,0,none⟩ (.int .i64 T.kind)).setCell ⟨X+2,1,none⟩ (.int .i64 T.n)).setCell ⟨X+2,2,none⟩ (.string T.name)).setCell ⟨X+2,3,none⟩ (.slice ra2 T.r.length rc2)).setCell ⟨X+2,4,none⟩ (.slice ka2 T.kids.length kc2)).setCell ⟨X+2,5,none⟩ (.slice sa2 T.sys.length sc2)).frozen? ⟨X+3,0,none⟩=false):=by rw [← hw4];exact c4f
  clear hw4 hw5 z3 z4 z5 k4 k5 ff e3 e4 ht2 hv3 c40 c4f hs2 hs3
  go_wp2_with fail
  rw [← H4.out,← H5.out]
  refine leaves_cons (f:=214) (args:=#[.pointer (some ⟨X+3,0,none⟩)]) (by simp) (by simp [go_sem]) ?_
  refine (lcatch_idle _ _).mono ?_
  rintro e u' w'' ⟨rfl,rfl,rfl⟩
  refine⟨.tuple #[.agg #[.int .i64 T.kind,.int .i64 T.n,.string T.name,.slice ra2 T.r.length rc2,.slice ka2 T.kids.length kc2,.slice sa2 T.sys.length sc2],.int .i64 0],by simp only [results,Tryz.results175];simp [go_sem,d0,d1,d2,d3,d4,d5,c5],_,by rw [h0],by rw [HA.out,if_pos h0];exact HTm.out,b5⟩
 ·clear cc cf
  obtain⟨z3,e3⟩:=HZ2.out w3 hb3
  have hs2:=Hs2.out
  have hs3:=hb3.size
  have c30:w3.cell? ⟨X+3,0,none⟩=some (.int .i64 0):=by simp [World.cell?,e3]
  have c3f:w3.frozen? ⟨X+3,0,none⟩=false:=by simp [World.frozen?,e3]
  refine leaves_cons (f:=214) (args:=#[.pointer (some ⟨X+3,0,none⟩)]) (by simp) (by simp [go_sem]) ?_
  refine (lcatch_panicking (X+3) 0 er [] w3 (by omega) c30 c3f).mono ?_
  rintro e u' w5 ⟨rfl,rfl,hw5⟩
  have k5:Kn (fun q=>q≠X+3) w3 w5:=by rw [hw5];exact kn_set _ _ _ _
  have z5:=z3.kn k5 (by omega)
  have c5:w5.cell? ⟨X+3,0,none⟩=some (.int .i64 er):=by rw [hw5];exact World.cell?_setCell_same' _ _ _ (by rw [c30];rfl)
  have b5:Below X w w5:=(HB.out w3 hb3).trans (k5.below (fun q hq=>by omega) (by omega))
  obtain⟨d0,d1,d2,d3,d4,d5,_⟩:=z5.cells
  refine⟨.tuple #[.agg #[.int .i64 0,.int .i64 0,.string ⟨#[]⟩,.slice none 0 0,.slice none 0 0,.slice none 0 0],.int .i64 er],by simp only [results,Tryz.results175];simp [go_sem,d0,d1,d2,d3,d4,d5,c5],_,rfl,by rw [HA.out,if_neg hne];exact zeroT_in _ _,b5⟩
end Go.Proofs.YtblbhmnahoiecaaGreat
