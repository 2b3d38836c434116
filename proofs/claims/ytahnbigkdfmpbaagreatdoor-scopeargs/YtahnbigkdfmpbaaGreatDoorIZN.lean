/- Are two terms the same: the statements' own, of terms without systems. The texts of ScopeArgs. -/
import Derived.Test.YtahnbigkdfmpbaaGreatDoorIZDim
import Derived.Test.YtahnbigkdfmpbaaGreatDoorIFA
import Derived.Test.YtahnbigkdfmpbaaGreatDoorIZM
import Derived.Test.YtahnbigkdfmpbaaGreatDoorIZCallN
set_option linter.unusedVariables false
set_option linter.unusedSimpArgs false
namespace Go.Proofs.YtahnbigkdfmpbaaGreatDoor
open Go.RowKit
def plainT:Nat→Tm→Prop
 | 0,_=>False
 | f+1,a=>a.sys=[]∧a.r.length≤100000∧a.kids.length≤1000∧∀ x∈a.kids,plainT f x
theorem cl_crowT {ok:Nat→Prop} {w:World} {l:List Cl} {v:Value} (h:ClRow ok w l v):F.CRow w v l:=by
 obtain⟨a,cap,rfl,hc,hl⟩:=h
 cases l with
 | nil=>exact .inl ⟨a,cap,rfl,rfl⟩
 | cons c l =>
  obtain⟨g,off,rfl,_,hg,_,_⟩:=hl 0 c rfl
  refine .inr ⟨g,off,cap,rfl,hg,fun j d hj=>?_⟩
  obtain⟨g',off',e,_,_,h1,h2⟩:=hl j d hj
  injection e with e
  injection e with e1 e2
  subst e1 e2
  exact⟨h1,h2⟩
set_option maxRecDepth 100000 in
set_option maxHeartbeats 4000000 in
theorem sameT_any:∀ (f:Nat) (a:Tm) (va vb:Value) (ok ok2:Nat→Prop) (w:World),plainT f a→TmIn ok w a va→TmIn ok2 w a vb→Calls Tryz.prog 11 #[va,vb] w fun e w'=>e=.returned (.bool true)∧Below w.heap.size w w':=by
 intro f
 induction f with
 | zero=>intro a va vb ok ok2 w h;exact h.elim
 | succ f ih =>
  rintro a va vb ok ok2 w ⟨hsys,hrl,hkl,hkp⟩ ha hb
  obtain⟨ra,rc,qa,qc,sa,sc,rfl,har,hak,_⟩:=ha.form
  obtain⟨rb,rbc,qb,qbc,sb,sbc,rfl,hbr,hbk,_⟩:=hb.form
  rw [hsys,List.length_nil]
  obtain⟨w1,hw1⟩:∃ w1,w1=(w.alloc (.cells #[.int .i64 (a.kind:Nat),.int .i64 (a.n:Nat),.string (bs a.name),.slice ra a.r.length rc,.slice qa a.kids.length qc,.slice sa 0 sc] 37)).alloc (.cells #[.int .i64 (a.kind:Nat),.int .i64 (a.n:Nat),.string (bs a.name),.slice rb a.r.length rbc,.slice qb a.kids.length qbc,.slice sb 0 sbc] 37):=⟨_,rfl⟩
  have q1:Below w.heap.size w w1:=by rw [hw1];exact chain (below_alloc _ _) (below_alloc _ _)
  have ta:Tx w1 w.heap.size (.int .i64 (a.kind:Nat)) (.int .i64 (a.n:Nat)) (.string (bs a.name)) (.slice ra a.r.length rc) (.slice qa a.kids.length qc) (.slice sa 0 sc):=by rw [hw1];exact (tx_new w _ _ _ _ _ _).blw (below_alloc _ _)
  have tb:Tx w1 (w.heap.size+1) (.int .i64 (a.kind:Nat)) (.int .i64 (a.n:Nat)) (.string (bs a.name)) (.slice rb a.r.length rbc) (.slice qb a.kids.length qbc) (.slice sb 0 sbc):=by
   rw [hw1]
   have:=tx_new (w.alloc (.cells #[.int .i64 (a.kind:Nat),.int .i64 (a.n:Nat),.string (bs a.name),.slice ra a.r.length rc,.slice qa a.kids.length qc,.slice sa 0 sc] 37)) (.int .i64 (a.kind:Nat)) (.int .i64 (a.n:Nat)) (.string (bs a.name)) (.slice rb a.r.length rbc) (.slice qb a.kids.length qbc) (.slice sb 0 sbc)
   simpa using this
  have cS:=F.same_any a.r a.r _ _ w1 (cl_crowT (har.keep q1.size (fun _ h=>h) (fun g _ hg=>q1.block g hg))) (cl_crowT (hbr.keep q1.size (fun _ h=>h) (fun g _ hg=>q1.block g hg))) hrl
  rw [decide_eq_true rfl] at cS
  obtain⟨L,hL⟩:∃ L,L=a.kids.length:=⟨_,rfl⟩
  rw [← hL] at ta tb hkl hak hbk
  obtain⟨x0,x1,x2,x3,x4,x5⟩:=ta.cells
  obtain⟨y0,y1,y2,y3,y4,y5⟩:=tb.cells
  have H1:Hid (w1=_∧Below w.heap.size w w1∧Tx w1 w.heap.size _ _ _ _ _ _∧Tx w1 (w.heap.size+1) _ _ _ _ _ _):=⟨hw1,q1,ta,tb⟩
  rw [← hL] at hw1
  rw [hw1] at cS x0 x1 x2 x3 x4 x5 y0 y1 y2 y3 y4 y5
  rw [← hL]
  have HK:Hid (KdT ok w (TmIn ok w) a.kids (.slice qa L qc)∧KdT ok2 w (TmIn ok2 w) a.kids (.slice qb L qbc)∧L=a.kids.length∧∀ x∈a.kids,plainT f x):=⟨hak,hbk,hL,hkp⟩
  have hnn:((bs a.name).toList == (bs a.name).toList)=true:=by simp
  clear hw1 q1 ta tb ha hb har hbr hak hbk hL hkp hsys
  go_enter Tryz.func11,Tryz.ntmps11
  go_wp2_with fail
  refine cS.mono ?_
  rintro e w2 ⟨rfl,hb2⟩
  obtain⟨hw1,q1,ta,tb⟩:=H1.out
  have hw1':w1=(w.alloc (.cells #[.int .i64 (a.kind:Nat),.int .i64 (a.n:Nat),.string (bs a.name),.slice ra a.r.length rc,.slice qa L qc,.slice sa 0 sc] 37)).alloc (.cells #[.int .i64 (a.kind:Nat),.int .i64 (a.n:Nat),.string (bs a.name),.slice rb a.r.length rbc,.slice qb L qbc,.slice sb 0 sbc] 37):=by rw [hw1,HK.out.2.2.1]
  rw [← hw1'] at hb2
  have ta2:=ta.blw hb2
  have tb2:=tb.blw hb2
  have Q2:Below w.heap.size w w2:=q1.trans (hb2.mono q1.size)
  clear x0 x1 x2 x3 x4 x5 y0 y1 y2 y3 y4 y5
  obtain⟨x0,x1,x2,x3,x4,x5⟩:=ta2.cells
  obtain⟨y0,y1,y2,y3,y4,y5⟩:=tb2.cells
  have H2:Hid (Tx w2 w.heap.size _ _ _ _ _ _∧Tx w2 (w.heap.size+1) _ _ _ _ _ _∧Below w.heap.size w w2):=⟨ta2,tb2,Q2⟩
  clear hw1 hw1' q1 ta tb hb2 ta2 tb2 Q2 H1 cS
  go_wp2_with fail
  go_loopw [5] (fun i wr=>∃ j:Nat,j≤L∧i=.int .i64 j∧Below w2.heap.size w2 wr) (fun i _=>L - (intOf i).toNat)
  case atStart=>exact⟨0,Nat.zero_le _,rfl,Below.refl _ _⟩
  case round =>
   obtain⟨j,hj,rfl,hB⟩:=hrel
   obtain⟨ta2,tb2,Q2⟩:=H2.out
   have ta3:=ta2.blw hB
   have tb3:=tb2.blw hB
   have Q3:Below w.heap.size w wr:=Q2.trans (hB.mono Q2.size)
   by_cases hlt:j<L
   ·obtain⟨hak,hbk,hL,hkp⟩:=HK.out
    obtain⟨y,hy⟩:∃ y,a.kids[j]? = some y:=⟨_,List.getElem?_eq_getElem (by omega)⟩
    obtain⟨a1,c1,e1,_,hl1⟩:=hak
    obtain⟨a2,c2,e2,_,hl2⟩:=hbk
    obtain⟨g1,o1,u0,u1,u2,u3,u4,u5,ea1,_,hg1,hT1,d0,d1,d2,d3,d4,d5⟩:=hl1 j y hy
    obtain⟨g2,o2,v0,v1,v2,v3,v4,v5,ea2,_,hg2,hT2,f0,f1,f2,f3,f4,f5⟩:=hl2 j y hy
    injection e1 with e1 el1 ec1
    injection e2 with e2 el2 ec2
    clear el1 ec1 el2 ec2
    subst e1 e2 ea1 ea2
    have o0:u0.oneCell'=true∧u1.oneCell'=true∧u2.oneCell'=true∧u3.oneCell'=true∧u4.oneCell'=true∧u5.oneCell'=true:=by
     obtain⟨z0,z1,z2,z3,z4,z5,e,h0⟩:=hT1.six
     simp only [Value.agg.injEq,Array.mk.injEq,List.cons.injEq,and_true] at e
     obtain⟨rfl,rfl,rfl,rfl,rfl,rfl⟩:=e
     exact h0
    have hji:(j:Int) < (L:Int):=by omega
    have Hc:Hid (∀ u:ClsZ wr,Calls Tryz.prog 11 #[.agg #[u0,u1,u2,u3,u4,u5],.agg #[v0,v1,v2,v3,v4,v5]] u.1 fun e w'=>e=.returned (.bool true)∧∃ u':ClsZ wr,w'=u'.1):=fun u=>clsZ_call u (by
     have Qu:Below w.heap.size w u.1:=Q3.trans (u.2.mono Q3.size)
     exact ih y _ _ ok ok2 u.1 (hkp y (List.mem_of_getElem? hy)) (hT1.blw Qu) (hT2.blw Qu))
    have k1:∀ u:ClsZ wr,u.1.cell? ⟨w.heap.size,4,none⟩=some (.slice (some ⟨g1,o1,none⟩) L qc):=fun u=>(ta3.blw u.2).cells.2.2.2.2.1
    have k2:∀ u:ClsZ wr,u.1.cell? ⟨w.heap.size+1,4,none⟩=some (.slice (some ⟨g2,o2,none⟩) L qbc):=fun u=>(tb3.blw u.2).cells.2.2.2.2.1
    have kc1:∀ (u:ClsZ wr) (i:Nat) (v:Value),w.cell? ⟨g1,i,none⟩=some v→u.1.cell? ⟨g1,i,none⟩=some v:=fun u i v h=>((Q3.trans (u.2.mono Q3.size)).cell (p:=⟨g1,i,none⟩) hg1).trans h
    have kc2:∀ (u:ClsZ wr) (i:Nat) (v:Value),w.cell? ⟨g2,i,none⟩=some v→u.1.cell? ⟨g2,i,none⟩=some v:=fun u i v h=>((Q3.trans (u.2.mono Q3.size)).cell (p:=⟨g2,i,none⟩) hg2).trans h
    have p0:=fun u=>kc1 u _ _ d0
    have p1:=fun u=>kc1 u _ _ d1
    have p2:=fun u=>kc1 u _ _ d2
    have p3:=fun u=>kc1 u _ _ d3
    have p4:=fun u=>kc1 u _ _ d4
    have p5:=fun u=>kc1 u _ _ d5
    have r0:=fun u=>kc2 u _ _ f0
    have r1:=fun u=>kc2 u _ _ f1
    have r2:=fun u=>kc2 u _ _ f2
    have r3:=fun u=>kc2 u _ _ f3
    have r4:=fun u=>kc2 u _ _ f4
    have r5:=fun u=>kc2 u _ _ f5
    have xx:=ta3.cells.2.2.2.2.1
    have hne:=clsZ_any wr
    have HB:Hid (Below w2.heap.size w2 wr):=hB
    clear kc1 kc2 d0 d1 d2 d3 d4 d5 f0 f1 f2 f3 f4 f5 hT1 hT2 hl1 hl2 ta2 tb2 Q2 ta3 tb3 hB hkp hy HK H2 x0 x1 x2 x3 x4 x5 y0 y1 y2 y3 y4 y5 ih hg1 hg2 hL
    go_wp2_with fail
    refine wp_region_clsZ (by kernel_rfl) (by kernel_rfl) ?_
    repeat (quiet_step (exact Hc.out _))
    refine wpQuiet_nil ?_
    rintro _ ⟨u,rfl⟩
    obtain⟨w5,hb5⟩:=u
    have HB5:Hid (Below w2.heap.size w2 w5):=HB.out.trans (hb5.mono HB.out.size)
    dsimp only
    clear k1 k2 p0 p1 p2 p3 p4 p5 r0 r1 r2 r3 r4 r5 Hc HB hb5 hne xx
    go_wp2_with fail
    go_roundw
    case rel=>exact⟨j+1,by omega,by go_num,HB5.out⟩
    case measure=>simp [intOf];omega
   ·have hji:¬ ((j:Int) < (L:Int)):=by omega
    have xx:=ta3.cells.2.2.2.2.1
    have zz:=ta3.cells.2.2.2.2.2
    have HB:Hid (Below w.heap.size w wr):=Q3
    clear ta2 tb2 Q2 ta3 tb3 Q3 hB H2 HK x0 x1 x2 x3 x4 x5 y0 y1 y2 y3 y4 y5
    go_wp2_with fail
    obtain⟨wo,hwo⟩:∃ wo,wo=wr:=⟨_,rfl⟩
    subst hwo
    go_loopw [6] (fun i w9=>i=.int .i64 0∧w9=wo) (fun _ _=>0)
    case atStart=>exact⟨rfl,rfl⟩
    case round =>
     obtain⟨rfl,hw9⟩:=hrel
     rw [hw9]
     clear hw9
     go_wp2
     go_ret
     exact⟨rfl,HB.out⟩
end Go.Proofs.YtahnbigkdfmpbaaGreatDoor
namespace Go.Proofs.YtahnbigkdfmpbaaGreatDoor
def PN:List Sx→Prop:=fun l=>l.length≤1000
theorem call_few (R:Rsv):CallsP R PN:=fun term σ n m args hP hT hm h1 h2 h3=>call_any R term σ n m args hT hm h1 h2 h3 hP
def appS (a b:Sx) (p:Int):Sx:=.mk 6 [] [a,b] [] p
theorem blk_app (a b:Sx) (p:Int):blk (appS a b p)=1+blk a+blk b:=by
 unfold appS
 rw [blk_mk]
 simp [blkN,blkK]
 omega
theorem of_app (a b:Tr) (p:Nat):ofTr (.mk 6 [] [a,b] [] p)=appS (ofTr a) (ofTr b) p:=by rw [ofTr_mk];rfl
theorem niceN_nm (f:Nat) (x:Bs) (p:Int) (h:nameB x=true) (hl:x.length≤100000):Nice PN (f+1) (nmS x p) :=
 ⟨ok_nm f x p h,by rw [blk_nm];omega,.inl ⟨.inl rfl,fun _=>rfl,by show x.length≤_;omega,Nat.zero_le _,Nat.zero_le _,(by show (0:Nat)≤_;omega),fun y hy=>by cases hy⟩⟩
theorem nice_a1 (x y:Bs) (p q r:Int) (hx:nameB x=true) (hy:nameB y=true) (hlx:x.length≤1000) (hly:y.length≤1000) (hok:okF 10 0 (appS (nmS x p) (nmS y q) r)=true):Nice PN 10 (appS (nmS x p) (nmS y q) r):=by
 refine⟨hok,by rw [blk_app,blk_nm,blk_nm];omega,.inl ⟨.inr rfl,fun _=>rfl,by show x.length≤_;omega,by show (1:Nat)≤_;omega,?_,by show (1:Nat)≤_;omega,fun z hz=>?_⟩⟩
 ·show 2*blk (nmS y q) + 0≤2*blk (appS (nmS x p) (nmS y q) r)
  rw [blk_app]
  omega
 ·have hz:z∈[nmS y q]:=hz
  obtain rfl:=List.mem_singleton.1 hz
  exact niceN_nm 8 y q hy (by omega)
theorem nice_a2 (x y z:Bs) (p q r u v:Int) (hx:nameB x=true) (hy:nameB y=true) (hz:nameB z=true) (hlx:x.length≤1000) (hly:y.length≤1000) (hlz:z.length≤1000) (hok:okF 10 0 (appS (appS (nmS x p) (nmS y q) r) (nmS z u) v)=true):Nice PN 10 (appS (appS (nmS x p) (nmS y q) r) (nmS z u) v):=by
 refine⟨hok,by rw [blk_app,blk_app,blk_nm,blk_nm,blk_nm];omega,.inl ⟨.inr rfl,fun _=>rfl,by show x.length≤_;omega,by show (2:Nat)≤_;omega,?_,by show (2:Nat)≤_;omega,fun a ha=>?_⟩⟩
 ·show 2*blk (nmS y q) + (2*blk (nmS z u) + 0)≤2*blk (appS (appS (nmS x p) (nmS y q) r) (nmS z u) v)
  rw [blk_app,blk_app]
  omega
 ·have ha:a∈[nmS z u,nmS y q]:=ha
  rcases List.mem_cons.1 ha with rfl|ha
  ·exact niceN_nm 8 z u hz (by omega)
  ·obtain rfl:=List.mem_singleton.1 ha
   exact niceN_nm 8 y q hy (by omega)
def Rd (s:Bs) (vs:List Bs) (r:Rz Tm):Prop:=∃ T,termA 700000 s=(T,0,0)∧Nice PN 10 (ofTr T)∧blk (ofTr T)≤1000000∧okF 65536 0 (ofTr T)=true∧termR 10 ⟨[],vs.reverse,[].reverse⟩ (ofTr T)=r
structure WdF (wd:Bs) (k:Nat):Prop where
 one:Rd (wd ++ [32,120]) [[120],[121]] (some (.inr (tmK k [.mk 1 0 [] [] [] []])))
 two:Rd (wd ++ [32,120,32,121]) [[120],[121]] (some (.inr (tmK 6 [tmK k [.mk 1 0 [] [] [] []],.mk 1 1 [] [] [] []])))
 few:Rd (102 :: 32 :: wd) [[102]] (some (.inl (2,61)))
 len:wd.length≤6
theorem wd_fst:WdF [102,115,116] 9:=by
 have nw:nameB [102,115,116]=true:=by decide
 refine⟨⟨.mk 6 [] [.mk 1 [102,115,116] [] [] 0,.mk 1 [120] [] [] 4] [] 0,by kernel_rfl,?_⟩,⟨.mk 6 [] [.mk 6 [] [.mk 1 [102,115,116] [] [] 0,.mk 1 [120] [] [] 4] [] 0,.mk 1 [121] [] [] 6] [] 0,by kernel_rfl,?_⟩,⟨.mk 6 [] [.mk 1 [102] [] [] 0,.mk 1 [102,115,116] [] [] 2] [] 0,by kernel_rfl,?_⟩,by decide⟩
 ·have e:ofTr (.mk 6 [] [.mk 1 [102,115,116] [] [] 0,.mk 1 [120] [] [] 4] [] 0)=appS (nmS [102,115,116] 0) (nmS [120] 4) 0:=by rw [of_app,of_nm,of_nm];rfl
  rw [e]
  exact⟨nice_a1 _ _ _ _ _ nw n120 (by decide) (by decide) (by kernel_rfl),by rw [blk_app,blk_nm,blk_nm];decide,by kernel_rfl,by kernel_rfl⟩
 ·have e:ofTr (.mk 6 [] [.mk 6 [] [.mk 1 [102,115,116] [] [] 0,.mk 1 [120] [] [] 4] [] 0,.mk 1 [121] [] [] 6] [] 0)=appS (appS (nmS [102,115,116] 0) (nmS [120] 4) 0) (nmS [121] 6) 0:=by rw [of_app,of_app,of_nm,of_nm,of_nm];rfl
  rw [e]
  exact⟨nice_a2 _ _ _ _ _ _ _ _ nw n120 (by decide) (by decide) (by decide) (by decide) (by kernel_rfl),by rw [blk_app,blk_app,blk_nm,blk_nm,blk_nm];decide,by kernel_rfl,by kernel_rfl⟩
 ·have e:ofTr (.mk 6 [] [.mk 1 [102] [] [] 0,.mk 1 [102,115,116] [] [] 2] [] 0)=appS (nmS [102] 0) (nmS [102,115,116] 2) 0:=by rw [of_app,of_nm,of_nm];rfl
  rw [e]
  exact⟨nice_a1 _ _ _ _ _ (by decide) nw (by decide) (by decide) (by kernel_rfl),by rw [blk_app,blk_nm,blk_nm];decide,by kernel_rfl,by kernel_rfl⟩
theorem wd_snd:WdF [115,110,100] 10:=by
 have nw:nameB [115,110,100]=true:=by decide
 refine⟨⟨.mk 6 [] [.mk 1 [115,110,100] [] [] 0,.mk 1 [120] [] [] 4] [] 0,by kernel_rfl,?_⟩,⟨.mk 6 [] [.mk 6 [] [.mk 1 [115,110,100] [] [] 0,.mk 1 [120] [] [] 4] [] 0,.mk 1 [121] [] [] 6] [] 0,by kernel_rfl,?_⟩,⟨.mk 6 [] [.mk 1 [102] [] [] 0,.mk 1 [115,110,100] [] [] 2] [] 0,by kernel_rfl,?_⟩,by decide⟩
 ·have e:ofTr (.mk 6 [] [.mk 1 [115,110,100] [] [] 0,.mk 1 [120] [] [] 4] [] 0)=appS (nmS [115,110,100] 0) (nmS [120] 4) 0:=by rw [of_app,of_nm,of_nm];rfl
  rw [e]
  exact⟨nice_a1 _ _ _ _ _ nw n120 (by decide) (by decide) (by kernel_rfl),by rw [blk_app,blk_nm,blk_nm];decide,by kernel_rfl,by kernel_rfl⟩
 ·have e:ofTr (.mk 6 [] [.mk 6 [] [.mk 1 [115,110,100] [] [] 0,.mk 1 [120] [] [] 4] [] 0,.mk 1 [121] [] [] 6] [] 0)=appS (appS (nmS [115,110,100] 0) (nmS [120] 4) 0) (nmS [121] 6) 0:=by rw [of_app,of_app,of_nm,of_nm,of_nm];rfl
  rw [e]
  exact⟨nice_a2 _ _ _ _ _ _ _ _ nw n120 (by decide) (by decide) (by decide) (by decide) (by kernel_rfl),by rw [blk_app,blk_app,blk_nm,blk_nm,blk_nm];decide,by kernel_rfl,by kernel_rfl⟩
 ·have e:ofTr (.mk 6 [] [.mk 1 [102] [] [] 0,.mk 1 [115,110,100] [] [] 2] [] 0)=appS (nmS [102] 0) (nmS [115,110,100] 2) 0:=by rw [of_app,of_nm,of_nm];rfl
  rw [e]
  exact⟨nice_a1 _ _ _ _ _ (by decide) nw (by decide) (by decide) (by kernel_rfl),by rw [blk_app,blk_nm,blk_nm];decide,by kernel_rfl,by kernel_rfl⟩
theorem wd_Susp:WdF [83,117,115,112] 23:=by
 have nw:nameB [83,117,115,112]=true:=by decide
 refine⟨⟨.mk 6 [] [.mk 1 [83,117,115,112] [] [] 0,.mk 1 [120] [] [] 5] [] 0,by kernel_rfl,?_⟩,⟨.mk 6 [] [.mk 6 [] [.mk 1 [83,117,115,112] [] [] 0,.mk 1 [120] [] [] 5] [] 0,.mk 1 [121] [] [] 7] [] 0,by kernel_rfl,?_⟩,⟨.mk 6 [] [.mk 1 [102] [] [] 0,.mk 1 [83,117,115,112] [] [] 2] [] 0,by kernel_rfl,?_⟩,by decide⟩
 ·have e:ofTr (.mk 6 [] [.mk 1 [83,117,115,112] [] [] 0,.mk 1 [120] [] [] 5] [] 0)=appS (nmS [83,117,115,112] 0) (nmS [120] 5) 0:=by rw [of_app,of_nm,of_nm];rfl
  rw [e]
  exact⟨nice_a1 _ _ _ _ _ nw n120 (by decide) (by decide) (by kernel_rfl),by rw [blk_app,blk_nm,blk_nm];decide,by kernel_rfl,by kernel_rfl⟩
 ·have e:ofTr (.mk 6 [] [.mk 6 [] [.mk 1 [83,117,115,112] [] [] 0,.mk 1 [120] [] [] 5] [] 0,.mk 1 [121] [] [] 7] [] 0)=appS (appS (nmS [83,117,115,112] 0) (nmS [120] 5) 0) (nmS [121] 7) 0:=by rw [of_app,of_app,of_nm,of_nm,of_nm];rfl
  rw [e]
  exact⟨nice_a2 _ _ _ _ _ _ _ _ nw n120 (by decide) (by decide) (by decide) (by decide) (by kernel_rfl),by rw [blk_app,blk_app,blk_nm,blk_nm,blk_nm];decide,by kernel_rfl,by kernel_rfl⟩
 ·have e:ofTr (.mk 6 [] [.mk 1 [102] [] [] 0,.mk 1 [83,117,115,112] [] [] 2] [] 0)=appS (nmS [102] 0) (nmS [83,117,115,112] 2) 0:=by rw [of_app,of_nm,of_nm];rfl
  rw [e]
  exact⟨nice_a1 _ _ _ _ _ (by decide) nw (by decide) (by decide) (by kernel_rfl),by rw [blk_app,blk_nm,blk_nm];decide,by kernel_rfl,by kernel_rfl⟩
theorem wd_unglue:WdF [117,110,103,108,117,101] 18:=by
 have nw:nameB [117,110,103,108,117,101]=true:=by decide
 refine⟨⟨.mk 6 [] [.mk 1 [117,110,103,108,117,101] [] [] 0,.mk 1 [120] [] [] 7] [] 0,by kernel_rfl,?_⟩,⟨.mk 6 [] [.mk 6 [] [.mk 1 [117,110,103,108,117,101] [] [] 0,.mk 1 [120] [] [] 7] [] 0,.mk 1 [121] [] [] 9] [] 0,by kernel_rfl,?_⟩,⟨.mk 6 [] [.mk 1 [102] [] [] 0,.mk 1 [117,110,103,108,117,101] [] [] 2] [] 0,by kernel_rfl,?_⟩,by decide⟩
 ·have e:ofTr (.mk 6 [] [.mk 1 [117,110,103,108,117,101] [] [] 0,.mk 1 [120] [] [] 7] [] 0)=appS (nmS [117,110,103,108,117,101] 0) (nmS [120] 7) 0:=by rw [of_app,of_nm,of_nm];rfl
  rw [e]
  exact⟨nice_a1 _ _ _ _ _ nw n120 (by decide) (by decide) (by kernel_rfl),by rw [blk_app,blk_nm,blk_nm];decide,by kernel_rfl,by kernel_rfl⟩
 ·have e:ofTr (.mk 6 [] [.mk 6 [] [.mk 1 [117,110,103,108,117,101] [] [] 0,.mk 1 [120] [] [] 7] [] 0,.mk 1 [121] [] [] 9] [] 0)=appS (appS (nmS [117,110,103,108,117,101] 0) (nmS [120] 7) 0) (nmS [121] 9) 0:=by rw [of_app,of_app,of_nm,of_nm,of_nm];rfl
  rw [e]
  exact⟨nice_a2 _ _ _ _ _ _ _ _ nw n120 (by decide) (by decide) (by decide) (by decide) (by kernel_rfl),by rw [blk_app,blk_app,blk_nm,blk_nm,blk_nm];decide,by kernel_rfl,by kernel_rfl⟩
 ·have e:ofTr (.mk 6 [] [.mk 1 [102] [] [] 0,.mk 1 [117,110,103,108,117,101] [] [] 2] [] 0)=appS (nmS [102] 0) (nmS [117,110,103,108,117,101] 2) 0:=by rw [of_app,of_nm,of_nm];rfl
  rw [e]
  exact⟨nice_a1 _ _ _ _ _ (by decide) nw (by decide) (by decide) (by kernel_rfl),by rw [blk_app,blk_nm,blk_nm];decide,by kernel_rfl,by kernel_rfl⟩
theorem wd_all (z:Nat) (hz:z<4):∃ wd k,WdF wd k∧[(Value.string ⟨#[102,115,116]⟩),.string ⟨#[115,110,100]⟩,.string ⟨#[83,117,115,112]⟩,.string ⟨#[117,110,103,108,117,101]⟩][z]? = some (.string (bs wd)):=by
 rcases z with _|_|_|_|z
 ·exact⟨_,_,wd_fst,rfl⟩
 ·exact⟨_,_,wd_snd,rfl⟩
 ·exact⟨_,_,wd_Susp,rfl⟩
 ·exact⟨_,_,wd_unglue,rfl⟩
 ·omega
end Go.Proofs.YtahnbigkdfmpbaaGreatDoor
