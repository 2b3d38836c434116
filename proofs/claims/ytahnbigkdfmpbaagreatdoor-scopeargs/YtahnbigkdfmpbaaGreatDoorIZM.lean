/- The trees of the statements' texts. The chapter's examples. -/
import Derived.Test.YtahnbigkdfmpbaaGreatDoorIZK
import Derived.Test.YtahnbigkdfmpbaaGreatDoorIFA
set_option linter.unusedVariables false
set_option linter.unusedSimpArgs false
namespace Go.Proofs.YtahnbigkdfmpbaaGreatDoor
abbrev P0:List Sx→Prop:=fun l=>l=[]
def nmS (x:Bs) (p:Int):Sx:=.mk 1 x [] [] p
def lamS (x:Bs) (t:Sx) (q:Int):Sx:=.mk 2 [] [t] [x] q
theorem blk_nm (x:Bs) (p:Int):blk (nmS x p)=1+x.length:=by
 unfold nmS
 rw [blk_mk]
 simp [blkN,blkK]
theorem blk_lam (x:Bs) (t:Sx) (q:Int):blk (lamS x t q)=2+x.length+blk t:=by
 unfold lamS
 rw [blk_mk]
 simp [blkN,blkK]
 omega
theorem ok_nm (f:Nat) (x:Bs) (p:Int) (h:nameB x=true):okF (f+1) 0 (nmS x p)=true:=by
 rw [okF_s]
 simp [okR,termB,nmS,nameTreeB,h]
theorem ok_lamS (f:Nat) (x:Bs) (t:Sx) (q:Int) (h:nameB x=true) (ht:okF f 0 t=true):okF (f+1) 0 (lamS x t q)=true:=by
 rw [okF_s]
 simp [okR,termB,lamS,areB,h,ht]
theorem sp_nm (f:Nat) (x:Bs) (p:Int):spineR (f+1) (nmS x p)=(nmS x p,[]):=rfl
theorem nice_nm (f:Nat) (x:Bs) (p:Int) (h:nameB x=true) (hl:x.length≤100000):Nice P0 (f+1) (nmS x p) :=
 ⟨ok_nm f x p h,by rw [blk_nm];omega,.inl ⟨.inl rfl,fun _=>rfl,by show x.length≤_;omega,Nat.zero_le _,Nat.zero_le _,rfl,fun y hy=>by cases hy⟩⟩
theorem nice_lam (f:Nat) (x:Bs) (t:Sx) (q:Int) (h:nameB x=true) (hl:x.length≤100000) (hb:blk t≤400000) (ht:Nice P0 f t):Nice P0 (f+1) (lamS x t q):=by
 have hok:okF f 0 t=true:=by
  obtain⟨k,rfl⟩:=ht.s
  exact ht.1
 refine⟨ok_lamS f x t q h hok,by rw [blk_lam];omega,.inr (.inl ⟨.inl rfl,rfl,?_,ht⟩)⟩
 show 2*blk t+2*1≤2*blk (lamS x t q)
 rw [blk_lam]
 omega
theorem tr_nm (f:Nat) (σ:Sg) (x:Bs) (p:Int) (hw:isWd x=false):termR (f+1) σ (nmS x p)=namedF σ (nmS x p):=by
 have hz:wdOf x=(0,[]):=by
  unfold isWd at hw
  unfold wdOf
  cases h:wordT x with
  | none=>rfl
  | some y=>rw [h] at hw;cases hw
 show (if (nmS x p).kind=1∨(nmS x p).kind=6 then _ else _)=_
 rw [if_pos (.inl rfl)]
 unfold appliedR headR
 rw [sp_nm]
 have e:(nmS x p).name=x:=rfl
 simp only [e,hw,hz,Bool.false_and,Bool.false_eq_true,if_false,List.reverse_nil]
 rw [if_pos (show (nmS x p).kind=1 from rfl)]
 cases namedF σ (nmS x p) with
 | none=>rfl
 | some y =>
  cases y with
  | inl p=>rfl
  | inr a=>rfl
theorem tr_lam (f:Nat) (σ:Sg) (x:Bs) (t:Sx) (q:Int) (hw:isWd x=false) {a:Tm} (h:termR f { σ with v:=σ.v ++ [x] } t=some (.inr a)):termR (f+1) σ (lamS x t q)=some (.inr (tmK 5 [a])):=by
 show (if (lamS x t q).kind=1∨(lamS x t q).kind=6 then _ else _)=_
 rw [if_neg (by simp [lamS]),if_pos (show (lamS x t q).kind=2 from rfl)]
 unfold bodyR
 have e:(lamS x t q).names=[x]:=rfl
 rw [e]
 simp only [List.any_cons,List.any_nil,hw,Bool.or_false,Bool.false_eq_true,if_false]
 rw [if_pos (show (lamS x t q).kind=2 from rfl)]
 have e2:kd (lamS x t q) 0=t:=rfl
 rw [e2,h]
 rfl
theorem pos_single (s:Bs) (k:Nat):posR s k [s]=[(k:Int)]:=by simp [posR]
theorem fnd_snoc (s:Bs) (l:List Bs):fndR s (l ++ [s])=some 0:=by
 unfold fndR
 rw [pos_app,Nat.zero_add,pos_single]
 simp
theorem named_last (σ:Sg) (x:Bs) (p:Int):namedF { σ with v:=σ.v ++ [x] } (nmS x p)=some (.inr (.mk 1 0 [] [] [] [])):=by
 unfold namedF
 have e:(nmS x p).name=x:=rfl
 rw [e,fnd_snoc]
end Go.Proofs.YtahnbigkdfmpbaaGreatDoor
namespace Go.Proofs.YtahnbigkdfmpbaaGreatDoor
open Go.RowKit
def T2:Sx:=.mk 3 [] [.mk 7 [] [nmS [108,111,111,112] 4,.mk 16 [] [nmS [105] 12] [] 11] [] 4] [[105]] 0
theorem wa1:termA 700000 [92,120,46,32,120]=(.mk 2 [] [.mk 1 [120] [] [] 4] [[120]] 0,0,0):=by kernel_rfl
theorem wa2:termA 700000 [60,105,62,32,108,111,111,112,32,64,32,126,105]=(.mk 3 [] [.mk 7 [] [.mk 1 [108,111,111,112] [] [] 4,.mk 16 [] [.mk 1 [105] [] [] 12] [] 11] [] 4] [[105]] 0,0,0):=by kernel_rfl
theorem wa3:termA 700000 [120]=(.mk 1 [120] [] [] 0,0,0):=by kernel_rfl
theorem of_nm (x:Bs) (p:Nat):ofTr (.mk 1 x [] [] p)=nmS x p:=by rw [ofTr_mk];rfl
theorem of_lam (x:Bs) (t:Tr) (q:Nat):ofTr (.mk 2 [] [t] [x] q)=lamS x (ofTr t) q:=by rw [ofTr_mk];rfl
theorem of_t2:ofTr (.mk 3 [] [.mk 7 [] [.mk 1 [108,111,111,112] [] [] 4,.mk 16 [] [.mk 1 [105] [] [] 12] [] 11] [] 4] [[105]] 0)=T2:=by
 simp only [ofTr_mk,List.map_cons,List.map_nil]
 rfl
theorem blk_t2:blk T2=12:=by
 unfold T2
 simp only [blk_mk,blkN,blkK,List.map_cons,List.map_nil,List.sum_cons,List.sum_nil,blk_nm]
 rfl
theorem blk_t2a:blk (kd T2 0)=9:=by
 show blk (.mk 7 [] [nmS [108,111,111,112] 4,.mk 16 [] [nmS [105] 12] [] 11] [] 4)=9
 simp only [blk_mk,blkN,blkK,List.map_cons,List.map_nil,List.sum_cons,List.sum_nil,blk_nm]
 rfl
theorem blk_t2b:blk (kd (kd T2 0) 1)=3:=by
 show blk (.mk 16 [] [nmS [105] 12] [] 11)=3
 simp only [blk_mk,blkN,blkK,List.map_cons,List.map_nil,List.sum_cons,List.sum_nil,blk_nm]
 rfl
theorem wb2:termR 10 ⟨[],[],[]⟩ T2=some (.inr (tmK 12 [.mk 21 0 [] [(0,1)] [] []])):=by kernel_rfl
theorem wc2:okF 65536 0 T2=true:=by kernel_rfl
theorem wn2:Nice P0 10 T2:=⟨by kernel_rfl,by rw [blk_t2];omega,.inr (.inl ⟨.inr rfl,rfl,by rw [blk_t2,blk_t2a];decide,⟨by kernel_rfl,by rw [blk_t2a];omega,.inr (.inr ⟨rfl,rfl,by kernel_rfl,by kernel_rfl,by rw [blk_t2b];omega,by decide,.inl (by kernel_rfl),by kernel_rfl,Nat.zero_le _,rfl,fun x hx=>by cases hx⟩)⟩⟩)⟩
theorem nms_nil (n:Nat) (w:World):NmS n w [] (.slice none 0 0):=⟨none,0,rfl,Nat.le_refl _,fun j x hx=>by simp at hx⟩
theorem cl_crow {ok:Nat→Prop} {w:World} {l:List Cl} {v:Value} (h:ClRow ok w l v):F.CRow w v l:=by
 obtain⟨a,cap,rfl,hc,hl⟩:=h
 cases l with
 | nil=>exact .inl ⟨a,cap,rfl,rfl⟩
 | cons c l =>
  obtain⟨g,off,rfl,_,hg,_,_⟩:=hl 0 c rfl
  refine .inr ⟨g,off,cap,rfl,hg,fun j d hj=>?_⟩
  obtain⟨g',off',e,_,_,h1,h2⟩:=hl j d hj
  injection e with e
  injection e with e1 e2
  subst e1 e2
  exact⟨h1,h2⟩
theorem kid_of {ok:Nat→Prop} {w:World} {a b:Tm} {ks:List Tm} {ra qa sa:Option Addr} {rc qc sc:Nat} (h:TmIn ok w a (.agg #[.int .i64 (a.kind:Nat),.int .i64 (a.n:Nat),.string (bs a.name),.slice ra a.r.length rc,.slice qa a.kids.length qc,.slice sa a.sys.length sc])) (hk:a.kids=b :: ks) :
  ∃ g off rb rbc qb qbc sb sbc,qa=some ⟨g,off,none⟩∧ok g∧g<w.heap.size∧TmIn ok w b (.agg #[.int .i64 (b.kind:Nat),.int .i64 (b.n:Nat),.string (bs b.name),.slice rb b.r.length rbc,.slice qb b.kids.length qbc,.slice sb b.sys.length sbc]) ∧
   w.cell? ⟨g,off,none⟩=some (.int .i64 (b.kind:Nat))∧w.cell? ⟨g,off+1,none⟩=some (.int .i64 (b.n:Nat))∧w.cell? ⟨g,off+2,none⟩=some (.string (bs b.name))∧w.cell? ⟨g,off+3,none⟩=some (.slice rb b.r.length rbc)∧w.cell? ⟨g,off+4,none⟩=some (.slice qb b.kids.length qbc)∧w.cell? ⟨g,off+5,none⟩=some (.slice sb b.sys.length sbc):=by
 obtain⟨ra',rc',qa',qc',sa',sc',e,h1,h2,h3⟩:=h.form
 simp only [Value.agg.injEq,Array.mk.injEq,List.cons.injEq,Value.slice.injEq,and_true,true_and] at e
 obtain⟨⟨rfl,rfl⟩,⟨rfl,rfl⟩,rfl,rfl⟩:=e
 obtain⟨a',cap',e,_,hl⟩:=h2
 injection e with e1 e2 e3
 subst e1
 obtain⟨g,off,u0,u1,u2,u3,u4,u5,rfl,hg,hgl,hT,c0,c1,c2,c3,c4,c5⟩:=hl 0 b (by rw [hk];rfl)
 obtain⟨rb,rbc,qb,qbc,sb,sbc,e,_⟩:=hT.form
 simp only [Value.agg.injEq,Array.mk.injEq,List.cons.injEq,and_true] at e
 obtain⟨rfl,rfl,rfl,rfl,rfl,rfl⟩:=e
 simp only [Nat.zero_mul,Nat.add_zero] at c0 c1 c2 c3 c4 c5
 exact⟨g,off,rb,rbc,qb,qbc,sb,sbc,rfl,hg,hgl,hT,c0,c1,c2,c3,c4,c5⟩
theorem formK {ok:Nat→Prop} {w:World} {k:Nat} {ks:List Tm} {v:Value} (h:TmIn ok w (tmK k ks) v) (K:Int) (hK:((k:Nat):Int)=K) (n:Nat) (hn:ks.length=n):∃ ra rc qa qc sa sc,v=.agg #[.int .i64 K,.int .i64 0,.string ⟨#[]⟩,.slice ra 0 rc,.slice qa n qc,.slice sa 0 sc]:=by
 obtain⟨ra,rc,qa,qc,sa,sc,rfl,_⟩:=h.form
 subst hK hn
 exact⟨ra,rc,qa,qc,sa,sc,rfl⟩
theorem of0_any (S:ByteArray) (T:Tr) (t:Sx) (ht:ofTr T=t) (w:World) (hT:Tabs w) (hs:S.size≤100000) (hA:termA 700000 (tl S)=(T,0,0)) (hNi:Nice P0 10 t) (hb:blk t≤1000000) (hok:okF 65536 0 t=true) (r:Rz Tm) (hrr:termR 10 ⟨[],[],[]⟩ t=r) (hr:r≠none) :
  Calls Tryz.prog 9 #[.string S,.agg #[.slice none 0 0,.slice none 0 0,.slice none 0 0]] w (ResP r w):=by
 subst ht
 exact of_any P0 call_none 10 (by omega) S T [] [] [] none none none 0 0 0 w hT (by unfold maxLen;omega) hA (nms_nil _ _) (nms_nil _ _) (nms_nil _ _) hNi hb hok (by simp) (by simp) (by simp) (fun x hx=>by cases hx) (fun x hx=>by cases hx) (fun x hx=>by cases hx) rfl rfl rfl r hrr hr
theorem n120:nameB [120]=true:=by decide
theorem w120:isWd [120]=false:=by decide
set_option maxRecDepth 100000 in
set_option maxHeartbeats 4000000 in
theorem worksZ_any (w:World) (hT:Tabs w):Calls Tryz.prog 6 #[] w fun e w'=>e=.returned (.bool true)∧Below w.heap.size w w':=by
 have o1:=of0_any ⟨#[92,120,46,32,120]⟩ _ (lamS [120] (nmS [120] 4) 0) (by rw [of_lam,of_nm];rfl) w hT (by decide) wa1 (nice_lam 9 [120] _ 0 n120 (by decide) (by rw [blk_nm];decide) (nice_nm 8 [120] 4 n120 (by decide))) (by rw [blk_lam,blk_nm];decide) (ok_lamS 65535 _ _ _ n120 (ok_nm 65534 _ _ n120)) (some (.inr (tmK 5 [.mk 1 0 [] [] [] []]))) (tr_lam 9 ⟨[],[],[]⟩ [120] _ 0 w120 (by rw [tr_nm 8 _ _ _ w120];exact named_last ⟨[],[],[]⟩ [120] 4)) (by simp)
 go_enter Tryz.func6,Tryz.ntmps6
 go_wp2_with fail
 refine o1.mono ?_
 rintro e w1 ⟨h01,va,rfl,hT1⟩
 obtain⟨ra,rc,qa,qc,sa,sc,rfl⟩:=formK hT1 5 rfl 1 rfl
 obtain⟨w2,hw2⟩:∃ w2,w2=w1.alloc (.cells #[.int .i64 5,.int .i64 0,.string ⟨#[]⟩,.slice ra 0 rc,.slice qa 1 qc,.slice sa 0 sc] 37):=⟨_,rfl⟩
 have h12:Below w1.heap.size w1 w2:=by rw [hw2];exact below_alloc _ _
 have t2:Tx w2 w1.heap.size (.int .i64 5) (.int .i64 0) (.string ⟨#[]⟩) (.slice ra 0 rc) (.slice qa 1 qc) (.slice sa 0 sc):=by rw [hw2];exact tx_new _ _ _ _ _ _ _
 have h02:Below w.heap.size w w2:=h01.trans (h12.mono h01.size)
 have o2:=of0_any ⟨#[60,105,62,32,108,111,111,112,32,64,32,126,105]⟩ _ T2 of_t2 w2 (hT.below h02) (by decide) wa2 wn2 (by rw [blk_t2];omega) wc2 _ wb2 (by simp)
 have H2:Hid (w2=_∧Below w1.heap.size w1 w2∧Tx w2 w1.heap.size _ _ _ _ _ _∧Below w.heap.size w w2∧TmIn _ w1 (tmK 5 [.mk 1 0 [] [] [] []]) _):=⟨hw2,h12,t2,h02,hT1⟩
 rw [hw2] at o2
 clear hw2 h12 t2 h02 h01 o1 hT1
 go_wp2_with fail
 refine o2.mono ?_
 rintro e w3 ⟨h23,vb,rfl,hT3⟩
 obtain⟨hw2,h12,t2,h02,hT1⟩:=H2.out
 rw [← hw2] at h23
 obtain⟨rb,rbc,qb,qbc,sb,sbc,rfl⟩:=formK hT3 12 rfl 1 rfl
 obtain⟨w4,hw4⟩:∃ w4,w4=w3.alloc (.cells #[.int .i64 12,.int .i64 0,.string ⟨#[]⟩,.slice rb 0 rbc,.slice qb 1 qbc,.slice sb 0 sbc] 37):=⟨_,rfl⟩
 have h34:Below w3.heap.size w3 w4:=by rw [hw4];exact below_alloc _ _
 have t4:Tx w4 w3.heap.size (.int .i64 12) (.int .i64 0) (.string ⟨#[]⟩) (.slice rb 0 rbc) (.slice qb 1 qbc) (.slice sb 0 sbc):=by rw [hw4];exact tx_new _ _ _ _ _ _ _
 have h03:Below w.heap.size w w3:=h02.trans (h23.mono h02.size)
 have h04:Below w.heap.size w w4:=h03.trans (h34.mono h03.size)
 have o3:=of0_any ⟨#[120]⟩ _ (nmS [120] 0) (by rw [of_nm];rfl) w4 (hT.below h04) (by decide) wa3 (nice_nm 9 [120] 0 n120 (by decide)) (by rw [blk_nm];decide) (ok_nm 65535 _ _ n120) (some (.inl (0,90))) (by rw [tr_nm 9 _ _ _ w120];rfl) (by simp)
 have H4:Hid (w4=_∧Below w2.heap.size w2 w3∧Below w3.heap.size w3 w4∧Tx w4 w3.heap.size _ _ _ _ _ _∧Below w.heap.size w w4∧TmIn _ w3 (tmK 12 [.mk 21 0 [] [(0,1)] [] []]) _):=⟨hw4,h23,h34,t4,h04,hT3⟩
 rw [hw4] at o3
 clear hw2 h12 t2 h02 hT1 hw4 h23 h34 t4 h03 h04 hT3 o2
 go_wp2_with fail
 refine o3.mono ?_
 rintro e w5 ⟨h45,rfl⟩
 obtain⟨hw2,h12,t2,h02,hT1⟩:=H2.out
 obtain⟨hw4,h23,h34,t4,h04,hT3⟩:=H4.out
 rw [← hw4] at h45
 obtain⟨w6,hw6⟩:∃ w6,w6=w5.alloc (.cells #[.int .i64 0,.int .i64 0,.string ⟨#[]⟩,.slice none 0 0,.slice none 0 0,.slice none 0 0] 37):=⟨_,rfl⟩
 have h56:Below w5.heap.size w5 w6:=by rw [hw6];exact below_alloc _ _
 have B46:Below w4.heap.size w4 w6:=h45.trans (h56.mono h45.size)
 have B36:Below w3.heap.size w3 w6:=h34.trans (B46.mono h34.size)
 have B26:Below w2.heap.size w2 w6:=h23.trans (B36.mono h23.size)
 have B16:Below w1.heap.size w1 w6:=h12.trans (B26.mono h12.size)
 have B06:Below w.heap.size w w6:=h04.trans (B46.mono h04.size)
 have t26:=t2.blw B26
 have t46:=t4.blw B46
 have m1:=hT1.blw B16
 have m3:=hT3.blw B36
 obtain⟨g1,f1,rk,rkc,qk,qkc,sk,skc,rfl,_,_,_,c0,_⟩:=kid_of (b:=.mk 1 0 [] [] [] []) (ks:=[]) m1 rfl
 obtain⟨g2,f2,rl,rlc,ql,qlc,sl,slc,rfl,_,_,ml,d0,d1,d2,d3,_,_⟩:=kid_of (b:=.mk 21 0 [] [(0,1)] [] []) (ks:=[]) m3 rfl
 have c0:w6.cell? ⟨g1,f1,none⟩=some (.int .i64 1):=c0
 have d0:w6.cell? ⟨g2,f2,none⟩=some (.int .i64 21):=d0
 have d3:w6.cell? ⟨g2,f2+3,none⟩=some (.slice rl 1 rlc):=d3
 obtain⟨x0,x1,x2,x3,x4,x5⟩:=t26.cells
 obtain⟨y0,y1,y2,y3,y4,y5⟩:=t46.cells
 obtain⟨_,_,_,_,_,_,e,hcl,_,_⟩:=ml.form
 simp only [Value.agg.injEq,Array.mk.injEq,List.cons.injEq,Value.slice.injEq,and_true,true_and] at e
 obtain⟨⟨rfl,rfl⟩,_⟩:=e
 have hal:=below_alloc w6 (.cells #[.int .u32 0,.int .u32 1] 49)
 have hcr:F.CRow (w6.alloc (.cells #[.int .u32 0,.int .u32 1] 49)) (.slice rl 1 rlc) [(0,1)]:=cl_crow (hcl.keep hal.size (fun _ h=>h) (fun g _ hg=>hal.block g hg))
 have hcm:F.CRow (w6.alloc (.cells #[.int .u32 0,.int .u32 1] 49)) (.slice (some ⟨w6.heap.size,0,none⟩) 1 1) [(0,1)]:=by
  refine .inr ⟨w6.heap.size,0,1,rfl,by simp,fun j d hj=>?_⟩
  cases j with
  | zero =>
   injection hj with hj
   subst hj
   exact⟨by simp [go_sem],by simp [go_sem]⟩
  | succ j=>simp at hj
 have cS:=F.same_any [(0,1)] [(0,1)] _ _ _ hcr hcm (by decide)
 rw [decide_eq_true rfl] at cS
 have s6:w6.heap.size=w5.heap.size+1:=by rw [hw6];simp
 rw [s6] at cS
 have HB:Hid (Below w.heap.size w (w6.alloc (.cells #[.int .u32 0,.int .u32 1] 49))∧w6=_∧w.heap.size≤w5.heap.size+1):=⟨B06.trans (hal.mono B06.size),hw6,by rw [← s6];exact B06.size⟩
 rw [hw6] at cS c0 d0 d3 x0 x4 y0 y4
 clear s6 x1 x2 x3 x5 y1 y2 y3 y5 hw2 h12 t2 h02 hT1 hw4 h23 h34 t4 h04 hT3 hw6 h56 B46 B36 B26 B16 B06 t26 t46 m1 m3 d1 d2 hal hcr hcm hcl ml h45 o3
 go_wp2_with fail
 refine cS.mono ?_
 rintro e w7 ⟨rfl,hb7⟩
 go_wp2
 go_ret
 obtain⟨B7,hw6,hsz⟩:=HB.out
 rw [← hw6] at hb7
 exact⟨rfl,B7.trans (hb7.mono B7.size)⟩
end Go.Proofs.YtahnbigkdfmpbaaGreatDoor
