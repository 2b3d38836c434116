/- Lifts: a whole term; what gives up is caught. -/
import Derived.Defers
import Derived.Recover
import Derived.RegionTactic
import Derived.Test.YtmblbmdchinflaaGreatEG23
import Derived.Test.YtmblbmdchinflaaGreatEG20
set_option linter.unusedVariables false
set_option linter.unusedSimpArgs false
set_option maxRecDepth 100000
set_option maxHeartbeats 4000000
namespace Go.Proofs.YtmblbmdchinflaaGreat
open Go.RowKit
theorem assert_errno (v:Value) (w:World):(Instr.typeAssert (.iface 31 v) 20 31 false).run Tryz.prog w=.ok v w:=by
 simp [Instr.typeAssert,run_underlying Tryz.underlying31]
theorem lcatch_panicking (q:Nat) (a x:Int) (older:List PanicEntry) (w:World) (hq:q<w.heap.size) (c0:w.cell? ⟨q,0,none⟩=some (.int .i64 a)) (z0:w.frozen? ⟨q,0,none⟩=false) :
  CallsD Tryz.prog 152 #[.pointer (some ⟨q,0,none⟩)] (.panicking ({ v:=.iface 31 (.int .i64 x),recovered:=false } :: older)) w fun e u' w' =>
   e=.returned (.tuple #[])∧u'=.panicking ({ v:=.iface 31 (.int .i64 x),recovered:=true } :: older)∧w'=w.setCell ⟨q,0,none⟩ (.int .i64 x):=by
 refine callsD_of_wpS Tryz.func152 rfl fun c₀ cs hu=>?_
 apply wpS_seq
 apply wpS_region
 simp [wpOpsS,go_sem,recoverD,hu,Tryz.ntmps152,Exit.thenS]
 refine wpS_of_wp ?_
 change Code.wp Tryz.prog _ _ { tmps:=#[.pointer (some ⟨q,0,none⟩),.iface 31 (.int .i64 x),.iface 31 (.int .i64 x),undef,undef,undef,undef],defers:=[] } w
 have hta:=fun w=>assert_errno (.int .i64 x) w
 go_wp2_with fail
 simp +zetaDelta [bodyPostS,results,Tryz.results152]
theorem lcatch_idle (q:Nat) (w:World) :
  CallsD Tryz.prog 152 #[.pointer (some ⟨q,0,none⟩)] .returning w fun e u' w'=>e=.returned (.tuple #[])∧u'=.returning∧w'=w:=by
 refine callsD_of_wpS Tryz.func152 rfl fun c₀ cs hu=>?_
 apply wpS_seq
 apply wpS_region
 simp [wpOpsS,go_sem,recoverD,hu,Tryz.ntmps152,Exit.thenS]
 refine wpS_of_wp ?_
 change Code.wp Tryz.prog _ _ { tmps:=#[.pointer (some ⟨q,0,none⟩),.nilIface,.nilIface,undef,undef,undef,undef],defers:=[] } w
 go_wp2_with fail
 cases c₀
 simp_all +zetaDelta [bodyPostS,results,Tryz.results152]
def zeroT:Tm:=.mk 0 0 ⟨#[]⟩ [] [] []
theorem zeroT_in (ok:Nat→Prop) (w:World):TmIn ok w zeroT (.agg #[.int .i64 0,.int .i64 0,.string ⟨#[]⟩,.slice none 0 0,.slice none 0 0,.slice none 0 0]) :=
 TmIn.mk 0 0 ⟨#[]⟩ [] [] [] _ _ _ (by unfold I64;omega) (by unfold I64;omega) (cl_nil _ _) (kt_nil _ _ _) (sy_nil _ _ _)
def ansL (s:Sf) (t:Tm):Tm:=if erT s t 0 0=0 then liT s t 0 0 else zeroT
theorem lterm_any {s:Sf} (hL:∀ N,LfC s N) (t:Tm) (v:Value) (w:World) (hv:TmIn Tt w t v) (hf:Fm t) (hb:blk t≤40000) :
  Calls Tryz.prog 118 #[.agg #[.int .i64 s.vf,.int .i64 s.vb,.int .i64 s.df,.int .i64 s.db],v] w fun e w'=>∃ v',e=.returned (.tuple #[v',.int .i64 (erT s t 0 0)])∧TmIn (OkN w.heap.size w') w' (ansL s t) v'∧Below w.heap.size w w':=by
 obtain⟨ra,rc,ka,kc,sa,sc,rfl,ht⟩:=hv.form
 obtain⟨wa,hwa⟩:∃ W,W=((w.alloc (.cells #[.int .i64 s.vf,.int .i64 s.vb,.int .i64 s.df,.int .i64 s.db] 129)).alloc (.cells #[.int .i64 t.kind,.int .i64 t.n,.string t.name,.slice ra t.r.length rc,.slice ka t.kids.length kc,.slice sa t.sys.length sc] 26)):=⟨_,rfl⟩
 have sa':wa.heap.size=w.heap.size+2:=by rw [hwa];simp
 have ba:Below w.heap.size w wa:=by rw [hwa];exact bchain (belowA _ _) (belowA _ _)
 obtain⟨wb,hwb⟩:∃ W,W=(wa.alloc (.cells #[.int .i64 0,.int .i64 0,.string ⟨#[]⟩,.slice none 0 0,.slice none 0 0,.slice none 0 0] 26)).alloc (.cells #[.int .i64 0] 31):=⟨_,rfl⟩
 have sb':wb.heap.size=w.heap.size+4:=by rw [hwb];simp;omega
 have bb:Below wa.heap.size wa wb:=by rw [hwb];exact bchain (belowA _ _) (belowA _ _)
 obtain⟨X,hX⟩:∃ X,X=w.heap.size:=⟨_,rfl⟩
 obtain⟨w2,hw2⟩:∃ W,W=wb.alloc (.cells #[.func (.func 153) #[] #[.pointer (some ⟨X,0,none⟩),.pointer (some ⟨X+4,0,none⟩)]] 150):=⟨_,rfl⟩
 have b2:Below wb.heap.size wb w2:=by rw [hw2];exact belowA _ _
 have s2:w2.heap.size=X+5:=by rw [hw2];simp;omega
 have bw2:=bchain (bchain ba bb) b2
 have ma:wa.heap[X]? = some (.cells #[.int .i64 s.vf,.int .i64 s.vb,.int .i64 s.df,.int .i64 s.db] 129 (0,0)):=by rw [hwa,hX];exact (Below.heap_alloc _ _ _ (by simp)).trans (heapNew w _)
 have mt:wa.heap[X+1]? = some (.cells #[.int .i64 t.kind,.int .i64 t.n,.string t.name,.slice ra t.r.length rc,.slice ka t.kids.length kc,.slice sa t.sys.length sc] 26 (0,0)):=by
  rw [hwa,hX];have:=heapNew (w.alloc (.cells #[.int .i64 s.vf,.int .i64 s.vb,.int .i64 s.df,.int .i64 s.db] 129)) (.cells #[.int .i64 t.kind,.int .i64 t.n,.string t.name,.slice ra t.r.length rc,.slice ka t.kids.length kc,.slice sa t.sys.length sc] 26);rwa [World.size_alloc] at this
 have mr:Six wb (X+2) (.int .i64 0) (.int .i64 0) (.string ⟨#[]⟩) (.slice none 0 0) (.slice none 0 0) (.slice none 0 0):=⟨by
  rw [hwb];refine (Below.heap_alloc _ _ _ (by simp;omega)).trans ?_
  have:=heapNew wa (.cells #[.int .i64 0,.int .i64 0,.string ⟨#[]⟩,.slice none 0 0,.slice none 0 0,.slice none 0 0] 26);rwa [sa',← hX] at this⟩
 have me:wb.heap[X+3]? = some (.cells #[.int .i64 0] 31 (0,0)):=by
  rw [hwb];have:=heapNew (wa.alloc (.cells #[.int .i64 0,.int .i64 0,.string ⟨#[]⟩,.slice none 0 0,.slice none 0 0,.slice none 0 0] 26)) (.cells #[.int .i64 0] 31);rwa [World.size_alloc,sa',← hX] at this
 have mf:w2.heap[X+4]? = some (.cells #[.func (.func 153) #[] #[.pointer (some ⟨X,0,none⟩),.pointer (some ⟨X+4,0,none⟩)]] 150 (0,0)):=by
  rw [hw2];have:=heapNew wb (.cells #[.func (.func 153) #[] #[.pointer (some ⟨X,0,none⟩),.pointer (some ⟨X+4,0,none⟩)]] 150);rwa [sb',← hX] at this
 have bab:=bchain bb b2
 have hE:LEnv w2 s X (X+4):=⟨(bab.block X (by omega)).trans ma,mf⟩
 have h6:Cs6 w2 (X+1) 0 t ra rc ka kc sa sc:=cs6_of ((bab.block (X+1) (by omega)).trans mt)
 have cc:Calls Tryz.prog 153 #[.pointer (some ⟨X+1,0,none⟩),.agg #[.int .i64 0,.int .i64 0],.pointer (some ⟨X,0,none⟩),.pointer (some ⟨X+4,0,none⟩)] w2 fun e w'=>LOut (erT s t 0 0) (TmIn (OkN w2.heap.size w') w' (liT s t 0 0)) e∧Below w2.heap.size w2 w' :=
  hL _ t 0 0 (X+1) 0 X (X+4) ra rc ka kc sa sc w2 hE h6 (ht.blw bw2) hf (Nat.le_refl _) (by omega) (by omega) hb
 have HZ2:Hid (∀ W,Below w2.heap.size w2 W→Six W (X+2) (.int .i64 0) (.int .i64 0) (.string ⟨#[]⟩) (.slice none 0 0) (.slice none 0 0) (.slice none 0 0)∧W.heap[X+3]? = some (.cells #[.int .i64 0] 31 (0,0))):=fun W q=>by
  have q2:=bchain b2 q
  exact⟨mr.blw q2,(q2.block (X+3) (by omega)).trans me⟩
 have HB:Hid (∀ W,Below w2.heap.size w2 W→Below X w W):=fun W q=>by rw [hX];exact bchain bw2 q
 have HA:Hid (ansL s t=if erT s t 0 0=0 then liT s t 0 0 else zeroT):=(rfl:_=_)
 obtain⟨er,her⟩:∃ e,e=erT s t 0 0:=⟨_,rfl⟩
 obtain⟨T,hT⟩:∃ T,T=liT s t 0 0:=⟨_,rfl⟩
 rw [← her,← hT] at cc HA
 rw [← her,← hX]
 have cf:=hE.fn
 have hmk:=mkfn
 have eg:=lf_eg
 have HW:Hid (w2=((((w.alloc (.cells #[.int .i64 s.vf,.int .i64 s.vb,.int .i64 s.df,.int .i64 s.db] 129)).alloc (.cells #[.int .i64 t.kind,.int .i64 t.n,.string t.name,.slice ra t.r.length rc,.slice ka t.kids.length kc,.slice sa t.sys.length sc] 26)).alloc (.cells #[.int .i64 0,.int .i64 0,.string ⟨#[]⟩,.slice none 0 0,.slice none 0 0,.slice none 0 0] 26)).alloc (.cells #[.int .i64 0] 31)).alloc (.cells #[.func (.func 153) #[] #[.pointer (some ⟨w.heap.size,0,none⟩),.pointer (some ⟨w.heap.size+4,0,none⟩)]] 150)):=(by rw [hw2,hwb,hwa,hX]:_=_)
 have HX:Hid (X=w.heap.size):=hX
 have Hs2:Hid (w2.heap.size=X+5):=s2
 clear hwa hwb hw2 ba bb b2 bw2 sa' sb' ma mt mr me mf bab hE h6 ht hv hf her hT hX s2 hL hb
 go_enter_defers Tryz.func118,Tryz.ntmps118
 go_upto_region 4 with fail
 rw [← HW.out]
 simp only [← HX.out]
 clear HW
 go_wp2_with fail
 refine cc.mono ?_
 rintro e w3 ⟨⟨h0,v3,rfl,hv3⟩ | ⟨hne,rfl⟩,hb3⟩
 ·clear cc cf
  obtain⟨ra2,rc2,ka2,kc2,sa2,sc2,rfl,ht2⟩:=hv3.form
  obtain⟨z3,e3⟩:=HZ2.out w3 hb3
  have hs2:=Hs2.out
  have hs3:=hb3.size
  obtain⟨w4,hw4⟩:∃ W,W=(((((w3.setCell ⟨X+2,0,none⟩ (.int .i64 T.kind)).setCell ⟨X+2,1,none⟩ (.int .i64 T.n)).setCell ⟨X+2,2,none⟩ (.string T.name)).setCell ⟨X+2,3,none⟩ (.slice ra2 T.r.length rc2)).setCell ⟨X+2,4,none⟩ (.slice ka2 T.kids.length kc2)).setCell ⟨X+2,5,none⟩ (.slice sa2 T.sys.length sc2):=⟨_,rfl⟩
  have k4:Kn (fun q=>q≠X+2) w3 w4:=by rw [hw4];exact (((((kn_set _ _ _ _).trans (kn_set _ _ _ _)).trans (kn_set _ _ _ _)).trans (kn_set _ _ _ _)).trans (kn_set _ _ _ _)).trans (kn_set _ _ _ _)
  have z4:=z3.set6 (.int .i64 T.kind) (.int .i64 T.n) (.string T.name) (.slice ra2 T.r.length rc2) (.slice ka2 T.kids.length kc2) (.slice sa2 T.sys.length sc2)
  rw [← hw4] at z4
  have e4:=(k4.block (X+3) (by omega) (by omega)).trans e3
  have c40:w4.cell? ⟨X+3,0,none⟩=some (.int .i64 0):=by simp [World.cell?,e4]
  have c4f:w4.frozen? ⟨X+3,0,none⟩=false:=by simp [World.frozen?,e4]
  obtain⟨w5,hw5⟩:∃ W,W=w4.setCell ⟨X+3,0,none⟩ (.int .i64 0):=⟨_,rfl⟩
  have k5:Kn (fun q=>q≠X+3) w4 w5:=by rw [hw5];exact kn_set _ _ _ _
  have z5:=z4.kn k5 (by omega)
  have c5:w5.cell? ⟨X+3,0,none⟩=some (.int .i64 0):=by rw [hw5];exact World.cell?_setCell_same' _ _ _ (by rw [c40];rfl)
  have HTm:Hid (TmIn (OkN X w5) w5 T (.agg #[.int .i64 T.kind,.int .i64 T.n,.string T.name,.slice ra2 T.r.length rc2,.slice ka2 T.kids.length kc2,.slice sa2 T.sys.length sc2])):=by
   have hA:∀ q,OkN w2.heap.size w3 q→w5.heap[q]? = w3.heap[q]?:=fun q hq=>(k5.block q (by have:=hq.1;omega) (by have:=hq.lt;have:=k4.size;omega)).trans (k4.block q (by have:=hq.1;omega) hq.lt)
   exact ht2.value.keep (Nat.le_trans k4.size k5.size) (fun q hq=>(hq.same (hA q hq)).mono (by omega)) (fun q hq _=>hA q hq)
  have b5:Below X w w5:=((HB.out w3 hb3).trans (k4.below (fun q hq=>by omega) (by omega))).trans (k5.below (fun q hq=>by omega) (by have:=k4.size;omega))
  obtain⟨o0,o1,o2,o3,o4,o5,ff⟩:=z3.cells
  have f0:=ff 0
  have f1:=ff 1
  have f2:=ff 2
  have f3:=ff 3
  have f4:=ff 4
  have f5:=ff 5
  obtain⟨d0,d1,d2,d3,d4,d5,_⟩:=z5.cells
  have H4:Hid (_=_):=hw4
  have H5:Hid (_=_):=hw5
  have Hc4:Hid (_∧_):=(⟨c40,c4f⟩:w4.cell? ⟨X+3,0,none⟩=some (.int .i64 0)∧w4.frozen? ⟨X+3,0,none⟩=false)
  have p40:(((((((w3.setCell ⟨X+2,0,none⟩ (.int .i64 T.kind)).setCell ⟨X+2,1,none⟩ (.int .i64 T.n)).setCell ⟨X+2,2,none⟩ (.string T.name)).setCell ⟨X+2,3,none⟩ (.slice ra2 T.r.length rc2)).setCell ⟨X+2,4,none⟩ (.slice ka2 T.kids.length kc2)).setCell ⟨X+2,5,none⟩ (.slice sa2 T.sys.length sc2)).cell? ⟨X+3,0,none⟩=some (.int .i64 0)):=by rw [← hw4];exact c40
  have p4f:(((((((w3.setCell ⟨X+2,0,none⟩ (.int .i64 T.kind)).setCell ⟨X+2,1,none⟩ (.int .i64 T.n)).setCell ⟨X+2,2,none⟩ (.string T.name)).setCell ⟨X+2,3,none⟩ (.slice ra2 T.r.length rc2)).setCell ⟨X+2,4,none⟩ (.slice ka2 T.kids.length kc2)).setCell ⟨X+2,5,none⟩ (.slice sa2 T.sys.length sc2)).frozen? ⟨X+3,0,none⟩=false):=by rw [← hw4];exact c4f
  clear hw4 hw5 z3 z4 z5 k4 k5 ff e3 e4 ht2 hv3 c40 c4f hs2 hs3
  go_wp2_with fail
  rw [← H4.out,← H5.out]
  refine leaves_cons (f:=152) (args:=#[.pointer (some ⟨X+3,0,none⟩)]) (by simp) (by simp [go_sem]) ?_
  refine (lcatch_idle _ _).mono ?_
  rintro e u' w'' ⟨rfl,rfl,rfl⟩
  refine⟨.tuple #[.agg #[.int .i64 T.kind,.int .i64 T.n,.string T.name,.slice ra2 T.r.length rc2,.slice ka2 T.kids.length kc2,.slice sa2 T.sys.length sc2],.int .i64 0],by simp only [results,Tryz.results118];simp [go_sem,d0,d1,d2,d3,d4,d5,c5],_,by rw [h0],by rw [HA.out,if_pos h0];exact HTm.out,b5⟩
 ·clear cc cf
  obtain⟨z3,e3⟩:=HZ2.out w3 hb3
  have hs2:=Hs2.out
  have hs3:=hb3.size
  have c30:w3.cell? ⟨X+3,0,none⟩=some (.int .i64 0):=by simp [World.cell?,e3]
  have c3f:w3.frozen? ⟨X+3,0,none⟩=false:=by simp [World.frozen?,e3]
  refine leaves_cons (f:=152) (args:=#[.pointer (some ⟨X+3,0,none⟩)]) (by simp) (by simp [go_sem]) ?_
  refine (lcatch_panicking (X+3) 0 er [] w3 (by omega) c30 c3f).mono ?_
  rintro e u' w5 ⟨rfl,rfl,hw5⟩
  have k5:Kn (fun q=>q≠X+3) w3 w5:=by rw [hw5];exact kn_set _ _ _ _
  have z5:=z3.kn k5 (by omega)
  have c5:w5.cell? ⟨X+3,0,none⟩=some (.int .i64 er):=by rw [hw5];exact World.cell?_setCell_same' _ _ _ (by rw [c30];rfl)
  have b5:Below X w w5:=(HB.out w3 hb3).trans (k5.below (fun q hq=>by omega) (by omega))
  obtain⟨d0,d1,d2,d3,d4,d5,_⟩:=z5.cells
  refine⟨.tuple #[.agg #[.int .i64 0,.int .i64 0,.string ⟨#[]⟩,.slice none 0 0,.slice none 0 0,.slice none 0 0],.int .i64 er],by simp only [results,Tryz.results118];simp [go_sem,d0,d1,d2,d3,d4,d5,c5],_,rfl,by rw [HA.out,if_neg hne];exact zeroT_in _ _,b5⟩
theorem fm_of_ok {o:Bool} {V:Int} {D:Nat}:∀ (n:Nat) (t:Tm) (bv bd:Nat),blk t≤n→okT o V D t bv bd=true→Fm t
 | 0,t,bv,bd,hn,h=>by have:=blk_pos t;omega
 | n+1,t,bv,bd,hn,h=>by
  rw [ok_eq,Bool.and_eq_true] at h
  obtain⟨h1,h2⟩:=h
  rw [List.all_eq_true] at h2
  unfold Tm.node nodeB at h1
  simp only [Bool.and_eq_true] at h1
  obtain⟨⟨⟨⟨⟨_,_⟩,hnum⟩,_⟩,hrow⟩,_⟩:=h1
  rw [fm_eq]
  refine⟨?_,fun hk=>?_,fun x hx=>?_,fun b hb x hx=>?_⟩
  ·unfold numB at hnum
   split at hnum
   ·simp only [Bool.and_eq_true,decide_eq_true_eq] at hnum;exact hnum.1
   ·simp only [decide_eq_true_eq] at hnum;omega
  ·unfold rowB at hrow
   rw [hk,if_neg (by omega),if_neg (by omega)] at hrow
   exact List.length_eq_zero_iff.1 (by simpa using hrow)
  ·obtain⟨i,hi⟩:=List.mem_iff_getElem?.1 hx
   exact fm_of_ok n x _ _ (by have:=blk_kid hx;omega) (h2 _ (pts_kid hi))
  ·exact fm_of_ok n x _ _ (by have:=blk_sub hb hx;omega) (h2 _ (pts_sys hb hx))
theorem fm_of_wrong {t:Tm} (h:wrongN true 0 0 t=0):Fm t:=by
 unfold wrongN at h
 split at h
 ·cases h
 ·split at h
  ·rename_i h2;exact fm_of_ok _ t 0 0 (Nat.le_refl _) h2
  ·cases h
def wrL (ot by_:Int) (t:Tm):Int:=if wrongN true 0 0 t=0 then (if ot<0∨by_<0∨1000000<by_ then 2 else 0) else ((wrongN true 0 0 t:Nat):Int)
theorem lwrong_any (t:Tm) (v:Value) (w:World) (hv:TmIn Tt w t v) (hb:blk t≤20000) (ot by_:Int):Calls Tryz.prog 117 #[v,.int .i64 ot,.int .i64 by_] w fun e w'=>e=.returned (.int .i64 (wrL ot by_ t))∧Below w.heap.size w w':=by
 obtain⟨ra,rc,ka,kc,sa,sc,rfl,ht⟩:=hv.form
 obtain⟨w1,hw1⟩:∃ W,W=w.alloc (.cells #[.int .i64 t.kind,.int .i64 t.n,.string t.name,.slice ra t.r.length rc,.slice ka t.kids.length kc,.slice sa t.sys.length sc] 26):=⟨_,rfl⟩
 have b1:Below w.heap.size w w1:=by rw [hw1];exact belowA _ _
 obtain⟨_,y0,y1,y2,y3,y4,y5⟩:Cs6 w1 w.heap.size 0 t ra rc ka kc sa sc:=by rw [hw1];exact cs6_new w t ra rc ka kc sa sc
 simp only [Nat.zero_add] at y1 y2 y3 y4 y5
 have cc:=formed_any t _ w1 (ht.blw b1).value hb
 have HA:Hid (wrL ot by_ t=if wrongN true 0 0 t=0 then (if ot<0∨by_<0∨1000000<by_ then 2 else 0) else ((wrongN true 0 0 t:Nat):Int)):=(rfl:_=_)
 obtain⟨f,hf⟩:∃ f,f=wrongN true 0 0 t:=⟨_,rfl⟩
 rw [← hf] at cc HA
 have HW:Hid (_=_):=hw1
 clear hw1 hf hv ht
 go_enter Tryz.func117,Tryz.ntmps117
 go_upto_region 1 with fail
 rw [← HW.out]
 clear HW
 go_wp2_with fail
 refine cc.mono ?_
 rintro e w2 ⟨rfl,b2⟩
 have b12:=bchain b1 b2
 clear cc y0 y1 y2 y3 y4 y5
 by_cases h0:f=0
 ·subst h0
  rw [if_pos rfl] at HA
  by_cases h1:ot<0
  ·have HR:Hid (wrL ot by_ t=2):=(by rw [HA.out,if_pos (.inl h1)]:_=_)
   go_wp2_with fail
   go_ret
   exact⟨by rw [HR.out];rfl,b12⟩
  ·by_cases h2:by_<0
   ·have HR:Hid (wrL ot by_ t=2):=(by rw [HA.out,if_pos (.inr (.inl h2))]:_=_)
    go_wp2_with fail
    go_ret
    exact⟨by rw [HR.out];rfl,b12⟩
   ·by_cases h3:1000000<by_
    ·have HR:Hid (wrL ot by_ t=2):=(by rw [HA.out,if_pos (.inr (.inr h3))]:_=_)
     go_wp2_with fail
     go_ret
     exact⟨by rw [HR.out];rfl,b12⟩
    ·have HR:Hid (wrL ot by_ t=0):=(by rw [HA.out,if_neg (by omega)]:_=_)
     go_wp2_with fail
     go_ret
     exact⟨by rw [HR.out];rfl,b12⟩
 ·have HR:Hid (wrL ot by_ t=(f:Int)):=(by rw [HA.out,if_neg h0]:_=_)
  have h01:((f:Int) == 0)=false:=by simp;omega
  have h02:¬ (f:Int)=0:=by omega
  go_wp2_with fail
  go_ret
  exact⟨by rw [HR.out];rfl,b12⟩
def apE (e0:Int) (s:Sf) (t:Tm):Int:=if e0=0 then erT s t 0 0 else e0
def apT (e0:Int) (s:Sf) (t:Tm):Tm:=if e0=0 then ansL s t else zeroT
def dimsE (fr by_:Int) (t:Tm):Int:=apE (wrL fr by_ t) ⟨0,0,fr,by_⟩ t
def dimsT (fr by_:Int) (t:Tm):Tm:=apT (wrL fr by_ t) ⟨0,0,fr,by_⟩ t
def LAll:Prop:=∀ s:Sf,s.ok→∀ N,LfC s N
theorem ldims_any (hLA:LAll) (t:Tm) (v:Value) (w:World) (hv:TmIn Tt w t v) (hb:blk t≤20000) (fr by_:Int) (hfr:I64 fr) :
  Calls Tryz.prog 71 #[v,.int .i64 fr,.int .i64 by_] w fun e w'=>∃ v',e=.returned (.tuple #[v',.int .i64 (dimsE fr by_ t)])∧TmIn (OkN w.heap.size w') w' (dimsT fr by_ t) v'∧Below w.heap.size w w':=by
 obtain⟨ra,rc,ka,kc,sa,sc,rfl,ht⟩:=hv.form
 obtain⟨w1,hw1⟩:∃ W,W=(w.alloc (.cells #[.int .i64 t.kind,.int .i64 t.n,.string t.name,.slice ra t.r.length rc,.slice ka t.kids.length kc,.slice sa t.sys.length sc] 26)).alloc (.cells #[.int .i64 0,.int .i64 0,.string ⟨#[]⟩,.slice none 0 0,.slice none 0 0,.slice none 0 0] 26):=⟨_,rfl⟩
 have b1:Below w.heap.size w w1:=by rw [hw1];exact bchain (belowA _ _) (belowA _ _)
 obtain⟨X,hX⟩:∃ X,X=w.heap.size:=⟨_,rfl⟩
 have s1:w1.heap.size=X+2:=by rw [hw1,hX];simp
 have x1:Six w1 X (.int .i64 t.kind) (.int .i64 t.n) (.string t.name) (.slice ra t.r.length rc) (.slice ka t.kids.length kc) (.slice sa t.sys.length sc):=⟨by rw [hX,hw1];exact (Below.heap_alloc _ _ _ (by simp)).trans (heapNew w _)⟩
 have x2:Six w1 (X+1) (.int .i64 0) (.int .i64 0) (.string ⟨#[]⟩) (.slice none 0 0) (.slice none 0 0) (.slice none 0 0):=⟨by
  rw [hX,hw1];have:=heapNew (w.alloc (.cells #[.int .i64 t.kind,.int .i64 t.n,.string t.name,.slice ra t.r.length rc,.slice ka t.kids.length kc,.slice sa t.sys.length sc] 26)) (.cells #[.int .i64 0,.int .i64 0,.string ⟨#[]⟩,.slice none 0 0,.slice none 0 0,.slice none 0 0] 26);rwa [World.size_alloc] at this⟩
 have HC:Hid (∀ W,Below w1.heap.size w1 W→Six W X (.int .i64 t.kind) (.int .i64 t.n) (.string t.name) (.slice ra t.r.length rc) (.slice ka t.kids.length kc) (.slice sa t.sys.length sc)):=fun W q=>x1.blw q
 have HZ:Hid (∀ W,Below w1.heap.size w1 W→Six W (X+1) (.int .i64 0) (.int .i64 0) (.string ⟨#[]⟩) (.slice none 0 0) (.slice none 0 0) (.slice none 0 0)):=fun W q=>x2.blw q
 have HT:Hid (∀ W,Below w1.heap.size w1 W→TmIn Tt W t (.agg #[.int .i64 t.kind,.int .i64 t.n,.string t.name,.slice ra t.r.length rc,.slice ka t.kids.length kc,.slice sa t.sys.length sc])):=fun W q=>((ht.blw b1).blw q).value
 have HB:Hid (∀ W,Below w1.heap.size w1 W→Below X w W):=fun W q=>by rw [hX];exact bchain b1 q
 have HXs:Hid (X=w.heap.size):=hX
 have Hs1:Hid (w1.heap.size=X+2):=s1
 have HW:Hid (_=_):=hw1
 have cw:=lwrong_any t _ w1 (HT.out w1 (Below.refl _ _)) hb fr by_
 have HE:Hid (dimsE fr by_ t=apE (wrL fr by_ t) ⟨0,0,fr,by_⟩ t∧dimsT fr by_ t=apT (wrL fr by_ t) ⟨0,0,fr,by_⟩ t):=⟨rfl,rfl⟩
 have HOk:Hid (wrL fr by_ t=0→(Sf.mk 0 0 fr by_).ok∧Fm t):=fun h=>by
  unfold wrL at h
  split at h
  ·rename_i h1
   split at h
   ·cases h
   ·rename_i h2
    exact⟨by unfold I64 at hfr;refine⟨?_,?_,?_,?_,?_,?_,?_,?_⟩ <;> dsimp only <;> omega,fm_of_wrong h1⟩
  ·omega
 obtain⟨e0,he0⟩:∃ e,e=wrL fr by_ t:=⟨_,rfl⟩
 rw [← he0] at cw HE HOk
 rw [HE.out.1,HE.out.2]
 clear he0
 have HA:Hid (apE e0 ⟨0,0,fr,by_⟩ t=(if e0=0 then erT ⟨0,0,fr,by_⟩ t 0 0 else e0)∧apT e0 ⟨0,0,fr,by_⟩ t=(if e0=0 then ansL ⟨0,0,fr,by_⟩ t else zeroT)):=⟨rfl,rfl⟩
 rw [← hX]
 clear hw1 hX s1 x1 x2 hv ht b1
 go_enter Tryz.func71,Tryz.ntmps71
 go_upto_region 1 with fail
 rw [← HW.out]
 simp only [← HXs.out]
 clear HW
 obtain⟨y0,y1,y2,y3,y4,y5,_⟩:=(HC.out w1 (Below.refl _ _)).cells
 go_wp2_with fail
 refine cw.mono ?_
 rintro e w2 ⟨rfl,b2⟩
 clear cw y0 y1 y2 y3 y4 y5
 by_cases hz:e0=0
 ·subst hz
  obtain⟨hok,hfm⟩:=HOk.out rfl
  have ct:=lterm_any (hLA _ hok) t _ w2 (HT.out w2 b2) hfm (by omega)
  obtain⟨y0,y1,y2,y3,y4,y5,_⟩:=(HC.out w2 b2).cells
  obtain⟨er,her⟩:∃ e,e=erT ⟨0,0,fr,by_⟩ t 0 0:=⟨_,rfl⟩
  obtain⟨T,hT⟩:∃ T,T=ansL ⟨0,0,fr,by_⟩ t:=⟨_,rfl⟩
  rw [← her,← hT] at ct
  dsimp only at ct
  have Hf:Hid (apE 0 ⟨0,0,fr,by_⟩ t=er∧apT 0 ⟨0,0,fr,by_⟩ t=T):=⟨by rw [HA.out.1,if_pos rfl,her],by rw [HA.out.2,if_pos rfl,hT]⟩
  clear her hT HA HE HOk hok hfm hLA
  go_wp2_with fail
  refine ct.mono ?_
  rintro e w3 ⟨v3,rfl,hv3,b3⟩
  clear ct y0 y1 y2 y3 y4 y5
  obtain⟨ra2,rc2,ka2,kc2,sa2,sc2,rfl,ht2⟩:=hv3.form
  have htv:=ht2.value
  have hsz:=Hs1.out
  have hs2:=b2.size
  have b23:=bchain b2 b3
  clear ht2 hv3
  have zz:=HZ.out w3 b23
  have zz2:=zz.set6 (.int .i64 T.kind) (.int .i64 T.n) (.string T.name) (.slice ra2 T.r.length rc2) (.slice ka2 T.kids.length kc2) (.slice sa2 T.sys.length sc2)
  obtain⟨o0,o1,o2,o3,o4,o5,ff⟩:=zz.cells
  have f0:=ff 0
  have f1:=ff 1
  have f2:=ff 2
  have f3:=ff 3
  have f4:=ff 4
  have f5:=ff 5
  obtain⟨h0,h1,h2,h3,h4,h5,_⟩:=zz2.cells
  obtain⟨wz,hwz⟩:∃ W,W=(((((w3.setCell ⟨X+1,0,none⟩ (.int .i64 T.kind)).setCell ⟨X+1,1,none⟩ (.int .i64 T.n)).setCell ⟨X+1,2,none⟩ (.string T.name)).setCell ⟨X+1,3,none⟩ (.slice ra2 T.r.length rc2)).setCell ⟨X+1,4,none⟩ (.slice ka2 T.kids.length kc2)).setCell ⟨X+1,5,none⟩ (.slice sa2 T.sys.length sc2):=⟨_,rfl⟩
  rw [← hwz] at h0 h1 h2 h3 h4 h5
  have kz:Kn (fun q=>q≠X+1) w3 wz:=by rw [hwz];exact (((((kn_set _ _ _ _).trans (kn_set _ _ _ _)).trans (kn_set _ _ _ _)).trans (kn_set _ _ _ _)).trans (kn_set _ _ _ _)).trans (kn_set _ _ _ _)
  have bz:Below X w wz:=(HB.out w3 b23).trans (kz.below (fun q hq=>by omega) (by have:=(HB.out w3 b23).size;have:=HXs.out;omega))
  have HTm:Hid (TmIn (OkN X wz) wz T (.agg #[.int .i64 T.kind,.int .i64 T.n,.string T.name,.slice ra2 T.r.length rc2,.slice ka2 T.kids.length kc2,.slice sa2 T.sys.length sc2])):=htv.keep kz.size (fun q hq=>(hq.same (kz.block q (by have:=hq.1;omega) hq.lt)).mono (by omega)) (fun q hq hs=>kz.block q (by have:=hq.1;omega) hs)
  have Hwz:Hid (_=_):=hwz
  clear hwz ff zz zz2 kz htv
  go_wp2_with fail
  rw [← Hwz.out]
  exact bodyPost_ret (v:=.tuple #[.agg #[.int .i64 T.kind,.int .i64 T.n,.string T.name,.slice ra2 T.r.length rc2,.slice ka2 T.kids.length kc2,.slice sa2 T.sys.length sc2],.int .i64 (er)]) (by simp only [results,Tryz.results71];simp [go_sem,h0,h1,h2,h3,h4,h5]) rfl ⟨_,by rw [Hf.out.1],by rw [Hf.out.2];exact HTm.out,bz⟩
 ·have Hf:Hid (apE e0 ⟨0,0,fr,by_⟩ t=e0∧apT e0 ⟨0,0,fr,by_⟩ t=zeroT):=⟨by rw [HA.out.1,if_neg hz],by rw [HA.out.2,if_neg hz]⟩
  have hz1:(e0 == 0)=false:=by simpa using hz
  have hsz:=Hs1.out
  clear HA HE HOk hLA
  have zz:=HZ.out w2 b2
  have zz2:=zz.set6 (.int .i64 0) (.int .i64 0) (.string ⟨#[]⟩) (.slice none 0 0) (.slice none 0 0) (.slice none 0 0)
  obtain⟨o0,o1,o2,o3,o4,o5,ff⟩:=zz.cells
  have f0:=ff 0
  have f1:=ff 1
  have f2:=ff 2
  have f3:=ff 3
  have f4:=ff 4
  have f5:=ff 5
  obtain⟨h0,h1,h2,h3,h4,h5,_⟩:=zz2.cells
  obtain⟨wz,hwz⟩:∃ W,W=(((((w2.setCell ⟨X+1,0,none⟩ (.int .i64 0)).setCell ⟨X+1,1,none⟩ (.int .i64 0)).setCell ⟨X+1,2,none⟩ (.string ⟨#[]⟩)).setCell ⟨X+1,3,none⟩ (.slice none 0 0)).setCell ⟨X+1,4,none⟩ (.slice none 0 0)).setCell ⟨X+1,5,none⟩ (.slice none 0 0):=⟨_,rfl⟩
  rw [← hwz] at h0 h1 h2 h3 h4 h5
  have kz:Kn (fun q=>q≠X+1) w2 wz:=by rw [hwz];exact (((((kn_set _ _ _ _).trans (kn_set _ _ _ _)).trans (kn_set _ _ _ _)).trans (kn_set _ _ _ _)).trans (kn_set _ _ _ _)).trans (kn_set _ _ _ _)
  have bz:Below X w wz:=(HB.out w2 b2).trans (kz.below (fun q hq=>by omega) (by have:=(HB.out w2 b2).size;have:=HXs.out;omega))
  have Hwz:Hid (_=_):=hwz
  clear hwz ff zz zz2 kz
  go_wp2_with fail
  rw [← Hwz.out]
  exact bodyPost_ret (v:=.tuple #[.agg #[.int .i64 0,.int .i64 0,.string ⟨#[]⟩,.slice none 0 0,.slice none 0 0,.slice none 0 0],.int .i64 (e0)]) (by simp only [results,Tryz.results71];simp [go_sem,h0,h1,h2,h3,h4,h5]) rfl ⟨_,by rw [Hf.out.1],by rw [Hf.out.2];exact zeroT_in _ _,bz⟩
def sf (a b:Int):Sf:=⟨0,a,0,b⟩
theorem map_congr_mem {α β:Type} {f g:α→β} {l:List α} (h:∀ x∈l,f x=g x):l.map f=l.map g:=List.map_congr_left h
theorem zip_mem {l:List Tm} {p:Tm × Nat} (h:p∈l.zipIdx):p.1∈l:=List.mem_of_getElem? (List.mem_zipIdx_iff_getElem?.1 h)
theorem numV_sf (a b:Int) (bv:Nat) (k n:Int):numV (sf a b) bv k n=if k=1∧0≤n - (bv:Int) then n+a else n:=by
 have e:farB (sf a b) bv k n↔(k=1∧0≤n - (bv:Int)):=Iff.rfl
 unfold numV
 by_cases h:farB (sf a b) bv k n
 ·rw [if_pos h,if_pos (e.1 h)];rfl
 ·rw [if_neg h,if_neg (fun g=>h (e.2 g))]
theorem li_zero:∀ (n:Nat) (t:Tm) (bv bd:Nat),blk t≤n→liT (sf 0 0) t bv bd=t
 | 0,t,bv,bd,hn=>by have:=blk_pos t;omega
 | n+1,t,bv,bd,hn=>by
  rw [li_eq,rowP_zero (s:=sf 0 0) rfl]
  have e1:numV (sf 0 0) bv t.kind t.n=t.n:=by rw [numV_sf];split <;> omega
  have e2:liK (sf 0 0) t.kind t.kids bv bd=t.kids:=by
   unfold liK
   have:t.kids.zipIdx.map (fun p=>liT (sf 0 0) p.1 (bv+bvK t.kind p.2) (bd+bdK t.kind p.2))=t.kids.zipIdx.map Prod.fst:=map_congr_mem fun p hp=>li_zero n p.1 _ _ (by have:=blk_kid (zip_mem hp);omega)
   rw [this]
   refine List.ext_getElem? fun i=>?_
   simp only [List.getElem?_map,List.getElem?_zipIdx]
   cases t.kids[i]? <;> simp
  have e3:(t.sys.map fun b=>liB (sf 0 0) t.kind b bv bd)=t.sys:=by
   have:(t.sys.map fun b=>liB (sf 0 0) t.kind b bv bd)=t.sys.map id:=map_congr_mem fun b hb=>by
    unfold liB
    rw [rowP_zero (s:=sf 0 0) rfl]
    have:(b.2.map fun x=>liT (sf 0 0) x bv (bd+moreK t.kind))=b.2.map id:=map_congr_mem fun x hx=>li_zero n x _ _ (by have:=blk_sub hb hx;omega)
    rw [this];simp
   rw [this];simp
  rw [e1,e2,e3]
  cases t
  rfl
theorem up_inj {fr by_:Int} (hb:0≤by_) {a b:Nat} (h:upK fr by_ a=upK fr by_ b):a=b:=by
 rcases Nat.lt_trichotomy a b with h1|h1|h1
 ·have:=upK_lt (from_:=fr) hb h1;omega
 ·exact h1
 ·have:=upK_lt (from_:=fr) hb h1;omega
theorem liftN_bit {s:Nat} {fr by_:Int} (h:liftE s fr by_=0) (k:Nat):(liftN s fr by_).testBit k=true→∃ j∈dimsOf s,upK fr by_ j=k:=by
 intro hk
 cases ha:argB fr by_ with
 | true=>rw [(lift_arg ha).1] at hk;simp at hk
 | false =>
  cases hb:liftBad fr by_ (dimsOf s) with
  | true=>rw [(lift_bad ha hb).1] at hk;simp at hk
  | false =>
   rw [(lift_ok ha hb).1] at hk
   have:k∈(dimsOf s).map (upK fr by_):=by rw [testBit_orAll] at hk;simpa using hk
   obtain⟨j,hj,e⟩:=List.mem_map.1 this
   exact⟨j,hj,e⟩
theorem okC_lift {c:C} {fr by_:Int} (hb:0≤by_) (h:okC c=true):okC (liftC c fr by_)=true:=by
 unfold okC at *
 rw [Bool.not_eq_true',Bool.eq_false_iff] at *
 intro hc
 apply h
 rw [clashC_iff] at hc ⊢
 obtain⟨k,hk,h1,h2⟩:=hc
 unfold liftC at h1 h2
 by_cases hr:rightC c=true∧liftE c.1.val fr by_=0∧liftE c.2.val fr by_=0
 ·rw [if_pos hr] at h1 h2
  obtain⟨j1,m1,e1⟩:=liftN_bit hr.2.1 k h1
  obtain⟨j2,m2,e2⟩:=liftN_bit hr.2.2 k h2
  obtain rfl:=up_inj hb (e1.trans e2.symm)
  rw [mem_dimsOf] at m1 m2
  exact⟨j1,m1.1,m1.2,m2.2⟩
 ·rw [if_neg hr] at h1
  simp [cl00] at h1
theorem liftS_mem {fr by_:Int}:∀ (l:List C) (c:C),c∈(liftS l fr by_).1→∃ d∈l,c=liftC d fr by_:=by
 intro l
 induction l using snoc_ind with
 | nil=>intro c hc;simp [liftS] at hc
 | snoc l d ih =>
  intro c hc
  rw [liftS_snoc] at hc
  unfold stepL at hc
  split at hc
  ·split at hc
   ·rcases List.mem_append.1 hc with hc|hc
    ·obtain⟨x,hx,e⟩:=ih c hc
     exact⟨x,by simp [hx],e⟩
    ·exact⟨d,by simp,by simpa using hc⟩
   ·simp at hc
  ·obtain⟨x,hx,e⟩:=ih c hc
   exact⟨x,by simp [hx],e⟩
theorem rowP_rightA {s:Sf} (hs:0≤s.db) (bd:Nat) {r:List C} (h:rightA r=true):rightA (rowP s bd r).1=true:=by
 unfold rowP
 split
 ·exact h
 ·unfold liftFF
  rw [if_pos (rightA_right h)]
  split
  ·refine rightA_least fun c hc=>?_
   obtain⟨d,hd,rfl⟩:=liftS_mem r c hc
   exact okC_lift hs ((rightA_iff.1 h).2 d hd)
  ·exact rightA_nil
def sv (p:Int):Sf:=⟨p,1,0,0⟩
def sd (p:Int):Sf:=⟨0,0,p,1⟩
theorem ok_kid {o:Bool} {V:Int} {D:Nat} {t:Tm} {bv bd i:Nat} {x:Tm} (h:okT o V D t bv bd=true) (hx:t.kids[i]? = some x):okT o V D x (bv+bvK t.kind i) (bd+bdK t.kind i)=true:=by
 rw [ok_eq,Bool.and_eq_true,List.all_eq_true] at h
 exact h.2 _ (pts_kid hx)
theorem ok_sub {o:Bool} {V:Int} {D:Nat} {t:Tm} {bv bd:Nat} {b:List C × List Tm} {x:Tm} (h:okT o V D t bv bd=true) (hb:b∈t.sys) (hx:x∈b.2):okT o V D x bv (bd+moreK t.kind)=true:=by
 rw [ok_eq,Bool.and_eq_true,List.all_eq_true] at h
 exact h.2 _ (pts_sys hb hx)
theorem pts_li {s:Sf} {t:Tm} {bv bd:Nat} {q:Tm × Nat × Nat} (h:q∈(liT s t bv bd).pts):(∃ i x,t.kids[i]? = some x∧q=(liT s x (bv+bvK t.kind i) (bd+bdK t.kind i),bvK t.kind i,bdK t.kind i))∨∃ b∈t.sys,∃ x∈b.2,q=(liT s x bv (bd+moreK t.kind),0,moreK t.kind):=by
 have hc:=li_eq s t bv bd
 rcases mem_pts h with ⟨i,hi,e⟩|⟨b,hb,hx,e⟩
 ·rw [hc] at hi e
  dsimp only at hi e
  obtain⟨x,hx⟩:=someL (l:=t.kids) (k:=i) (by have:=some_lt hi;rwa [liK_len] at this)
  rw [liK_get hx] at hi
  injection hi with hi
  exact .inl ⟨i,x,hx,by rw [hi,← e]⟩
 ·rw [hc] at hb e
  dsimp only at hb e
  obtain⟨c,hcm,rfl⟩:=List.mem_map.1 hb
  obtain⟨x,hxm,e2⟩:=List.mem_map.1 hx
  exact .inr ⟨c,hcm,x,hxm,by rw [e2,← e]⟩
theorem rightC_lift (c:C) (fr by_:Int):rightC (liftC c fr by_)=true:=by
 unfold liftC
 split
 ·have h1:=liftN_lt c.1.val fr by_
  have h2:=liftN_lt c.2.val fr by_
  exact rightC_iff.2 ⟨h1,h2⟩
 ·decide
theorem row_in {p:Int} (bd:Nat) {r:List C} {k:Nat} (hk:inF (rowP (sd p) bd r).1 k=true):∃ j,j<24∧inF r j=true∧k=upK (min p 24+bd) 1 j:=by
 have e:rowP (sd p) bd r=liftFF r (min p 24+bd) 1:=by unfold rowP;rw [if_neg (show ¬ (sd p).db=0 from (by decide:¬ (1:Int)=0))];rfl
 rw [e] at hk
 unfold inF at hk
 obtain⟨c,hc,hb⟩:=List.any_eq_true.1 hk
 have hm:∃ d∈r,c=liftC d (min p 24+bd) 1:=by
  unfold liftFF at hc
  by_cases h1:rightF r=true
  ·rw [if_pos h1] at hc
   by_cases h2:(liftS r (min p 24 + ↑bd) 1).2=0
   ·rw [if_pos h2] at hc
    exact liftS_mem r c (leastF_sub c hc)
   ·rw [if_neg h2] at hc;simp at hc
  ·rw [if_neg h1] at hc;simp at hc
 obtain⟨d,hd,rfl⟩:=hm
 unfold liftC at hb
 by_cases hr:rightC d=true∧liftE d.1.val (min p 24+bd) 1=0∧liftE d.2.val (min p 24+bd) 1=0
 ·rw [if_pos hr] at hb
  rw [Bool.or_eq_true] at hb
  rcases hb with hb|hb
  ·obtain⟨j,hj,e⟩:=liftN_bit hr.2.1 k hb
   rw [mem_dimsOf] at hj
   exact⟨j,hj.1,List.any_eq_true.2 ⟨d,hd,by rw [hj.2];rfl⟩,e.symm⟩
  ·obtain⟨j,hj,e⟩:=liftN_bit hr.2.2 k hb
   rw [mem_dimsOf] at hj
   exact⟨j,hj.1,List.any_eq_true.2 ⟨d,hd,by rw [hj.2];simp⟩,e.symm⟩
 ·rw [if_neg hr] at hb
  simp [cl00] at hb
theorem row_free {p:Int} (hp:0≤p) (hp2:p<24) (bd:Nat) (r:List C):(dimsN (rowP (sd p) bd r).1).testBit (p.toNat+bd)=false:=by
 rw [dimsN_bit,Bool.eq_false_iff]
 intro h
 rw [Bool.and_eq_true] at h
 obtain⟨j,_,_,e⟩:=row_in bd h.2
 unfold upK at e
 split at e <;> omega
theorem ok_row {o:Bool} {V:Int} {D:Nat} {t:Tm} {bv bd:Nat} (h:okT o V D t bv bd=true):rightF t.r=true:=by
 rw [ok_eq,Bool.and_eq_true] at h
 have h1:=h.1
 unfold Tm.node nodeB at h1
 simp only [Bool.and_eq_true] at h1
 have h2:=h1.1.2
 unfold rowB at h2
 split at h2
 ·simp only [Bool.and_eq_true] at h2;exact h2.1
 ·split at h2
  ·simp only [Bool.and_eq_true] at h2;exact rightA_right h2.1
  ·have h3:t.r=[]:=List.length_eq_zero_iff.1 (by simpa using h2)
   rw [h3];exact rightF_nil
theorem ok_face {o:Bool} {V:Int} {D:Nat} {t:Tm} {bv bd:Nat} {b:List C × List Tm} (h:okT o V D t bv bd=true) (hb:b∈t.sys):rightA b.1=true:=by
 rw [ok_eq,Bool.and_eq_true] at h
 have h1:=h.1
 unfold Tm.node nodeB at h1
 simp only [Bool.and_eq_true] at h1
 have h2:=List.all_eq_true.1 h1.2 (b.1,b.2.length) (List.mem_map.2 ⟨b,hb,rfl⟩)
 unfold brB at h2
 simp only [Bool.and_eq_true] at h2
 exact h2.1.2
theorem hs_sd {p:Int} (hp:0≤p) (hp2:p<24):∀ (n:Nat) (t:Tm) (bv bd:Nat),blk t≤n→hsT (liT (sd p) t bv bd) (p.toNat+bd)=false
 | 0,t,bv,bd,hn=>by have:=blk_pos t;omega
 | n+1,t,bv,bd,hn=>by
  have hc:=li_eq (sd p) t bv bd
  rw [hs_eq,Bool.or_eq_false_iff,Bool.or_eq_false_iff]
  refine⟨⟨?_,?_⟩,?_⟩
  ·rw [hc];exact row_free hp hp2 bd t.r
  ·rw [hc];dsimp only
   rw [Bool.eq_false_iff,ne_eq,List.any_eq_true]
   rintro⟨b,hb,hu⟩
   obtain⟨c,hcm,rfl⟩:=List.mem_map.1 hb
   have:(dimsN (rowP (sd p) bd c.1).1).testBit (p.toNat+bd)=true:=hu
   rw [row_free hp hp2] at this
   cases this
  ·rw [Bool.eq_false_iff,ne_eq,List.any_eq_true]
   rintro⟨q,hq,hu⟩
   rcases pts_li hq with ⟨i,x,hx,rfl⟩|⟨b,hb,x,hx,rfl⟩
   ·dsimp only at hu
    rw [Nat.add_assoc,hs_sd hp hp2 n x _ _ (by have:=blk_kid (List.mem_of_getElem? hx);omega)] at hu
    cases hu
   ·dsimp only at hu
    rw [Nat.add_assoc,hs_sd hp hp2 n x _ _ (by have:=blk_sub hb hx;omega)] at hu
    cases hu
end Go.Proofs.YtmblbmdchinflaaGreat
