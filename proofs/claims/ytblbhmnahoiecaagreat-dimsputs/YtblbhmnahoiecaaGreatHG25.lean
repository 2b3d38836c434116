/- A part of the proof. -/
import Derived.Test.YtblbhmnahoiecaaGreatHYDmC
import Derived.Test.YtblbhmnahoiecaaGreatHFD
set_option linter.unusedVariables false
set_option linter.unusedSimpArgs false
set_option maxRecDepth 100000
set_option maxHeartbeats 4000000
namespace Go.Proofs.YtblbhmnahoiecaaGreat
open Go.RowKit
theorem mkfd (fn:Fn) (first cap:Array Value) (w:World):(Instr.makeFunc fn first cap).run Tryz.prog w=.ok (.func fn first cap) w:=rfl
theorem assert_dno (v:Value) (w:World):(Instr.typeAssert (.iface 30 v) 20 30 false).run Tryz.prog w=.ok v w:=by
 simp [Instr.typeAssert,run_underlying Tryz.underlying30]
theorem dcatch_panicking (q:Nat) (a x:Int) (older:List PanicEntry) (w:World) (hq:q<w.heap.size) (c0:w.cell? ⟨q,0,none⟩=some (.int .i64 a)) (z0:w.frozen? ⟨q,0,none⟩=false) :
  CallsD Tryz.prog 109 #[.pointer (some ⟨q,0,none⟩)] (.panicking ({ v:=.iface 30 (.int .i64 x),recovered:=false } :: older)) w fun e u' w' =>
   e=.returned (.tuple #[])/\u'=.panicking ({ v:=.iface 30 (.int .i64 x),recovered:=true } :: older)/\w'=w.setCell ⟨q,0,none⟩ (.int .i64 x):=by
 refine callsD_of_wpS Tryz.func109 rfl fun c₀ cs hu=>?_
 apply wpS_seq
 apply wpS_region
 simp [wpOpsS,go_sem,recoverD,hu,Tryz.ntmps109,Exit.thenS]
 refine wpS_of_wp ?_
 change Code.wp Tryz.prog _ _ { tmps:=#[.pointer (some ⟨q,0,none⟩),.iface 30 (.int .i64 x),.iface 30 (.int .i64 x),undef,undef,undef,undef],defers:=[] } w
 have hta:=fun w=>assert_dno (.int .i64 x) w
 go_wp2_with fail
 simp +zetaDelta [bodyPostS,results,Tryz.results109]
theorem dcatch_idle (q:Nat) (w:World) :
  CallsD Tryz.prog 109 #[.pointer (some ⟨q,0,none⟩)] .returning w fun e u' w'=>e=.returned (.tuple #[])/\u'=.returning/\w'=w:=by
 refine callsD_of_wpS Tryz.func109 rfl fun c₀ cs hu=>?_
 apply wpS_seq
 apply wpS_region
 simp [wpOpsS,go_sem,recoverD,hu,Tryz.ntmps109,Exit.thenS]
 refine wpS_of_wp ?_
 change Code.wp Tryz.prog _ _ { tmps:=#[.pointer (some ⟨q,0,none⟩),.nilIface,.nilIface,undef,undef,undef,undef],defers:=[] } w
 go_wp2_with fail
 cases c₀
 simp_all +zetaDelta [bodyPostS,results,Tryz.results109]
def noT:Tm:=.mk 0 0 ⟨#[]⟩ [] [] []
theorem noT_in (ok:Nat->Prop) (w:World):TmIn ok w noT (.agg #[.int .i64 0,.int .i64 0,.string ⟨#[]⟩,.slice none 0 0,.slice none 0 0,.slice none 0 0]) :=
 TmIn.mk 0 0 ⟨#[]⟩ [] [] [] _ _ _ (by unfold I64;omega) (by unfold I64;omega) (cl_nil _ _) (kt_nil _ _ _) (sy_nil _ _ _)
def ansD (o:DOp) (t:Tm):Tm:=if eT o t 0=0 then dT o t 0 else noT
theorem dterm_any {o:DOp} {fV cV:Value} (t:Tm) (v:Value) (w:World) (hv:TmIn Tt w t v) (hF:RowC o.fn fV w) (hC:RowC o.fc cV w) (hb:blk t<=40000) :
  Calls Tryz.prog 41 #[.agg #[fV,cV],v] w fun e w'=>∃ v',e=.returned (.tuple #[v',.int .i64 (eT o t 0)])/\TmIn (OkN w.heap.size w') w' (ansD o t) v'/\Below w.heap.size w w':=by
 obtain⟨ra,rc,ka,kc,sa,sc,rfl,ht⟩:=hv.form
 obtain⟨wa,hwa⟩:∃ W,W=((w.alloc (.cells #[fV,cV] 68)).alloc (.cells #[.int .i64 t.kind,.int .i64 t.n,.string t.name,.slice ra t.r.length rc,.slice ka t.kids.length kc,.slice sa t.sys.length sc] 26)):=⟨_,rfl⟩
 have sa':wa.heap.size=w.heap.size+2:=by rw [hwa];simp
 have ba:Below w.heap.size w wa:=by rw [hwa];exact bchain (belowA _ _) (belowA _ _)
 obtain⟨wb,hwb⟩:∃ W,W=(wa.alloc (.cells #[.int .i64 0,.int .i64 0,.string ⟨#[]⟩,.slice none 0 0,.slice none 0 0,.slice none 0 0] 26)).alloc (.cells #[.int .i64 0] 30):=⟨_,rfl⟩
 have sb':wb.heap.size=w.heap.size+4:=by rw [hwb];simp;omega
 have bb:Below wa.heap.size wa wb:=by rw [hwb];exact bchain (belowA _ _) (belowA _ _)
 obtain⟨X,hX⟩:∃ X,X=w.heap.size:=⟨_,rfl⟩
 obtain⟨w2,hw2⟩:∃ W,W=wb.alloc (.cells #[.func (.func 110) #[] #[.pointer (some ⟨X,0,none⟩),.pointer (some ⟨X+4,0,none⟩)]] 118):=⟨_,rfl⟩
 have b2:Below wb.heap.size wb w2:=by rw [hw2];exact belowA _ _
 have s2:w2.heap.size=X+5:=by rw [hw2];simp;omega
 have bw2:=bchain (bchain ba bb) b2
 have ma:wa.heap[X]? = some (.cells #[fV,cV] 68 (0,0)):=by rw [hwa,hX];exact (Below.heap_alloc _ _ _ (by simp)).trans (heapNew w _)
 have mt:wa.heap[X+1]? = some (.cells #[.int .i64 t.kind,.int .i64 t.n,.string t.name,.slice ra t.r.length rc,.slice ka t.kids.length kc,.slice sa t.sys.length sc] 26 (0,0)):=by
  rw [hwa,hX];have:=heapNew (w.alloc (.cells #[fV,cV] 68)) (.cells #[.int .i64 t.kind,.int .i64 t.n,.string t.name,.slice ra t.r.length rc,.slice ka t.kids.length kc,.slice sa t.sys.length sc] 26);rwa [World.size_alloc] at this
 have mr:Six wb (X+2) (.int .i64 0) (.int .i64 0) (.string ⟨#[]⟩) (.slice none 0 0) (.slice none 0 0) (.slice none 0 0):=⟨by
  rw [hwb];refine (Below.heap_alloc _ _ _ (by simp;omega)).trans ?_
  have:=heapNew wa (.cells #[.int .i64 0,.int .i64 0,.string ⟨#[]⟩,.slice none 0 0,.slice none 0 0,.slice none 0 0] 26);rwa [sa',<- hX] at this⟩
 have me:wb.heap[X+3]? = some (.cells #[.int .i64 0] 30 (0,0)):=by
  rw [hwb];have:=heapNew (wa.alloc (.cells #[.int .i64 0,.int .i64 0,.string ⟨#[]⟩,.slice none 0 0,.slice none 0 0,.slice none 0 0] 26)) (.cells #[.int .i64 0] 30);rwa [World.size_alloc,sa',<- hX] at this
 have mf:w2.heap[X+4]? = some (.cells #[.func (.func 110) #[] #[.pointer (some ⟨X,0,none⟩),.pointer (some ⟨X+4,0,none⟩)]] 118 (0,0)):=by
  rw [hw2];have:=heapNew wb (.cells #[.func (.func 110) #[] #[.pointer (some ⟨X,0,none⟩),.pointer (some ⟨X+4,0,none⟩)]] 118);rwa [sb',<- hX] at this
 have bab:=bchain bb b2
 have hE:DEnv w2 fV cV X (X+4):=⟨(bab.block X (by omega)).trans ma,mf⟩
 have h6:Cs6 w2 (X+1) 0 t ra rc ka kc sa sc:=cs6_of ((bab.block (X+1) (by omega)).trans mt)
 have cc:Calls Tryz.prog 110 #[.pointer (some ⟨X+1,0,none⟩),.int .i64 0,.pointer (some ⟨X,0,none⟩),.pointer (some ⟨X+4,0,none⟩)] w2 fun e w'=>LOut (eT o t 0) (TmIn (OkN w2.heap.size w') w' (dT o t 0)) e/\Below w2.heap.size w2 w' :=
  dv_any _ t 0 (X+1) 0 X (X+4) fV cV ra rc ka kc sa sc w2 hE (hF.blw bw2) (hC.blw bw2) h6 (ht.blw bw2) (Nat.le_refl _) (by omega) hb
 have HZ2:Hid (∀ W,Below w2.heap.size w2 W->Six W (X+2) (.int .i64 0) (.int .i64 0) (.string ⟨#[]⟩) (.slice none 0 0) (.slice none 0 0) (.slice none 0 0)/\W.heap[X+3]? = some (.cells #[.int .i64 0] 30 (0,0))):=fun W q=>by
  have q2:=bchain b2 q
  exact⟨mr.blw q2,(q2.block (X+3) (by omega)).trans me⟩
 have HB:Hid (∀ W,Below w2.heap.size w2 W->Below X w W):=fun W q=>by rw [hX];exact bchain bw2 q
 have HA:Hid (ansD o t=if eT o t 0=0 then dT o t 0 else noT):=(rfl:_=_)
 obtain⟨er,her⟩:∃ e,e=eT o t 0:=⟨_,rfl⟩
 obtain⟨T,hT⟩:∃ T,T=dT o t 0:=⟨_,rfl⟩
 rw [<- her,<- hT] at cc HA
 rw [<- her,<- hX]
 have cf:=hE.fn
 have hmk:=mkfd
 have eg:=dv_eg
 have HW:Hid (w2=((((w.alloc (.cells #[fV,cV] 68)).alloc (.cells #[.int .i64 t.kind,.int .i64 t.n,.string t.name,.slice ra t.r.length rc,.slice ka t.kids.length kc,.slice sa t.sys.length sc] 26)).alloc (.cells #[.int .i64 0,.int .i64 0,.string ⟨#[]⟩,.slice none 0 0,.slice none 0 0,.slice none 0 0] 26)).alloc (.cells #[.int .i64 0] 30)).alloc (.cells #[.func (.func 110) #[] #[.pointer (some ⟨w.heap.size,0,none⟩),.pointer (some ⟨w.heap.size+4,0,none⟩)]] 118)):=(by rw [hw2,hwb,hwa,hX]:_=_)
 have HX:Hid (X=w.heap.size):=hX
 have Hs2:Hid (w2.heap.size=X+5):=s2
 clear hwa hwb hw2 ba bb b2 bw2 sa' sb' ma mt mr me mf bab hE h6 ht hv hF hC her hT hX s2 hb
 go_enter_defers Tryz.func41,Tryz.ntmps41
 go_upto_region 4 with fail
 rw [<- HW.out]
 simp only [<- HX.out]
 clear HW
 go_wp2_with fail
 refine cc.mono ?_
 rintro e w3 ⟨⟨h0,v3,rfl,hv3⟩ | ⟨hne,rfl⟩,hb3⟩
 ·clear cc cf
  obtain⟨ra2,rc2,ka2,kc2,sa2,sc2,rfl,ht2⟩:=hv3.form
  obtain⟨z3,e3⟩:=HZ2.out w3 hb3
  have hs2:=Hs2.out
  have hs3:=hb3.size
  obtain⟨w4,hw4⟩:∃ W,W=(((((w3.setCell ⟨X+2,0,none⟩ (.int .i64 T.kind)).setCell ⟨X+2,1,none⟩ (.int .i64 T.n)).setCell ⟨X+2,2,none⟩ (.string T.name)).setCell ⟨X+2,3,none⟩ (.slice ra2 T.r.length rc2)).setCell ⟨X+2,4,none⟩ (.slice ka2 T.kids.length kc2)).setCell ⟨X+2,5,none⟩ (.slice sa2 T.sys.length sc2):=⟨_,rfl⟩
  have k4:Kn (fun q=>q≠X+2) w3 w4:=by rw [hw4];exact (((((kn_set _ _ _ _).trans (kn_set _ _ _ _)).trans (kn_set _ _ _ _)).trans (kn_set _ _ _ _)).trans (kn_set _ _ _ _)).trans (kn_set _ _ _ _)
  have z4:=z3.set6 (.int .i64 T.kind) (.int .i64 T.n) (.string T.name) (.slice ra2 T.r.length rc2) (.slice ka2 T.kids.length kc2) (.slice sa2 T.sys.length sc2)
  rw [<- hw4] at z4
  have e4:=(k4.block (X+3) (by omega) (by omega)).trans e3
  have c40:w4.cell? ⟨X+3,0,none⟩=some (.int .i64 0):=by simp [World.cell?,e4]
  have c4f:w4.frozen? ⟨X+3,0,none⟩=false:=by simp [World.frozen?,e4]
  obtain⟨w5,hw5⟩:∃ W,W=w4.setCell ⟨X+3,0,none⟩ (.int .i64 0):=⟨_,rfl⟩
  have k5:Kn (fun q=>q≠X+3) w4 w5:=by rw [hw5];exact kn_set _ _ _ _
  have z5:=z4.kn k5 (by omega)
  have c5:w5.cell? ⟨X+3,0,none⟩=some (.int .i64 0):=by rw [hw5];exact World.cell?_setCell_same' _ _ _ (by rw [c40];rfl)
  have HTm:Hid (TmIn (OkN X w5) w5 T (.agg #[.int .i64 T.kind,.int .i64 T.n,.string T.name,.slice ra2 T.r.length rc2,.slice ka2 T.kids.length kc2,.slice sa2 T.sys.length sc2])):=by
   have hA:∀ q,OkN w2.heap.size w3 q->w5.heap[q]? = w3.heap[q]?:=fun q hq=>(k5.block q (by have:=hq.1;omega) (by have:=hq.lt;have:=k4.size;omega)).trans (k4.block q (by have:=hq.1;omega) hq.lt)
   exact ht2.value.keep (Nat.le_trans k4.size k5.size) (fun q hq=>(hq.same (hA q hq)).mono (by omega)) (fun q hq _=>hA q hq)
  have b5:Below X w w5:=((HB.out w3 hb3).trans (k4.below (fun q hq=>by omega) (by omega))).trans (k5.below (fun q hq=>by omega) (by have:=k4.size;omega))
  obtain⟨o0,o1,o2,o3,o4,o5,ff⟩:=z3.cells
  have f0:=ff 0
  have f1:=ff 1
  have f2:=ff 2
  have f3:=ff 3
  have f4:=ff 4
  have f5:=ff 5
  obtain⟨d0,d1,d2,d3,d4,d5,_⟩:=z5.cells
  have H4:Hid (_=_):=hw4
  have H5:Hid (_=_):=hw5
  have Hc4:Hid (_/\_):=(⟨c40,c4f⟩:w4.cell? ⟨X+3,0,none⟩=some (.int .i64 0)/\w4.frozen? ⟨X+3,0,none⟩=false)
  have p40:(((((((w3.setCell ⟨X+2,0,none⟩ (.int .i64 T.kind)).setCell ⟨X+2,1,none⟩ (.int .i64 T.n)).setCell ⟨X+2,2,none⟩ (.string T.name)).setCell ⟨X+2,3,none⟩ (.slice ra2 T.r.length rc2)).setCell ⟨X+2,4,none⟩ (.slice ka2 T.kids.length kc2)).setCell ⟨X+2,5,none⟩ (.slice sa2 T.sys.length sc2)).cell? ⟨X+3,0,none⟩=some (.int .i64 0)):=by rw [<- hw4];exact c40
  have p4f:(((((((w3.setCell ⟨X+2,0,none⟩ (.int .i64 T.kind)).setCell ⟨X+2,1,none⟩ (.int .i64 T.n)).setCell ⟨X+2,2,none⟩ (.string T.name)).setCell ⟨X+2,3,none⟩ (.slice ra2 T.r.length rc2)).setCell ⟨X+2,4,none⟩ (.slice ka2 T.kids.length kc2)).setCell ⟨X+2,5,none⟩ (.slice sa2 T.sys.length sc2)).frozen? ⟨X+3,0,none⟩=false):=by rw [<- hw4];exact c4f
  clear hw4 hw5 z3 z4 z5 k4 k5 ff e3 e4 ht2 hv3 c40 c4f hs2 hs3
  go_wp2_with fail
  rw [<- H4.out,<- H5.out]
  refine leaves_cons (f:=109) (args:=#[.pointer (some ⟨X+3,0,none⟩)]) (by simp) (by simp [go_sem]) ?_
  refine (dcatch_idle _ _).mono ?_
  rintro e u' w'' ⟨rfl,rfl,rfl⟩
  refine⟨.tuple #[.agg #[.int .i64 T.kind,.int .i64 T.n,.string T.name,.slice ra2 T.r.length rc2,.slice ka2 T.kids.length kc2,.slice sa2 T.sys.length sc2],.int .i64 0],by simp only [results,Tryz.results41];simp [go_sem,d0,d1,d2,d3,d4,d5,c5],_,by rw [h0],by rw [HA.out,if_pos h0];exact HTm.out,b5⟩
 ·clear cc cf
  obtain⟨z3,e3⟩:=HZ2.out w3 hb3
  have hs2:=Hs2.out
  have hs3:=hb3.size
  have c30:w3.cell? ⟨X+3,0,none⟩=some (.int .i64 0):=by simp [World.cell?,e3]
  have c3f:w3.frozen? ⟨X+3,0,none⟩=false:=by simp [World.frozen?,e3]
  refine leaves_cons (f:=109) (args:=#[.pointer (some ⟨X+3,0,none⟩)]) (by simp) (by simp [go_sem]) ?_
  refine (dcatch_panicking (X+3) 0 er [] w3 (by omega) c30 c3f).mono ?_
  rintro e u' w5 ⟨rfl,rfl,hw5⟩
  have k5:Kn (fun q=>q≠X+3) w3 w5:=by rw [hw5];exact kn_set _ _ _ _
  have z5:=z3.kn k5 (by omega)
  have c5:w5.cell? ⟨X+3,0,none⟩=some (.int .i64 er):=by rw [hw5];exact World.cell?_setCell_same' _ _ _ (by rw [c30];rfl)
  have b5:Below X w w5:=(HB.out w3 hb3).trans (k5.below (fun q hq=>by omega) (by omega))
  obtain⟨d0,d1,d2,d3,d4,d5,_⟩:=z5.cells
  refine⟨.tuple #[.agg #[.int .i64 0,.int .i64 0,.string ⟨#[]⟩,.slice none 0 0,.slice none 0 0,.slice none 0 0],.int .i64 er],by simp only [results,Tryz.results41];simp [go_sem,d0,d1,d2,d3,d4,d5,c5],_,rfl,by rw [HA.out,if_neg hne];exact noT_in _ _,b5⟩
def putRow (PF:List C->Int->List C->List C × Int) (i:Int) (r l:List C) (bd:Nat):List C × Int :=
 if hasB (dimsN l) (i+bd) then (if (liftFF r 0 bd).2=0 then PF l (i+bd) (liftFF r 0 bd).1 else ([],(liftFF r 0 bd).2)) else (l,0)
def putOp (i:Int) (r:List C):DOp:=⟨putRow putF i r,putRow ptA i r⟩
theorem liftFF_len (l:List C) (a b:Int):(liftFF l a b).1.length<=64:=by
 unfold liftFF
 split
 ·split
  ·exact leastF_len _
  ·simp
 ·simp
def PutC (PF:List C->Int->List C->List C × Int) (pf:FuncId):Prop:=∀ (l r:List C) (i:Int) (vl vr:Value) (w:World),FRow w vl l->FRow w vr r->l.length<=40000->r.length<=40000->Calls Tryz.prog pf #[vl,.int .i64 i,vr] w fun e w'=>∃ v,e=.returned (.tuple #[v,.int .i64 (PF l i r).2])/\OwnsC w' w.heap.size v (PF l i r).1/\Below w.heap.size w w'
theorem prow_any {PF:List C->Int->List C->List C × Int} {pf:FuncId} (hP:PutC PF pf) (egp:∀ args w,(callFunc pf args).run Tryz.prog w=.ok (.enter pf args) w) (i:Int) (r:List C) (vr:Value) (xi xp xr:Nat) (w:World) (hi:w.heap[xi]? = some (.cells #[.int .i64 i] 3 (0,0))) (hp:w.heap[xp]? = some (.cells #[.func (.func pf) #[] #[]] 115 (0,0))) (hr:w.heap[xr]? = some (.cells #[vr] 22 (0,0))) (hrr:ClRow Tt w r vr) (hrl:r.length<=40000) (hi0:0<=i/\i<=1000000) :
  RowC (putRow PF i r) (.func (.func 103) #[] #[.pointer (some ⟨xi,0,none⟩),.pointer (some ⟨xp,0,none⟩),.pointer (some ⟨xr,0,none⟩)]) w:=by
 refine⟨_,_,rfl,enters_of Tryz.func103 (by kernel_rfl) rfl,?_⟩
 intro l bd v W hW hl hll hbd
 have li:=(Array.getElem?_eq_some_iff.1 hi).1
 have lp:=(Array.getElem?_eq_some_iff.1 hp).1
 have lr:=(Array.getElem?_eq_some_iff.1 hr).1
 have ci:Hid (∀ V,Below W.heap.size W V->V.cell? ⟨xi,0,none⟩=some (.int .i64 i)):=fun V q=>((bchain hW q).cell (p:=⟨xi,0,none⟩) li).trans (by simp [World.cell?,hi])
 have cp:Hid (∀ V,Below W.heap.size W V->V.cell? ⟨xp,0,none⟩=some (.func (.func pf) #[] #[])):=fun V q=>((bchain hW q).cell (p:=⟨xp,0,none⟩) lp).trans (by simp [World.cell?,hp])
 have cr:Hid (∀ V,Below W.heap.size W V->V.cell? ⟨xr,0,none⟩=some vr):=fun V q=>((bchain hW q).cell (p:=⟨xr,0,none⟩) lr).trans (by simp [World.cell?,hr])
 have hdlt:=dimsN_lt32 l
 have cD:Hid (∀ V,Below W.heap.size W V->Calls Tryz.prog 30 #[v] V fun e w'=>e=.returned (.int .u32 ((dimsN l:Nat):Int))/\Below V.heap.size V w'):=fun V q=>Dims_any l v V (hl.blw q).row (by omega)
 have cL:Hid (∀ V,Below W.heap.size W V->Calls Tryz.prog 45 #[vr,.int .i64 0,.int .i64 (bd:Int)] V fun e w'=>∃ v,e=.returned (.tuple #[v,.int .i64 (liftFF r 0 bd).2])/\OwnsC w' V.heap.size v (liftFF r 0 bd).1/\Below V.heap.size V w'):=fun V q=>Lift_any r 0 bd vr V ((hrr.blw hW).blw q).frow hrl
 have cC:Hid (∀ V,Below W.heap.size W V->Calls Tryz.prog 105 #[v] V fun e w'=>∃ v',e=.returned v'/\OwnsC w' V.heap.size v' l/\Below V.heap.size V w'):=fun V q=>clone_any l v V (hl.blw q) (by omega)
 have cP:Hid (∀ V vq,Below W.heap.size W V->FRow V vq (liftFF r 0 bd).1->Calls Tryz.prog pf #[v,.int .i64 (i+(bd:Int)),vq] V fun e w'=>∃ v,e=.returned (.tuple #[v,.int .i64 (PF l (i+bd) (liftFF r 0 bd).1).2])/\OwnsC w' V.heap.size v (PF l (i+bd) (liftFF r 0 bd).1).1/\Below V.heap.size V w'):=fun V vq q hq=>hP l (liftFF r 0 bd).1 (i+bd) v vq V (hl.blw q).frow hq hll (by have:=liftFF_len r 0 bd;omega)
 have HQ:Hid (putRow PF i r l bd=if hasB (dimsN l) (i+bd) then (if (liftFF r 0 bd).2=0 then PF l (i+bd) (liftFF r 0 bd).1 else ([],(liftFF r 0 bd).2)) else (l,0)):=(rfl:_=_)
 obtain⟨PR,hPR⟩:∃ P,P=putRow PF i r l bd:=⟨_,rfl⟩
 rw [<- hPR] at HQ ⊢
 obtain⟨LF,hLF⟩:∃ L,L=liftFF r 0 bd:=⟨_,rfl⟩
 rw [<- hLF] at HQ cL cP
 have wr2:IntKind.i64.wrap (i+(bd:Int))=i+(bd:Int):=by simp [IntKind.wrap,IntKind.bits,IntKind.signed];omega
 obtain⟨va,vc,rfl,_⟩:=id hl
 obtain⟨rva,rvc,rfl,_⟩:=id hrr
 obtain⟨LL,hLL⟩:∃ L,L=l.length:=⟨_,rfl⟩
 obtain⟨LR,hLR⟩:∃ L,L=r.length:=⟨_,rfl⟩
 rw [<- hLL] at cD cC cP
 rw [<- hLR] at cr cL
 simp only [<- hLL]
 obtain⟨DN,hDN⟩:∃ d,d=dimsN l:=⟨_,rfl⟩
 rw [<- hDN] at cD HQ hdlt
 clear hPR hLF hW hl hrr hi hp hr li lp lr hP hLL hLR hDN
 show Calls Tryz.prog 103 #[.slice va LL vc,.int .i64 (bd:Int),.pointer (some ⟨xi,0,none⟩),.pointer (some ⟨xp,0,none⟩),.pointer (some ⟨xr,0,none⟩)] W _
 go_enter Tryz.func103,Tryz.ntmps103
 go_upto_region 1 with fail
 have hS1:Below W.heap.size W W:=Below.refl _ _
 go_cut [14] (fun s wx=>s=.bool (!hasB DN (i+bd))/\Below W.heap.size W wx)
 case first=>as_aux_lemma =>
  refine wp_region_held_drew (S:=fun V=>Below W.heap.size W V) (by kernel_rfl) (hS1.drew) (fun hS=>?_)
  obtain⟨wd,hwd⟩:∃ V,V=W.drew:=⟨_,rfl⟩
  rw [<- hwd] at hS ⊢
  clear hwd
  refine zk 0 (.slice va LL vc) rfl (by rfl) (fun w hS=>by go_simp) hS ?_
  try simp only [Act.put,zg1,zg2,zg3,zs1,zs2,zs3]
  refine zk 2 (.int .i64 i) rfl (by rfl) (fun w hS=>by have e:=ci.out w hS;go_simp) hS ?_
  try simp only [Act.put,zg1,zg2,zg3,zs1,zs2,zs3]
  refine zk 3 (.int .i64 (bd:Int)) rfl (by rfl) (fun w hS=>by go_simp) hS ?_
  try simp only [Act.put,zg1,zg2,zg3,zs1,zs2,zs3]
  refine zk 4 (.int .i64 (i+(bd:Int))) rfl (by rfl) (fun w hS=>by have e2:=wr2;go_simp) hS ?_
  try simp only [Act.put,zg1,zg2,zg3,zs1,zs2,zs3]
  refine zr 1 rfl (fun KK hKK=>?_)
  refine⟨?_⟩
  have cc:=cD.out wd hS
  go_simp
  refine cc.mono ?_
  rintro e w2 ⟨rfl,hb2⟩
  have hS2:Below W.heap.size W w2:=hS.trans (hb2.mono hS.size)
  clear cc
  refine hKK.out _ _ hS2 (fun hS=>?_)
  clear hKK KK
  try simp only [Act.put,zg1,zg2,zg3,zs1,zs2,zs3]
  refine zr 5 rfl (fun KK hKK=>?_)
  refine⟨?_⟩
  have cc:=has_any DN (i+(bd:Int)) w2 hdlt
  go_simp
  refine cc.mono ?_
  rintro e w3 ⟨rfl,hw3⟩
  replace hw3:=hw3.symm
  subst hw3
  clear cc
  refine hKK.out _ _ hS (fun hS=>?_)
  clear hKK KK
  try simp only [Act.put,zg1,zg2,zg3,zs1,zs2,zs3]
  refine zk 6 (.bool (!hasB DN (i+bd))) rfl (by rfl) (fun w hS=>by go_simp) hS ?_
  try simp only [Act.put,zg1,zg2,zg3,zs1,zs2,zs3]
  refine wpAnyH_done (by kernel_rfl) ?_ _
  go_wp2_with fail
  go_meet
  exact⟨rfl,hS⟩
 case rest =>
 obtain⟨rfl,hS1⟩:=hcut
 obtain⟨w1,hw1⟩:∃ V,V=wc:=⟨_,rfl⟩
 subst hw1
 cases hh:hasB DN (i+bd)
 ·have hq:PR=(l,0):=by rw [HQ.out,hh];rfl
  subst hq
  have cc:=cC.out w1 hS1
  clear cD cL cP HQ
  go_wp2_with fail
  refine cc.mono ?_
  rintro e w2 ⟨v2,rfl,hO2,hb2⟩
  clear cc
  have hO3:=OwnsC.mono hO2 hS1.size
  have hb3:=hS1.trans (hb2.mono hS1.size)
  obtain⟨a2,c2,rfl⟩:=OwnsC.len hO3
  go_wp2_with fail
  go_ret
  exact⟨.ok rfl hO3,hb3⟩
 ·have hq:PR=if LF.2=0 then PF l (i+bd) LF.1 else ([],LF.2):=by rw [HQ.out,hh];rfl
  have HP1:Hid (LF.2≠0->PR.2=LF.2):=fun h=>by rw [hq,if_neg h]
  have HP0:Hid (LF.2=0->PR=PF l (i+bd) LF.1):=fun h=>by rw [hq,if_pos h]
  clear hq HQ cD cC
  go_upto_region 3 with fail
  refine wp_region_held_drew (S:=fun V=>Below W.heap.size W V) (by kernel_rfl) (hS1.drew) (fun hS=>?_)
  obtain⟨wd,hwd⟩:∃ V,V=w1.drew:=⟨_,rfl⟩
  rw [<- hwd] at hS ⊢
  clear hwd
  refine zk 0 (.func (.func pf) #[] #[]) rfl (by rfl) (fun w hS=>by have e:=cp.out w hS;go_simp) hS ?_
  try simp only [Act.put,zg1,zg2,zg3,zs1,zs2,zs3]
  refine zk 1 (.slice va LL vc) rfl (by rfl) (fun w hS=>by go_simp) hS ?_
  try simp only [Act.put,zg1,zg2,zg3,zs1,zs2,zs3]
  refine zk 2 (.int .i64 i) rfl (by rfl) (fun w hS=>by have e:=ci.out w hS;go_simp) hS ?_
  try simp only [Act.put,zg1,zg2,zg3,zs1,zs2,zs3]
  refine zk 3 (.int .i64 (bd:Int)) rfl (by rfl) (fun w hS=>by go_simp) hS ?_
  try simp only [Act.put,zg1,zg2,zg3,zs1,zs2,zs3]
  refine zk 4 (.int .i64 (i+(bd:Int))) rfl (by rfl) (fun w hS=>by have e2:=wr2;go_simp) hS ?_
  try simp only [Act.put,zg1,zg2,zg3,zs1,zs2,zs3]
  refine zk 5 (.slice rva LR rvc) rfl (by rfl) (fun w hS=>by have e:=cr.out w hS;go_simp) hS ?_
  try simp only [Act.put,zg1,zg2,zg3,zs1,zs2,zs3]
  refine zk 6 (.int .i64 (bd:Int)) rfl (by rfl) (fun w hS=>by go_simp) hS ?_
  try simp only [Act.put,zg1,zg2,zg3,zs1,zs2,zs3]
  refine zr 7 rfl (fun KK hKK=>?_)
  refine⟨?_⟩
  have cc:=cL.out wd hS
  go_simp
  refine cc.mono ?_
  rintro e w2 ⟨v2,rfl,hO2,hb2⟩
  have hS2:Below W.heap.size W w2:=hS.trans (hb2.mono hS.size)
  obtain⟨a2,c2,rfl⟩:=OwnsC.len hO2
  obtain⟨L2,hL2⟩:∃ L,L=LF.1.length:=⟨_,rfl⟩
  rw [<- hL2] at hO2 ⊢
  obtain⟨e2,he2⟩:∃ e,e=LF.2:=⟨_,rfl⟩
  rw [<- he2] at HP1 HP0 ⊢
  have hF2:=OwnsC.frow hO2
  clear cc hL2 he2
  refine hKK.out _ _ hS2 (fun hS=>?_)
  clear hKK KK
  try simp only [Act.put,zg1,zg2,zg3,zs1,zs2,zs3]
  refine zk 8 (.slice a2 L2 c2) rfl (by rfl) (fun w hS=>by go_simp) hS ?_
  try simp only [Act.put,zg1,zg2,zg3,zs1,zs2,zs3]
  refine zk 9 (.int .i64 e2) rfl (by rfl) (fun w hS=>by go_simp) hS ?_
  try simp only [Act.put,zg1,zg2,zg3,zs1,zs2,zs3]
  refine zr 10 rfl (fun KK hKK=>?_)
  refine⟨?_⟩
  have cc:=told_any (.slice a2 L2 c2) e2 w2 (fun v=>v=.slice a2 L2 c2) (fun _=>rfl)
  go_simp
  refine cc.mono ?_
  rintro e w3 ⟨⟨h0,v3,rfl,rfl⟩ | ⟨hne,rfl⟩,hw3⟩
  rotate_left
  ·rw [hw3]
   exact⟨rfl,.inr ⟨by rw [HP1.out hne];exact hne,by rw [HP1.out hne]⟩,hS⟩
  replace hw3:=hw3.symm
  subst hw3
  subst h0
  have HP2:Hid (PR=PF l (i+bd) LF.1):=HP0.out rfl
  clear cc HP0 HP1
  refine hKK.out _ _ hS (fun hS=>?_)
  clear hKK KK
  try simp only [Act.put,zg1,zg2,zg3,zs1,zs2,zs3]
  refine zr 11 rfl (fun KK hKK=>?_)
  refine⟨?_⟩
  have cc:=cP.out w2 _ hS hF2
  rw [<- HP2.out] at cc
  go_simp
  refine cc.mono ?_
  rintro e w4 ⟨v4,rfl,hO4,hb4⟩
  have hS4:Below W.heap.size W w4:=hS.trans (hb4.mono hS.size)
  have hO5:=OwnsC.mono hO4 hS.size
  obtain⟨a4,c4,rfl⟩:=OwnsC.len hO5
  clear cc
  refine hKK.out _ _ hS4 (fun hS=>?_)
  clear hKK KK
  try simp only [Act.put,zg1,zg2,zg3,zs1,zs2,zs3]
  refine zk 12 (.slice a4 PR.1.length c4) rfl (by rfl) (fun w hS=>by go_simp) hS ?_
  try simp only [Act.put,zg1,zg2,zg3,zs1,zs2,zs3]
  refine zk 13 (.int .i64 PR.2) rfl (by rfl) (fun w hS=>by go_simp) hS ?_
  try simp only [Act.put,zg1,zg2,zg3,zs1,zs2,zs3]
  refine zr 14 rfl (fun KK hKK=>?_)
  refine⟨?_⟩
  have cc:=told_any (.slice a4 PR.1.length c4) PR.2 w4 (fun v=>v=.slice a4 PR.1.length c4) (fun _=>rfl)
  go_simp
  refine cc.mono ?_
  rintro e w5 ⟨⟨h0,v5,rfl,rfl⟩ | ⟨hne,rfl⟩,hw5⟩
  rotate_left
  ·rw [hw5]
   exact⟨rfl,.inr ⟨hne,rfl⟩,hS⟩
  replace hw5:=hw5.symm
  subst hw5
  have H0:Hid (PR.2=0):=h0
  clear cc h0
  refine hKK.out _ _ hS (fun hS=>?_)
  clear hKK KK
  try simp only [Act.put,zg1,zg2,zg3,zs1,zs2,zs3]
  refine zk 15 (.slice a4 PR.1.length c4) rfl (by rfl) (fun w hS=>by go_simp) hS ?_
  try simp only [Act.put,zg1,zg2,zg3,zs1,zs2,zs3]
  refine wpAnyH_done (by kernel_rfl) ?_ _
  go_wp2_with fail
  go_ret
  exact⟨.ok H0.out hO5,hS⟩
theorem fput_eg:∀ args w,(callFunc 107 args).run Tryz.prog w=.ok (.enter 107 args) w:=enters_of Tryz.func107 (by kernel_rfl) rfl
theorem aput_eg:∀ args w,(callFunc 108 args).run Tryz.prog w=.ok (.enter 108 args) w:=enters_of Tryz.func108 (by kernel_rfl) rfl
theorem mk1_eg:∀ args w,(callFunc 102 args).run Tryz.prog w=.ok (.enter 102 args) w:=enters_of Tryz.func102 (by kernel_rfl) rfl
theorem mkput_any (pf:FuncId) (xi xr:Nat) (w:World):Calls Tryz.prog 102 #[.func (.func pf) #[] #[],.pointer (some ⟨xi,0,none⟩),.pointer (some ⟨xr,0,none⟩)] w fun e w'=>e=.returned (.func (.func 103) #[] #[.pointer (some ⟨xi,0,none⟩),.pointer (some ⟨w.heap.size,0,none⟩),.pointer (some ⟨xr,0,none⟩)])/\w'=w.alloc (.cells #[.func (.func pf) #[] #[]] 115):=by
 have hmk:=mkfd
 go_enter Tryz.func102,Tryz.ntmps102
 go_wp2
 go_ret
 exact⟨rfl,rfl⟩
theorem putting_any (i:Int) (r:List C) (vr:Value) (w:World) (hrr:ClRow Tt w r vr) (hrl:r.length<=40000) (hi0:0<=i/\i<=1000000) :
  Calls Tryz.prog 40 #[.int .i64 i,vr] w fun e w'=>∃ fV cV,e=.returned (.agg #[fV,cV])/\RowC (putOp i r).fn fV w'/\RowC (putOp i r).fc cV w'/\Below w.heap.size w w':=by
 obtain⟨va,vc,rfl,_⟩:=id hrr
 obtain⟨X,hX⟩:∃ X,X=w.heap.size:=⟨_,rfl⟩
 obtain⟨w1,hw1⟩:∃ W,W=((w.alloc (.cells #[.int .i64 i] 3)).alloc (.cells #[.slice va r.length vc] 22)).alloc (.cells #[.nilFunc,.nilFunc] 68):=⟨_,rfl⟩
 have b1:Below w.heap.size w w1:=by rw [hw1];exact bchain (bchain (belowA _ _) (belowA _ _)) (belowA _ _)
 have s1:w1.heap.size=X+3:=by rw [hw1,hX];simp
 have m0:w1.heap[X]? = some (.cells #[.int .i64 i] 3 (0,0)):=by
  rw [hw1,hX];exact (Below.heap_alloc _ _ _ (by simp;omega)).trans ((Below.heap_alloc _ _ _ (by simp)).trans (heapNew w _))
 have m1:w1.heap[X+1]? = some (.cells #[.slice va r.length vc] 22 (0,0)):=by
  rw [hw1,hX]
  refine (Below.heap_alloc _ _ _ (by simp)).trans ?_
  have:=heapNew (w.alloc (.cells #[.int .i64 i] 3)) (.cells #[.slice va r.length vc] 22);rwa [World.size_alloc] at this
 have m2:w1.heap[X+2]? = some (.cells #[.nilFunc,.nilFunc] 68 (0,0)):=by
  rw [hw1,hX]
  have:=heapNew ((w.alloc (.cells #[.int .i64 i] 3)).alloc (.cells #[.slice va r.length vc] 22)) (.cells #[.nilFunc,.nilFunc] 68);rwa [World.size_alloc,World.size_alloc] at this
 obtain⟨w2,hw2⟩:∃ W,W=w1.alloc (.cells #[.func (.func 107) #[] #[]] 115):=⟨_,rfl⟩
 obtain⟨w3,hw3⟩:∃ W,W=w2.alloc (.cells #[.func (.func 108) #[] #[]] 115):=⟨_,rfl⟩
 have b2:Below w1.heap.size w1 w2:=by rw [hw2];exact belowA _ _
 have b3:Below w2.heap.size w2 w3:=by rw [hw3];exact belowA _ _
 have s2:w2.heap.size=X+4:=by rw [hw2];simp;omega
 have s3:w3.heap.size=X+5:=by rw [hw3];simp;omega
 have m3:w2.heap[X+3]? = some (.cells #[.func (.func 107) #[] #[]] 115 (0,0)):=by rw [hw2];have:=heapNew w1 (.cells #[.func (.func 107) #[] #[]] 115);rwa [s1] at this
 have m4:w3.heap[X+4]? = some (.cells #[.func (.func 108) #[] #[]] 115 (0,0)):=by rw [hw3];have:=heapNew w2 (.cells #[.func (.func 108) #[] #[]] 115);rwa [s2] at this
 obtain⟨A,hA⟩:∃ A:Value,A=.func (.func 103) #[] #[.pointer (some ⟨X,0,none⟩),.pointer (some ⟨X+3,0,none⟩),.pointer (some ⟨X+1,0,none⟩)]:=⟨_,rfl⟩
 obtain⟨B,hB⟩:∃ B:Value,B=.func (.func 103) #[] #[.pointer (some ⟨X,0,none⟩),.pointer (some ⟨X+4,0,none⟩),.pointer (some ⟨X+1,0,none⟩)]:=⟨_,rfl⟩
 obtain⟨w4,hw4⟩:∃ W,W=(w3.setCell ⟨X+2,0,none⟩ A).setCell ⟨X+2,1,none⟩ B:=⟨_,rfl⟩
 have k4:Kn (fun q=>q≠X+2) w3 w4:=by rw [hw4];exact (kn_set _ _ _ _).trans (kn_set _ _ _ _)
 have b13:=bchain b2 b3
 have n0:w3.heap[X]? = _:=(b13.block X (by omega)).trans m0
 have n1:w3.heap[X+1]? = _:=(b13.block (X+1) (by omega)).trans m1
 have n2:w3.heap[X+2]? = _:=(b13.block (X+2) (by omega)).trans m2
 have n3:w3.heap[X+3]? = _:=(b3.block (X+3) (by omega)).trans m3
 have r3:=(hrr.blw b1).blw b13
 have bw3:=bchain b1 b13
 have b4:Below w.heap.size w w4:=bw3.trans (k4.below (fun q hq=>by omega) (by omega))
 have r4:ClRow Tt w4 r (.slice va r.length vc):=hrr.blw b4
 have HA:Hid (RowC (putOp i r).fn A w4):=by
  rw [hA];exact prow_any (PF:=putF) (pf:=107) (fun l r i vl vr w h1 h2 h3 h4=>Put_any l r i vl vr w h1 h2 h3 h4) fput_eg i r _ X (X+3) (X+1) w4 ((k4.block X (by omega) (by omega)).trans n0) ((k4.block (X+3) (by omega) (by omega)).trans n3) ((k4.block (X+1) (by omega) (by omega)).trans n1) r4 hrl hi0
 have HB:Hid (RowC (putOp i r).fc B w4):=by
  rw [hB];exact prow_any (PF:=ptA) (pf:=108) (fun l r i vl vr w h1 h2 h3 h4=>APut_any l r i vl vr w h1 h2 h3 h4) aput_eg i r _ X (X+4) (X+1) w4 ((k4.block X (by omega) (by omega)).trans n0) ((k4.block (X+4) (by omega) (by omega)).trans m4) ((k4.block (X+1) (by omega) (by omega)).trans n1) r4 hrl hi0
 have c1:=mkput_any 107 X (X+1) w1
 have c2:=mkput_any 108 X (X+1) w2
 rw [<- hw2,s1,<- hA] at c1
 rw [<- hw3,s2,<- hB] at c2
 have z0:w3.cell? ⟨X+2,0,none⟩=some .nilFunc:=by simp [World.cell?,n2]
 have z1:w3.cell? ⟨X+2,1,none⟩=some .nilFunc:=by simp [World.cell?,n2]
 have f0:w3.frozen? ⟨X+2,0,none⟩=false:=by simp [World.frozen?,n2]
 have f1:w3.frozen? ⟨X+2,1,none⟩=false:=by simp [World.frozen?,n2]
 have n4:=set_blk (i:=1) (set_blk (i:=0) n2 A) B
 rw [<- hw4] at n4
 have y0:w4.cell? ⟨X+2,0,none⟩=some A:=by simp [World.cell?,n4]
 have y1:w4.cell? ⟨X+2,1,none⟩=some B:=by simp [World.cell?,n4]
 have HX:Hid (X=w.heap.size):=hX
 have H1:Hid (_=_):=hw1
 have H4:Hid (_=_):=hw4
 have hmk:=mkfd
 have eg:=mk1_eg
 clear hw1 hw2 hw3 hw4 hX m0 m1 m2 m3 m4 n0 n1 n2 n3 n4 b1 b2 b3 s1 s2 s3 b13 r3 r4 bw3 k4 hrr
 subst hA
 subst hB
 go_enter Tryz.func40,Tryz.ntmps40
 go_upto_region 2 with fail
 rw [<- H1.out]
 simp only [<- HX.out]
 clear H1
 go_wp2_with fail
 refine c1.mono ?_
 rintro e wx ⟨rfl,rfl⟩
 clear c1
 go_wp2_with fail
 refine c2.mono ?_
 rintro e wx ⟨rfl,rfl⟩
 clear c2
 go_wp2_with fail
 rw [<- H4.out]
 exact bodyPost_ret (v:=.agg #[.func (.func 103) #[] #[.pointer (some ⟨X,0,none⟩),.pointer (some ⟨X+3,0,none⟩),.pointer (some ⟨X+1,0,none⟩)],.func (.func 103) #[] #[.pointer (some ⟨X,0,none⟩),.pointer (some ⟨X+4,0,none⟩),.pointer (some ⟨X+1,0,none⟩)]]) (by simp only [results,Tryz.results40];simp [go_sem,y0,y1]) rfl ⟨_,_,rfl,HA.out,HB.out,b4⟩
end Go.Proofs.YtblbhmnahoiecaaGreat
