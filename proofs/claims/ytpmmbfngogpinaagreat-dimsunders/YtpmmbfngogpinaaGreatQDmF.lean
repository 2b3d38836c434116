/- Formulas in the places of dimensions: a whole term; what gives up is caught. Formulas in the places of dimensions: how a formula is put. Formulas in the places of dimensions: how a dimension is taken out. Formulas in the places of dimensions: what is refused ahead; Put. Formulas in the places of dimensions: how great a term may become. Formulas in the places of dimensions: one formula at each dimension of a set. -/
import Derived.Defers
import Derived.Recover
import Derived.RegionTactic
import Derived.Test.YtpmmbfngogpinaaGreatQYDmC
import Derived.Test.YtpmmbfngogpinaaGreatQFD
import Derived.Laws.MakeOwn
import Derived.Test.YtpmmbfngogpinaaGreatQYRight
set_option linter.unusedVariables false
set_option linter.unusedSimpArgs false
namespace Go.Proofs.YtpmmbfngogpinaaGreat
open Go.RowKit
theorem mkfd (fn:Fn) (first cap:Array Value) (w:World):(Instr.makeFunc fn first cap).run Tryz.prog w=.ok (.func fn first cap) w:=rfl
theorem assert_dno (v:Value) (w:World):(Instr.typeAssert (.iface 30 v) 20 30 false).run Tryz.prog w=.ok v w:=by
 simp [Instr.typeAssert,run_underlying Tryz.underlying30]
set_option maxRecDepth 100000 in
set_option maxHeartbeats 1000000 in
theorem dcatch_panicking (q:Nat) (a x:Int) (older:List PanicEntry) (w:World) (hq:q<w.heap.size) (c0:w.cell? ⟨q,0,none⟩=some (.int .i64 a)) (z0:w.frozen? ⟨q,0,none⟩=false) :
  CallsD Tryz.prog 82 #[.pointer (some ⟨q,0,none⟩)] (.panicking ({ v:=.iface 30 (.int .i64 x),recovered:=false } :: older)) w fun e u' w' =>
   e=.returned (.tuple #[])∧u'=.panicking ({ v:=.iface 30 (.int .i64 x),recovered:=true } :: older)∧w'=w.setCell ⟨q,0,none⟩ (.int .i64 x):=by
 refine callsD_of_wpS Tryz.func82 rfl fun c₀ cs hu=>?_
 apply wpS_seq
 apply wpS_region
 simp [wpOpsS,go_sem,recoverD,hu,Tryz.ntmps82,Exit.thenS]
 refine wpS_of_wp ?_
 change Code.wp Tryz.prog _ _ { tmps:=#[.pointer (some ⟨q,0,none⟩),.iface 30 (.int .i64 x),.iface 30 (.int .i64 x),undef,undef,undef,undef],defers:=[] } w
 have hta:=fun w=>assert_dno (.int .i64 x) w
 go_wp2_with fail
 simp +zetaDelta [bodyPostS,results,Tryz.results82]
theorem dcatch_idle (q:Nat) (w:World) :
  CallsD Tryz.prog 82 #[.pointer (some ⟨q,0,none⟩)] .returning w fun e u' w'=>e=.returned (.tuple #[])∧u'=.returning∧w'=w:=by
 refine callsD_of_wpS Tryz.func82 rfl fun c₀ cs hu=>?_
 apply wpS_seq
 apply wpS_region
 simp [wpOpsS,go_sem,recoverD,hu,Tryz.ntmps82,Exit.thenS]
 refine wpS_of_wp ?_
 change Code.wp Tryz.prog _ _ { tmps:=#[.pointer (some ⟨q,0,none⟩),.nilIface,.nilIface,undef,undef,undef,undef],defers:=[] } w
 go_wp2_with fail
 cases c₀
 simp_all +zetaDelta [bodyPostS,results,Tryz.results82]
def noT:Tm:=.mk 0 0 ⟨#[]⟩ [] [] []
theorem noT_in (ok:Nat→Prop) (w:World):TmIn ok w noT (.agg #[.int .i64 0,.int .i64 0,.string ⟨#[]⟩,.slice none 0 0,.slice none 0 0,.slice none 0 0]) :=
 TmIn.mk 0 0 ⟨#[]⟩ [] [] [] _ _ _ (by unfold I64;omega) (by unfold I64;omega) (cl_nil _ _) (kt_nil _ _ _) (sy_nil _ _ _)
def ansD (o:DOp) (t:Tm):Tm:=if eT o t 0=0 then dT o t 0 else noT
set_option maxRecDepth 100000 in
set_option maxHeartbeats 4000000 in
theorem dterm_any {o:DOp} {fV cV:Value} (t:Tm) (v:Value) (w:World) (hv:TmIn Tt w t v) (hF:RowC o.fn fV w) (hC:RowC o.fc cV w) (hb:blk t≤40000) :
  Calls Tryz.prog 36 #[.agg #[fV,cV],v] w fun e w'=>∃ v',e=.returned (.tuple #[v',.int .i64 (eT o t 0)])∧TmIn (OkN w.heap.size w') w' (ansD o t) v'∧Below w.heap.size w w':=by
 obtain⟨ra,rc,ka,kc,sa,sc,rfl,ht⟩:=hv.form
 obtain⟨wa,hwa⟩:∃ W,W=((w.alloc (.cells #[fV,cV] 67)).alloc (.cells #[.int .i64 t.kind,.int .i64 t.n,.string t.name,.slice ra t.r.length rc,.slice ka t.kids.length kc,.slice sa t.sys.length sc] 26)):=⟨_,rfl⟩
 have sa':wa.heap.size=w.heap.size+2:=by rw [hwa];simp
 have ba:Below w.heap.size w wa:=by rw [hwa];exact bchain (belowA _ _) (belowA _ _)
 obtain⟨wb,hwb⟩:∃ W,W=(wa.alloc (.cells #[.int .i64 0,.int .i64 0,.string ⟨#[]⟩,.slice none 0 0,.slice none 0 0,.slice none 0 0] 26)).alloc (.cells #[.int .i64 0] 30):=⟨_,rfl⟩
 have sb':wb.heap.size=w.heap.size+4:=by rw [hwb];simp;omega
 have bb:Below wa.heap.size wa wb:=by rw [hwb];exact bchain (belowA _ _) (belowA _ _)
 obtain⟨X,hX⟩:∃ X,X=w.heap.size:=⟨_,rfl⟩
 obtain⟨w2,hw2⟩:∃ W,W=wb.alloc (.cells #[.func (.func 83) #[] #[.pointer (some ⟨X,0,none⟩),.pointer (some ⟨X+4,0,none⟩)]] 101):=⟨_,rfl⟩
 have b2:Below wb.heap.size wb w2:=by rw [hw2];exact belowA _ _
 have s2:w2.heap.size=X+5:=by rw [hw2];simp;omega
 have bw2:=bchain (bchain ba bb) b2
 have ma:wa.heap[X]? = some (.cells #[fV,cV] 67 (0,0)):=by rw [hwa,hX];exact (Below.heap_alloc _ _ _ (by simp)).trans (heapNew w _)
 have mt:wa.heap[X+1]? = some (.cells #[.int .i64 t.kind,.int .i64 t.n,.string t.name,.slice ra t.r.length rc,.slice ka t.kids.length kc,.slice sa t.sys.length sc] 26 (0,0)):=by
  rw [hwa,hX];have:=heapNew (w.alloc (.cells #[fV,cV] 67)) (.cells #[.int .i64 t.kind,.int .i64 t.n,.string t.name,.slice ra t.r.length rc,.slice ka t.kids.length kc,.slice sa t.sys.length sc] 26);rwa [World.size_alloc] at this
 have mr:Six wb (X+2) (.int .i64 0) (.int .i64 0) (.string ⟨#[]⟩) (.slice none 0 0) (.slice none 0 0) (.slice none 0 0):=⟨by
  rw [hwb];refine (Below.heap_alloc _ _ _ (by simp;omega)).trans ?_
  have:=heapNew wa (.cells #[.int .i64 0,.int .i64 0,.string ⟨#[]⟩,.slice none 0 0,.slice none 0 0,.slice none 0 0] 26);rwa [sa',← hX] at this⟩
 have me:wb.heap[X+3]? = some (.cells #[.int .i64 0] 30 (0,0)):=by
  rw [hwb];have:=heapNew (wa.alloc (.cells #[.int .i64 0,.int .i64 0,.string ⟨#[]⟩,.slice none 0 0,.slice none 0 0,.slice none 0 0] 26)) (.cells #[.int .i64 0] 30);rwa [World.size_alloc,sa',← hX] at this
 have mf:w2.heap[X+4]? = some (.cells #[.func (.func 83) #[] #[.pointer (some ⟨X,0,none⟩),.pointer (some ⟨X+4,0,none⟩)]] 101 (0,0)):=by
  rw [hw2];have:=heapNew wb (.cells #[.func (.func 83) #[] #[.pointer (some ⟨X,0,none⟩),.pointer (some ⟨X+4,0,none⟩)]] 101);rwa [sb',← hX] at this
 have bab:=bchain bb b2
 have hE:DEnv w2 fV cV X (X+4):=⟨(bab.block X (by omega)).trans ma,mf⟩
 have h6:Cs6 w2 (X+1) 0 t ra rc ka kc sa sc:=cs6_of ((bab.block (X+1) (by omega)).trans mt)
 have cc:Calls Tryz.prog 83 #[.pointer (some ⟨X+1,0,none⟩),.int .i64 0,.pointer (some ⟨X,0,none⟩),.pointer (some ⟨X+4,0,none⟩)] w2 fun e w'=>LOut (eT o t 0) (TmIn (OkN w2.heap.size w') w' (dT o t 0)) e∧Below w2.heap.size w2 w' :=
  dv_any _ t 0 (X+1) 0 X (X+4) fV cV ra rc ka kc sa sc w2 hE (hF.blw bw2) (hC.blw bw2) h6 (ht.blw bw2) (Nat.le_refl _) (by omega) hb
 have HZ2:Hid (∀ W,Below w2.heap.size w2 W→Six W (X+2) (.int .i64 0) (.int .i64 0) (.string ⟨#[]⟩) (.slice none 0 0) (.slice none 0 0) (.slice none 0 0)∧W.heap[X+3]? = some (.cells #[.int .i64 0] 30 (0,0))):=fun W q=>by
  have q2:=bchain b2 q
  exact⟨mr.blw q2,(q2.block (X+3) (by omega)).trans me⟩
 have HB:Hid (∀ W,Below w2.heap.size w2 W→Below X w W):=fun W q=>by rw [hX];exact bchain bw2 q
 have HA:Hid (ansD o t=if eT o t 0=0 then dT o t 0 else noT):=(rfl:_=_)
 obtain⟨er,her⟩:∃ e,e=eT o t 0:=⟨_,rfl⟩
 obtain⟨T,hT⟩:∃ T,T=dT o t 0:=⟨_,rfl⟩
 rw [← her,← hT] at cc HA
 rw [← her,← hX]
 have cf:=hE.fn
 have hmk:=mkfd
 have eg:=dv_eg
 have HW:Hid (w2=((((w.alloc (.cells #[fV,cV] 67)).alloc (.cells #[.int .i64 t.kind,.int .i64 t.n,.string t.name,.slice ra t.r.length rc,.slice ka t.kids.length kc,.slice sa t.sys.length sc] 26)).alloc (.cells #[.int .i64 0,.int .i64 0,.string ⟨#[]⟩,.slice none 0 0,.slice none 0 0,.slice none 0 0] 26)).alloc (.cells #[.int .i64 0] 30)).alloc (.cells #[.func (.func 83) #[] #[.pointer (some ⟨w.heap.size,0,none⟩),.pointer (some ⟨w.heap.size+4,0,none⟩)]] 101)):=(by rw [hw2,hwb,hwa,hX]:_=_)
 have HX:Hid (X=w.heap.size):=hX
 have Hs2:Hid (w2.heap.size=X+5):=s2
 clear hwa hwb hw2 ba bb b2 bw2 sa' sb' ma mt mr me mf bab hE h6 ht hv hF hC her hT hX s2 hb
 go_enter_defers Tryz.func36,Tryz.ntmps36
 go_upto_region 4 with fail
 rw [← HW.out]
 simp only [← HX.out]
 clear HW
 go_wp2_with fail
 refine cc.mono ?_
 rintro e w3 ⟨⟨h0,v3,rfl,hv3⟩ | ⟨hne,rfl⟩,hb3⟩
 ·clear cc cf
  obtain⟨ra2,rc2,ka2,kc2,sa2,sc2,rfl,ht2⟩:=hv3.form
  obtain⟨z3,e3⟩:=HZ2.out w3 hb3
  have hs2:=Hs2.out
  have hs3:=hb3.size
  obtain⟨w4,hw4⟩:∃ W,W=(((((w3.setCell ⟨X+2,0,none⟩ (.int .i64 T.kind)).setCell ⟨X+2,1,none⟩ (.int .i64 T.n)).setCell ⟨X+2,2,none⟩ (.string T.name)).setCell ⟨X+2,3,none⟩ (.slice ra2 T.r.length rc2)).setCell ⟨X+2,4,none⟩ (.slice ka2 T.kids.length kc2)).setCell ⟨X+2,5,none⟩ (.slice sa2 T.sys.length sc2):=⟨_,rfl⟩
  have k4:Kn (fun q=>q≠X+2) w3 w4:=by rw [hw4];exact (((((kn_set _ _ _ _).trans (kn_set _ _ _ _)).trans (kn_set _ _ _ _)).trans (kn_set _ _ _ _)).trans (kn_set _ _ _ _)).trans (kn_set _ _ _ _)
  have z4:=z3.set6 (.int .i64 T.kind) (.int .i64 T.n) (.string T.name) (.slice ra2 T.r.length rc2) (.slice ka2 T.kids.length kc2) (.slice sa2 T.sys.length sc2)
  rw [← hw4] at z4
  have e4:=(k4.block (X+3) (by omega) (by omega)).trans e3
  have c40:w4.cell? ⟨X+3,0,none⟩=some (.int .i64 0):=by simp [World.cell?,e4]
  have c4f:w4.frozen? ⟨X+3,0,none⟩=false:=by simp [World.frozen?,e4]
  obtain⟨w5,hw5⟩:∃ W,W=w4.setCell ⟨X+3,0,none⟩ (.int .i64 0):=⟨_,rfl⟩
  have k5:Kn (fun q=>q≠X+3) w4 w5:=by rw [hw5];exact kn_set _ _ _ _
  have z5:=z4.kn k5 (by omega)
  have c5:w5.cell? ⟨X+3,0,none⟩=some (.int .i64 0):=by rw [hw5];exact World.cell?_setCell_same' _ _ _ (by rw [c40];rfl)
  have HTm:Hid (TmIn (OkN X w5) w5 T (.agg #[.int .i64 T.kind,.int .i64 T.n,.string T.name,.slice ra2 T.r.length rc2,.slice ka2 T.kids.length kc2,.slice sa2 T.sys.length sc2])):=by
   have hA:∀ q,OkN w2.heap.size w3 q→w5.heap[q]? = w3.heap[q]?:=fun q hq=>(k5.block q (by have:=hq.1;omega) (by have:=hq.lt;have:=k4.size;omega)).trans (k4.block q (by have:=hq.1;omega) hq.lt)
   exact ht2.value.keep (Nat.le_trans k4.size k5.size) (fun q hq=>(hq.same (hA q hq)).mono (by omega)) (fun q hq _=>hA q hq)
  have b5:Below X w w5:=((HB.out w3 hb3).trans (k4.below (fun q hq=>by omega) (by omega))).trans (k5.below (fun q hq=>by omega) (by have:=k4.size;omega))
  obtain⟨o0,o1,o2,o3,o4,o5,ff⟩:=z3.cells
  have f0:=ff 0
  have f1:=ff 1
  have f2:=ff 2
  have f3:=ff 3
  have f4:=ff 4
  have f5:=ff 5
  obtain⟨d0,d1,d2,d3,d4,d5,_⟩:=z5.cells
  have H4:Hid (_=_):=hw4
  have H5:Hid (_=_):=hw5
  have Hc4:Hid (_∧_):=(⟨c40,c4f⟩:w4.cell? ⟨X+3,0,none⟩=some (.int .i64 0)∧w4.frozen? ⟨X+3,0,none⟩=false)
  have p40:(((((((w3.setCell ⟨X+2,0,none⟩ (.int .i64 T.kind)).setCell ⟨X+2,1,none⟩ (.int .i64 T.n)).setCell ⟨X+2,2,none⟩ (.string T.name)).setCell ⟨X+2,3,none⟩ (.slice ra2 T.r.length rc2)).setCell ⟨X+2,4,none⟩ (.slice ka2 T.kids.length kc2)).setCell ⟨X+2,5,none⟩ (.slice sa2 T.sys.length sc2)).cell? ⟨X+3,0,none⟩=some (.int .i64 0)):=by rw [← hw4];exact c40
  have p4f:(((((((w3.setCell ⟨X+2,0,none⟩ (.int .i64 T.kind)).setCell ⟨X+2,1,none⟩ (.int .i64 T.n)).setCell ⟨X+2,2,none⟩ (.string T.name)).setCell ⟨X+2,3,none⟩ (.slice ra2 T.r.length rc2)).setCell ⟨X+2,4,none⟩ (.slice ka2 T.kids.length kc2)).setCell ⟨X+2,5,none⟩ (.slice sa2 T.sys.length sc2)).frozen? ⟨X+3,0,none⟩=false):=by rw [← hw4];exact c4f
  clear hw4 hw5 z3 z4 z5 k4 k5 ff e3 e4 ht2 hv3 c40 c4f hs2 hs3
  go_wp2_with fail
  rw [← H4.out,← H5.out]
  refine leaves_cons (f:=82) (args:=#[.pointer (some ⟨X+3,0,none⟩)]) (by simp) (by simp [go_sem]) ?_
  refine (dcatch_idle _ _).mono ?_
  rintro e u' w'' ⟨rfl,rfl,rfl⟩
  refine⟨.tuple #[.agg #[.int .i64 T.kind,.int .i64 T.n,.string T.name,.slice ra2 T.r.length rc2,.slice ka2 T.kids.length kc2,.slice sa2 T.sys.length sc2],.int .i64 0],by simp only [results,Tryz.results36];simp [go_sem,d0,d1,d2,d3,d4,d5,c5],_,by rw [h0],by rw [HA.out,if_pos h0];exact HTm.out,b5⟩
 ·clear cc cf
  obtain⟨z3,e3⟩:=HZ2.out w3 hb3
  have hs2:=Hs2.out
  have hs3:=hb3.size
  have c30:w3.cell? ⟨X+3,0,none⟩=some (.int .i64 0):=by simp [World.cell?,e3]
  have c3f:w3.frozen? ⟨X+3,0,none⟩=false:=by simp [World.frozen?,e3]
  refine leaves_cons (f:=82) (args:=#[.pointer (some ⟨X+3,0,none⟩)]) (by simp) (by simp [go_sem]) ?_
  refine (dcatch_panicking (X+3) 0 er [] w3 (by omega) c30 c3f).mono ?_
  rintro e u' w5 ⟨rfl,rfl,hw5⟩
  have k5:Kn (fun q=>q≠X+3) w3 w5:=by rw [hw5];exact kn_set _ _ _ _
  have z5:=z3.kn k5 (by omega)
  have c5:w5.cell? ⟨X+3,0,none⟩=some (.int .i64 er):=by rw [hw5];exact World.cell?_setCell_same' _ _ _ (by rw [c30];rfl)
  have b5:Below X w w5:=(HB.out w3 hb3).trans (k5.below (fun q hq=>by omega) (by omega))
  obtain⟨d0,d1,d2,d3,d4,d5,_⟩:=z5.cells
  refine⟨.tuple #[.agg #[.int .i64 0,.int .i64 0,.string ⟨#[]⟩,.slice none 0 0,.slice none 0 0,.slice none 0 0],.int .i64 er],by simp only [results,Tryz.results36];simp [go_sem,d0,d1,d2,d3,d4,d5,c5],_,rfl,by rw [HA.out,if_neg hne];exact noT_in _ _,b5⟩
end Go.Proofs.YtpmmbfngogpinaaGreat

set_option linter.unusedVariables false
set_option linter.unusedSimpArgs false
namespace Go.Proofs.YtpmmbfngogpinaaGreat
open Go.RowKit
def putRow (PF:List C→Int→List C→List C × Int) (i:Int) (r l:List C) (bd:Nat):List C × Int :=
 if hasB (dimsN l) (i+bd) then (if (liftFF r 0 bd).2=0 then PF l (i+bd) (liftFF r 0 bd).1 else ([],(liftFF r 0 bd).2)) else (l,0)
def putOp (i:Int) (r:List C):DOp:=⟨putRow putF i r,putRow ptA i r⟩
theorem liftFF_len (l:List C) (a b:Int):(liftFF l a b).1.length≤64:=by
 unfold liftFF
 split
 ·split
  ·exact leastF_len _
  ·simp
 ·simp
def PutC (PF:List C→Int→List C→List C × Int) (pf:FuncId):Prop:=∀ (l r:List C) (i:Int) (vl vr:Value) (w:World),FRow w vl l→FRow w vr r→l.length≤40000→r.length≤40000→Calls Tryz.prog pf #[vl,.int .i64 i,vr] w fun e w'=>∃ v,e=.returned (.tuple #[v,.int .i64 (PF l i r).2])∧OwnsC w' w.heap.size v (PF l i r).1∧Below w.heap.size w w'
set_option maxRecDepth 100000 in
set_option maxHeartbeats 4000000 in
theorem prow_any {PF:List C→Int→List C→List C × Int} {pf:FuncId} (hP:PutC PF pf) (egp:∀ args w,(callFunc pf args).run Tryz.prog w=.ok (.enter pf args) w) (i:Int) (r:List C) (vr:Value) (xi xp xr:Nat) (w:World) (hi:w.heap[xi]? = some (.cells #[.int .i64 i] 3 (0,0))) (hp:w.heap[xp]? = some (.cells #[.func (.func pf) #[] #[]] 95 (0,0))) (hr:w.heap[xr]? = some (.cells #[vr] 22 (0,0))) (hrr:ClRow Tt w r vr) (hrl:r.length≤40000) (hi0:0≤i∧i≤1000000) :
  RowC (putRow PF i r) (.func (.func 75) #[] #[.pointer (some ⟨xi,0,none⟩),.pointer (some ⟨xp,0,none⟩),.pointer (some ⟨xr,0,none⟩)]) w:=by
 refine⟨_,_,rfl,enters_of Tryz.func75 (by kernel_rfl) rfl,?_⟩
 intro l bd v W hW hl hll hbd
 have li:=(Array.getElem?_eq_some_iff.1 hi).1
 have lp:=(Array.getElem?_eq_some_iff.1 hp).1
 have lr:=(Array.getElem?_eq_some_iff.1 hr).1
 have ci:Hid (∀ V,Below W.heap.size W V→V.cell? ⟨xi,0,none⟩=some (.int .i64 i)):=fun V q=>((bchain hW q).cell (p:=⟨xi,0,none⟩) li).trans (by simp [World.cell?,hi])
 have cp:Hid (∀ V,Below W.heap.size W V→V.cell? ⟨xp,0,none⟩=some (.func (.func pf) #[] #[])):=fun V q=>((bchain hW q).cell (p:=⟨xp,0,none⟩) lp).trans (by simp [World.cell?,hp])
 have cr:Hid (∀ V,Below W.heap.size W V→V.cell? ⟨xr,0,none⟩=some vr):=fun V q=>((bchain hW q).cell (p:=⟨xr,0,none⟩) lr).trans (by simp [World.cell?,hr])
 have hdlt:=dimsN_lt32 l
 have cD:Hid (∀ V,Below W.heap.size W V→Calls Tryz.prog 77 #[v] V fun e w'=>e=.returned (.int .u32 ((dimsN l:Nat):Int))∧Below V.heap.size V w'):=fun V q=>Dims_any l v V (hl.blw q).row (by omega)
 have cL:Hid (∀ V,Below W.heap.size W V→Calls Tryz.prog 40 #[vr,.int .i64 0,.int .i64 (bd:Int)] V fun e w'=>∃ v,e=.returned (.tuple #[v,.int .i64 (liftFF r 0 bd).2])∧OwnsC w' V.heap.size v (liftFF r 0 bd).1∧Below V.heap.size V w'):=fun V q=>Lift_any r 0 bd vr V ((hrr.blw hW).blw q).frow hrl
 have cC:Hid (∀ V,Below W.heap.size W V→Calls Tryz.prog 78 #[v] V fun e w'=>∃ v',e=.returned v'∧OwnsC w' V.heap.size v' l∧Below V.heap.size V w'):=fun V q=>clone_any l v V (hl.blw q) (by omega)
 have cP:Hid (∀ V vq,Below W.heap.size W V→FRow V vq (liftFF r 0 bd).1→Calls Tryz.prog pf #[v,.int .i64 (i+(bd:Int)),vq] V fun e w'=>∃ v,e=.returned (.tuple #[v,.int .i64 (PF l (i+bd) (liftFF r 0 bd).1).2])∧OwnsC w' V.heap.size v (PF l (i+bd) (liftFF r 0 bd).1).1∧Below V.heap.size V w'):=fun V vq q hq=>hP l (liftFF r 0 bd).1 (i+bd) v vq V (hl.blw q).frow hq hll (by have:=liftFF_len r 0 bd;omega)
 have HQ:Hid (putRow PF i r l bd=if hasB (dimsN l) (i+bd) then (if (liftFF r 0 bd).2=0 then PF l (i+bd) (liftFF r 0 bd).1 else ([],(liftFF r 0 bd).2)) else (l,0)):=(rfl:_=_)
 obtain⟨PR,hPR⟩:∃ P,P=putRow PF i r l bd:=⟨_,rfl⟩
 rw [← hPR] at HQ ⊢
 obtain⟨LF,hLF⟩:∃ L,L=liftFF r 0 bd:=⟨_,rfl⟩
 rw [← hLF] at HQ cL cP
 have wr2:IntKind.i64.wrap (i+(bd:Int))=i+(bd:Int):=by simp [IntKind.wrap,IntKind.bits,IntKind.signed];omega
 obtain⟨va,vc,rfl,_⟩:=id hl
 obtain⟨rva,rvc,rfl,_⟩:=id hrr
 obtain⟨LL,hLL⟩:∃ L,L=l.length:=⟨_,rfl⟩
 obtain⟨LR,hLR⟩:∃ L,L=r.length:=⟨_,rfl⟩
 rw [← hLL] at cD cC cP
 rw [← hLR] at cr cL
 simp only [← hLL]
 obtain⟨DN,hDN⟩:∃ d,d=dimsN l:=⟨_,rfl⟩
 rw [← hDN] at cD HQ hdlt
 clear hPR hLF hW hl hrr hi hp hr li lp lr hP hLL hLR hDN
 show Calls Tryz.prog 75 #[.slice va LL vc,.int .i64 (bd:Int),.pointer (some ⟨xi,0,none⟩),.pointer (some ⟨xp,0,none⟩),.pointer (some ⟨xr,0,none⟩)] W _
 go_enter Tryz.func75,Tryz.ntmps75
 go_upto_region 1 with fail
 have hS1:Below W.heap.size W W:=Below.refl _ _
 go_cut [14] (fun s wx=>s=.bool (!hasB DN (i+bd))∧Below W.heap.size W wx)
 case first=>as_aux_lemma =>
  refine wp_region_held_drew (S:=fun V=>Below W.heap.size W V) (by kernel_rfl) (hS1.drew) (fun hS=>?_)
  obtain⟨wd,hwd⟩:∃ V,V=W.drew:=⟨_,rfl⟩
  rw [← hwd] at hS ⊢
  clear hwd
  refine wpAnyH_take (i:=0) (v:=.slice va LL vc) rfl (by kernel_rfl) (by kernel_rfl) (by kernel_rfl) (fun _ _ _ h=>h) (Or.inl ⟨by rfl,fun w hS=>by go_simp⟩) hS ?_
  try simp only [Act.put,List.getElem_toArray,List.getElem_cons_zero,List.getElem_cons_succ,List.setIfInBounds_toArray,List.set_cons_zero,List.set_cons_succ]
  refine wpAnyH_take (i:=2) (v:=.int .i64 i) rfl (by kernel_rfl) (by kernel_rfl) (by kernel_rfl) (fun _ _ _ h=>h) (Or.inl ⟨by rfl,fun w hS=>by have e:=ci.out w hS;go_simp⟩) hS ?_
  try simp only [Act.put,List.getElem_toArray,List.getElem_cons_zero,List.getElem_cons_succ,List.setIfInBounds_toArray,List.set_cons_zero,List.set_cons_succ]
  refine wpAnyH_take (i:=3) (v:=.int .i64 (bd:Int)) rfl (by kernel_rfl) (by kernel_rfl) (by kernel_rfl) (fun _ _ _ h=>h) (Or.inl ⟨by rfl,fun w hS=>by go_simp⟩) hS ?_
  try simp only [Act.put,List.getElem_toArray,List.getElem_cons_zero,List.getElem_cons_succ,List.setIfInBounds_toArray,List.set_cons_zero,List.set_cons_succ]
  refine wpAnyH_take (i:=4) (v:=.int .i64 (i+(bd:Int))) rfl (by kernel_rfl) (by kernel_rfl) (by kernel_rfl) (fun _ _ _ h=>h) (Or.inl ⟨by rfl,fun w hS=>by have e2:=wr2;go_simp⟩) hS ?_
  try simp only [Act.put,List.getElem_toArray,List.getElem_cons_zero,List.getElem_cons_succ,List.setIfInBounds_toArray,List.set_cons_zero,List.set_cons_succ]
  refine wpAnyH_ready (rs:=[1]) (by kernel_rfl) (by simp) ?_
  refine ready_cons rfl (fun KK hKK=>?_) AllReadyH.nil
  refine⟨?_⟩
  have cc:=cD.out wd hS
  go_simp
  refine cc.mono ?_
  rintro e w2 ⟨rfl,hb2⟩
  have hS2:Below W.heap.size W w2:=hS.trans (hb2.mono hS.size)
  clear cc
  refine hKK.out _ _ hS2 (fun hS=>?_)
  clear hKK KK
  try simp only [Act.put,List.getElem_toArray,List.getElem_cons_zero,List.getElem_cons_succ,List.setIfInBounds_toArray,List.set_cons_zero,List.set_cons_succ]
  refine wpAnyH_ready (rs:=[5]) (by kernel_rfl) (by simp) ?_
  refine ready_cons rfl (fun KK hKK=>?_) AllReadyH.nil
  refine⟨?_⟩
  have cc:=has_any DN (i+(bd:Int)) w2 hdlt
  go_simp
  refine cc.mono ?_
  rintro e w3 ⟨rfl,hw3⟩
  replace hw3:=hw3.symm
  subst hw3
  clear cc
  refine hKK.out _ _ hS (fun hS=>?_)
  clear hKK KK
  try simp only [Act.put,List.getElem_toArray,List.getElem_cons_zero,List.getElem_cons_succ,List.setIfInBounds_toArray,List.set_cons_zero,List.set_cons_succ]
  refine wpAnyH_take (i:=6) (v:=.bool (!hasB DN (i+bd))) rfl (by kernel_rfl) (by kernel_rfl) (by kernel_rfl) (fun _ _ _ h=>h) (Or.inl ⟨by rfl,fun w hS=>by go_simp⟩) hS ?_
  try simp only [Act.put,List.getElem_toArray,List.getElem_cons_zero,List.getElem_cons_succ,List.setIfInBounds_toArray,List.set_cons_zero,List.set_cons_succ]
  refine wpAnyH_done (by kernel_rfl) ?_ _
  go_wp2_with fail
  go_meet
  exact⟨rfl,hS⟩
 case rest =>
 obtain⟨rfl,hS1⟩:=hcut
 obtain⟨w1,hw1⟩:∃ V,V=wc:=⟨_,rfl⟩
 subst hw1
 cases hh:hasB DN (i+bd)
 ·have hq:PR=(l,0):=by rw [HQ.out,hh];rfl
  subst hq
  have cc:=cC.out w1 hS1
  clear cD cL cP HQ
  go_wp2_with fail
  refine cc.mono ?_
  rintro e w2 ⟨v2,rfl,hO2,hb2⟩
  clear cc
  have hO3:=OwnsC.mono hO2 hS1.size
  have hb3:=hS1.trans (hb2.mono hS1.size)
  obtain⟨a2,c2,rfl⟩:=OwnsC.len hO3
  go_wp2_with fail
  go_ret
  exact⟨.ok rfl hO3,hb3⟩
 ·have hq:PR=if LF.2=0 then PF l (i+bd) LF.1 else ([],LF.2):=by rw [HQ.out,hh];rfl
  have HP1:Hid (LF.2≠0→PR.2=LF.2):=fun h=>by rw [hq,if_neg h]
  have HP0:Hid (LF.2=0→PR=PF l (i+bd) LF.1):=fun h=>by rw [hq,if_pos h]
  clear hq HQ cD cC
  go_upto_region 3 with fail
  refine wp_region_held_drew (S:=fun V=>Below W.heap.size W V) (by kernel_rfl) (hS1.drew) (fun hS=>?_)
  obtain⟨wd,hwd⟩:∃ V,V=w1.drew:=⟨_,rfl⟩
  rw [← hwd] at hS ⊢
  clear hwd
  refine wpAnyH_take (i:=0) (v:=.func (.func pf) #[] #[]) rfl (by kernel_rfl) (by kernel_rfl) (by kernel_rfl) (fun _ _ _ h=>h) (Or.inl ⟨by rfl,fun w hS=>by have e:=cp.out w hS;go_simp⟩) hS ?_
  try simp only [Act.put,List.getElem_toArray,List.getElem_cons_zero,List.getElem_cons_succ,List.setIfInBounds_toArray,List.set_cons_zero,List.set_cons_succ]
  refine wpAnyH_take (i:=1) (v:=.slice va LL vc) rfl (by kernel_rfl) (by kernel_rfl) (by kernel_rfl) (fun _ _ _ h=>h) (Or.inl ⟨by rfl,fun w hS=>by go_simp⟩) hS ?_
  try simp only [Act.put,List.getElem_toArray,List.getElem_cons_zero,List.getElem_cons_succ,List.setIfInBounds_toArray,List.set_cons_zero,List.set_cons_succ]
  refine wpAnyH_take (i:=2) (v:=.int .i64 i) rfl (by kernel_rfl) (by kernel_rfl) (by kernel_rfl) (fun _ _ _ h=>h) (Or.inl ⟨by rfl,fun w hS=>by have e:=ci.out w hS;go_simp⟩) hS ?_
  try simp only [Act.put,List.getElem_toArray,List.getElem_cons_zero,List.getElem_cons_succ,List.setIfInBounds_toArray,List.set_cons_zero,List.set_cons_succ]
  refine wpAnyH_take (i:=3) (v:=.int .i64 (bd:Int)) rfl (by kernel_rfl) (by kernel_rfl) (by kernel_rfl) (fun _ _ _ h=>h) (Or.inl ⟨by rfl,fun w hS=>by go_simp⟩) hS ?_
  try simp only [Act.put,List.getElem_toArray,List.getElem_cons_zero,List.getElem_cons_succ,List.setIfInBounds_toArray,List.set_cons_zero,List.set_cons_succ]
  refine wpAnyH_take (i:=4) (v:=.int .i64 (i+(bd:Int))) rfl (by kernel_rfl) (by kernel_rfl) (by kernel_rfl) (fun _ _ _ h=>h) (Or.inl ⟨by rfl,fun w hS=>by have e2:=wr2;go_simp⟩) hS ?_
  try simp only [Act.put,List.getElem_toArray,List.getElem_cons_zero,List.getElem_cons_succ,List.setIfInBounds_toArray,List.set_cons_zero,List.set_cons_succ]
  refine wpAnyH_take (i:=5) (v:=.slice rva LR rvc) rfl (by kernel_rfl) (by kernel_rfl) (by kernel_rfl) (fun _ _ _ h=>h) (Or.inl ⟨by rfl,fun w hS=>by have e:=cr.out w hS;go_simp⟩) hS ?_
  try simp only [Act.put,List.getElem_toArray,List.getElem_cons_zero,List.getElem_cons_succ,List.setIfInBounds_toArray,List.set_cons_zero,List.set_cons_succ]
  refine wpAnyH_take (i:=6) (v:=.int .i64 (bd:Int)) rfl (by kernel_rfl) (by kernel_rfl) (by kernel_rfl) (fun _ _ _ h=>h) (Or.inl ⟨by rfl,fun w hS=>by go_simp⟩) hS ?_
  try simp only [Act.put,List.getElem_toArray,List.getElem_cons_zero,List.getElem_cons_succ,List.setIfInBounds_toArray,List.set_cons_zero,List.set_cons_succ]
  refine wpAnyH_ready (rs:=[7]) (by kernel_rfl) (by simp) ?_
  refine ready_cons rfl (fun KK hKK=>?_) AllReadyH.nil
  refine⟨?_⟩
  have cc:=cL.out wd hS
  go_simp
  refine cc.mono ?_
  rintro e w2 ⟨v2,rfl,hO2,hb2⟩
  have hS2:Below W.heap.size W w2:=hS.trans (hb2.mono hS.size)
  obtain⟨a2,c2,rfl⟩:=OwnsC.len hO2
  obtain⟨L2,hL2⟩:∃ L,L=LF.1.length:=⟨_,rfl⟩
  rw [← hL2] at hO2 ⊢
  obtain⟨e2,he2⟩:∃ e,e=LF.2:=⟨_,rfl⟩
  rw [← he2] at HP1 HP0 ⊢
  have hF2:=OwnsC.frow hO2
  clear cc hL2 he2
  refine hKK.out _ _ hS2 (fun hS=>?_)
  clear hKK KK
  try simp only [Act.put,List.getElem_toArray,List.getElem_cons_zero,List.getElem_cons_succ,List.setIfInBounds_toArray,List.set_cons_zero,List.set_cons_succ]
  refine wpAnyH_take (i:=8) (v:=.slice a2 L2 c2) rfl (by kernel_rfl) (by kernel_rfl) (by kernel_rfl) (fun _ _ _ h=>h) (Or.inl ⟨by rfl,fun w hS=>by go_simp⟩) hS ?_
  try simp only [Act.put,List.getElem_toArray,List.getElem_cons_zero,List.getElem_cons_succ,List.setIfInBounds_toArray,List.set_cons_zero,List.set_cons_succ]
  refine wpAnyH_take (i:=9) (v:=.int .i64 e2) rfl (by kernel_rfl) (by kernel_rfl) (by kernel_rfl) (fun _ _ _ h=>h) (Or.inl ⟨by rfl,fun w hS=>by go_simp⟩) hS ?_
  try simp only [Act.put,List.getElem_toArray,List.getElem_cons_zero,List.getElem_cons_succ,List.setIfInBounds_toArray,List.set_cons_zero,List.set_cons_succ]
  refine wpAnyH_ready (rs:=[10]) (by kernel_rfl) (by simp) ?_
  refine ready_cons rfl (fun KK hKK=>?_) AllReadyH.nil
  refine⟨?_⟩
  have cc:=told_any (.slice a2 L2 c2) e2 w2 (fun v=>v=.slice a2 L2 c2) (fun _=>rfl)
  go_simp
  refine cc.mono ?_
  rintro e w3 ⟨⟨h0,v3,rfl,rfl⟩ | ⟨hne,rfl⟩,hw3⟩
  rotate_left
  ·rw [hw3]
   exact⟨rfl,.inr ⟨by rw [HP1.out hne];exact hne,by rw [HP1.out hne]⟩,hS⟩
  replace hw3:=hw3.symm
  subst hw3
  subst h0
  have HP2:Hid (PR=PF l (i+bd) LF.1):=HP0.out rfl
  clear cc HP0 HP1
  refine hKK.out _ _ hS (fun hS=>?_)
  clear hKK KK
  try simp only [Act.put,List.getElem_toArray,List.getElem_cons_zero,List.getElem_cons_succ,List.setIfInBounds_toArray,List.set_cons_zero,List.set_cons_succ]
  refine wpAnyH_ready (rs:=[11]) (by kernel_rfl) (by simp) ?_
  refine ready_cons rfl (fun KK hKK=>?_) AllReadyH.nil
  refine⟨?_⟩
  have cc:=cP.out w2 _ hS hF2
  rw [← HP2.out] at cc
  go_simp
  refine cc.mono ?_
  rintro e w4 ⟨v4,rfl,hO4,hb4⟩
  have hS4:Below W.heap.size W w4:=hS.trans (hb4.mono hS.size)
  have hO5:=OwnsC.mono hO4 hS.size
  obtain⟨a4,c4,rfl⟩:=OwnsC.len hO5
  clear cc
  refine hKK.out _ _ hS4 (fun hS=>?_)
  clear hKK KK
  try simp only [Act.put,List.getElem_toArray,List.getElem_cons_zero,List.getElem_cons_succ,List.setIfInBounds_toArray,List.set_cons_zero,List.set_cons_succ]
  refine wpAnyH_take (i:=12) (v:=.slice a4 PR.1.length c4) rfl (by kernel_rfl) (by kernel_rfl) (by kernel_rfl) (fun _ _ _ h=>h) (Or.inl ⟨by rfl,fun w hS=>by go_simp⟩) hS ?_
  try simp only [Act.put,List.getElem_toArray,List.getElem_cons_zero,List.getElem_cons_succ,List.setIfInBounds_toArray,List.set_cons_zero,List.set_cons_succ]
  refine wpAnyH_take (i:=13) (v:=.int .i64 PR.2) rfl (by kernel_rfl) (by kernel_rfl) (by kernel_rfl) (fun _ _ _ h=>h) (Or.inl ⟨by rfl,fun w hS=>by go_simp⟩) hS ?_
  try simp only [Act.put,List.getElem_toArray,List.getElem_cons_zero,List.getElem_cons_succ,List.setIfInBounds_toArray,List.set_cons_zero,List.set_cons_succ]
  refine wpAnyH_ready (rs:=[14]) (by kernel_rfl) (by simp) ?_
  refine ready_cons rfl (fun KK hKK=>?_) AllReadyH.nil
  refine⟨?_⟩
  have cc:=told_any (.slice a4 PR.1.length c4) PR.2 w4 (fun v=>v=.slice a4 PR.1.length c4) (fun _=>rfl)
  go_simp
  refine cc.mono ?_
  rintro e w5 ⟨⟨h0,v5,rfl,rfl⟩ | ⟨hne,rfl⟩,hw5⟩
  rotate_left
  ·rw [hw5]
   exact⟨rfl,.inr ⟨hne,rfl⟩,hS⟩
  replace hw5:=hw5.symm
  subst hw5
  have H0:Hid (PR.2=0):=h0
  clear cc h0
  refine hKK.out _ _ hS (fun hS=>?_)
  clear hKK KK
  try simp only [Act.put,List.getElem_toArray,List.getElem_cons_zero,List.getElem_cons_succ,List.setIfInBounds_toArray,List.set_cons_zero,List.set_cons_succ]
  refine wpAnyH_take (i:=15) (v:=.slice a4 PR.1.length c4) rfl (by kernel_rfl) (by kernel_rfl) (by kernel_rfl) (fun _ _ _ h=>h) (Or.inl ⟨by rfl,fun w hS=>by go_simp⟩) hS ?_
  try simp only [Act.put,List.getElem_toArray,List.getElem_cons_zero,List.getElem_cons_succ,List.setIfInBounds_toArray,List.set_cons_zero,List.set_cons_succ]
  refine wpAnyH_done (by kernel_rfl) ?_ _
  go_wp2_with fail
  go_ret
  exact⟨.ok H0.out hO5,hS⟩
theorem fput_eg:∀ args w,(callFunc 80 args).run Tryz.prog w=.ok (.enter 80 args) w:=enters_of Tryz.func80 (by kernel_rfl) rfl
theorem aput_eg:∀ args w,(callFunc 81 args).run Tryz.prog w=.ok (.enter 81 args) w:=enters_of Tryz.func81 (by kernel_rfl) rfl
theorem mk1_eg:∀ args w,(callFunc 74 args).run Tryz.prog w=.ok (.enter 74 args) w:=enters_of Tryz.func74 (by kernel_rfl) rfl
theorem mkput_any (pf:FuncId) (xi xr:Nat) (w:World):Calls Tryz.prog 74 #[.func (.func pf) #[] #[],.pointer (some ⟨xi,0,none⟩),.pointer (some ⟨xr,0,none⟩)] w fun e w'=>e=.returned (.func (.func 75) #[] #[.pointer (some ⟨xi,0,none⟩),.pointer (some ⟨w.heap.size,0,none⟩),.pointer (some ⟨xr,0,none⟩)])∧w'=w.alloc (.cells #[.func (.func pf) #[] #[]] 95):=by
 have hmk:=mkfd
 go_enter Tryz.func74,Tryz.ntmps74
 go_wp2
 go_ret
 exact⟨rfl,rfl⟩
set_option maxRecDepth 100000 in
set_option maxHeartbeats 4000000 in
theorem putting_any (i:Int) (r:List C) (vr:Value) (w:World) (hrr:ClRow Tt w r vr) (hrl:r.length≤40000) (hi0:0≤i∧i≤1000000) :
  Calls Tryz.prog 35 #[.int .i64 i,vr] w fun e w'=>∃ fV cV,e=.returned (.agg #[fV,cV])∧RowC (putOp i r).fn fV w'∧RowC (putOp i r).fc cV w'∧Below w.heap.size w w':=by
 obtain⟨va,vc,rfl,_⟩:=id hrr
 obtain⟨X,hX⟩:∃ X,X=w.heap.size:=⟨_,rfl⟩
 obtain⟨w1,hw1⟩:∃ W,W=((w.alloc (.cells #[.int .i64 i] 3)).alloc (.cells #[.slice va r.length vc] 22)).alloc (.cells #[.nilFunc,.nilFunc] 67):=⟨_,rfl⟩
 have b1:Below w.heap.size w w1:=by rw [hw1];exact bchain (bchain (belowA _ _) (belowA _ _)) (belowA _ _)
 have s1:w1.heap.size=X+3:=by rw [hw1,hX];simp
 have m0:w1.heap[X]? = some (.cells #[.int .i64 i] 3 (0,0)):=by
  rw [hw1,hX];exact (Below.heap_alloc _ _ _ (by simp;omega)).trans ((Below.heap_alloc _ _ _ (by simp)).trans (heapNew w _))
 have m1:w1.heap[X+1]? = some (.cells #[.slice va r.length vc] 22 (0,0)):=by
  rw [hw1,hX]
  refine (Below.heap_alloc _ _ _ (by simp)).trans ?_
  have:=heapNew (w.alloc (.cells #[.int .i64 i] 3)) (.cells #[.slice va r.length vc] 22);rwa [World.size_alloc] at this
 have m2:w1.heap[X+2]? = some (.cells #[.nilFunc,.nilFunc] 67 (0,0)):=by
  rw [hw1,hX]
  have:=heapNew ((w.alloc (.cells #[.int .i64 i] 3)).alloc (.cells #[.slice va r.length vc] 22)) (.cells #[.nilFunc,.nilFunc] 67);rwa [World.size_alloc,World.size_alloc] at this
 obtain⟨w2,hw2⟩:∃ W,W=w1.alloc (.cells #[.func (.func 80) #[] #[]] 95):=⟨_,rfl⟩
 obtain⟨w3,hw3⟩:∃ W,W=w2.alloc (.cells #[.func (.func 81) #[] #[]] 95):=⟨_,rfl⟩
 have b2:Below w1.heap.size w1 w2:=by rw [hw2];exact belowA _ _
 have b3:Below w2.heap.size w2 w3:=by rw [hw3];exact belowA _ _
 have s2:w2.heap.size=X+4:=by rw [hw2];simp;omega
 have s3:w3.heap.size=X+5:=by rw [hw3];simp;omega
 have m3:w2.heap[X+3]? = some (.cells #[.func (.func 80) #[] #[]] 95 (0,0)):=by rw [hw2];have:=heapNew w1 (.cells #[.func (.func 80) #[] #[]] 95);rwa [s1] at this
 have m4:w3.heap[X+4]? = some (.cells #[.func (.func 81) #[] #[]] 95 (0,0)):=by rw [hw3];have:=heapNew w2 (.cells #[.func (.func 81) #[] #[]] 95);rwa [s2] at this
 obtain⟨A,hA⟩:∃ A:Value,A=.func (.func 75) #[] #[.pointer (some ⟨X,0,none⟩),.pointer (some ⟨X+3,0,none⟩),.pointer (some ⟨X+1,0,none⟩)]:=⟨_,rfl⟩
 obtain⟨B,hB⟩:∃ B:Value,B=.func (.func 75) #[] #[.pointer (some ⟨X,0,none⟩),.pointer (some ⟨X+4,0,none⟩),.pointer (some ⟨X+1,0,none⟩)]:=⟨_,rfl⟩
 obtain⟨w4,hw4⟩:∃ W,W=(w3.setCell ⟨X+2,0,none⟩ A).setCell ⟨X+2,1,none⟩ B:=⟨_,rfl⟩
 have k4:Kn (fun q=>q≠X+2) w3 w4:=by rw [hw4];exact (kn_set _ _ _ _).trans (kn_set _ _ _ _)
 have b13:=bchain b2 b3
 have n0:w3.heap[X]? = _:=(b13.block X (by omega)).trans m0
 have n1:w3.heap[X+1]? = _:=(b13.block (X+1) (by omega)).trans m1
 have n2:w3.heap[X+2]? = _:=(b13.block (X+2) (by omega)).trans m2
 have n3:w3.heap[X+3]? = _:=(b3.block (X+3) (by omega)).trans m3
 have r3:=(hrr.blw b1).blw b13
 have bw3:=bchain b1 b13
 have b4:Below w.heap.size w w4:=bw3.trans (k4.below (fun q hq=>by omega) (by omega))
 have r4:ClRow Tt w4 r (.slice va r.length vc):=hrr.blw b4
 have HA:Hid (RowC (putOp i r).fn A w4):=by
  rw [hA];exact prow_any (PF:=putF) (pf:=80) (fun l r i vl vr w h1 h2 h3 h4=>Put_any l r i vl vr w h1 h2 h3 h4) fput_eg i r _ X (X+3) (X+1) w4 ((k4.block X (by omega) (by omega)).trans n0) ((k4.block (X+3) (by omega) (by omega)).trans n3) ((k4.block (X+1) (by omega) (by omega)).trans n1) r4 hrl hi0
 have HB:Hid (RowC (putOp i r).fc B w4):=by
  rw [hB];exact prow_any (PF:=ptA) (pf:=81) (fun l r i vl vr w h1 h2 h3 h4=>APut_any l r i vl vr w h1 h2 h3 h4) aput_eg i r _ X (X+4) (X+1) w4 ((k4.block X (by omega) (by omega)).trans n0) ((k4.block (X+4) (by omega) (by omega)).trans m4) ((k4.block (X+1) (by omega) (by omega)).trans n1) r4 hrl hi0
 have c1:=mkput_any 80 X (X+1) w1
 have c2:=mkput_any 81 X (X+1) w2
 rw [← hw2,s1,← hA] at c1
 rw [← hw3,s2,← hB] at c2
 have z0:w3.cell? ⟨X+2,0,none⟩=some .nilFunc:=by simp [World.cell?,n2]
 have z1:w3.cell? ⟨X+2,1,none⟩=some .nilFunc:=by simp [World.cell?,n2]
 have f0:w3.frozen? ⟨X+2,0,none⟩=false:=by simp [World.frozen?,n2]
 have f1:w3.frozen? ⟨X+2,1,none⟩=false:=by simp [World.frozen?,n2]
 have n4:=set_blk (i:=1) (set_blk (i:=0) n2 A) B
 rw [← hw4] at n4
 have y0:w4.cell? ⟨X+2,0,none⟩=some A:=by simp [World.cell?,n4]
 have y1:w4.cell? ⟨X+2,1,none⟩=some B:=by simp [World.cell?,n4]
 have HX:Hid (X=w.heap.size):=hX
 have H1:Hid (_=_):=hw1
 have H4:Hid (_=_):=hw4
 have hmk:=mkfd
 have eg:=mk1_eg
 clear hw1 hw2 hw3 hw4 hX m0 m1 m2 m3 m4 n0 n1 n2 n3 n4 b1 b2 b3 s1 s2 s3 b13 r3 r4 bw3 k4 hrr
 subst hA
 subst hB
 go_enter Tryz.func35,Tryz.ntmps35
 go_upto_region 2 with fail
 rw [← H1.out]
 simp only [← HX.out]
 clear H1
 go_wp2_with fail
 refine c1.mono ?_
 rintro e wx ⟨rfl,rfl⟩
 clear c1
 go_wp2_with fail
 refine c2.mono ?_
 rintro e wx ⟨rfl,rfl⟩
 clear c2
 go_wp2_with fail
 rw [← H4.out]
 exact bodyPost_ret (v:=.agg #[.func (.func 75) #[] #[.pointer (some ⟨X,0,none⟩),.pointer (some ⟨X+3,0,none⟩),.pointer (some ⟨X+1,0,none⟩)],.func (.func 75) #[] #[.pointer (some ⟨X,0,none⟩),.pointer (some ⟨X+4,0,none⟩),.pointer (some ⟨X+1,0,none⟩)]]) (by simp only [results,Tryz.results35];simp [go_sem,y0,y1]) rfl ⟨_,_,rfl,HA.out,HB.out,b4⟩
end Go.Proofs.YtpmmbfngogpinaaGreat

set_option linter.unusedVariables false
set_option linter.unusedSimpArgs false
namespace Go.Proofs.YtpmmbfngogpinaaGreat
open Go.RowKit
def drC (i:Int) (c:C):C:=(⟨dropN c.1.val i,Nat.lt_trans (dropN_lt _ _) (by decide)⟩,⟨dropN c.2.val i,Nat.lt_trans (dropN_lt _ _) (by decide)⟩)
def dropRow (i:Int) (l:List C) (bd:Nat):List C × Int:=(l.map (drC (i+bd)),0)
def dropOp (i:Int):DOp:=⟨dropRow i,dropRow i⟩
def nilC:C:=(⟨0,by decide⟩,⟨0,by decide⟩)
def drK (i:Int) (l:List C) (k:Nat):List C:=(l.take k).map (drC i) ++ List.replicate (l.length - k) nilC
theorem drK_zero (i:Int) (l:List C):drK i l 0=List.replicate l.length nilC:=by simp [drK]
theorem drK_all (i:Int) (l:List C):drK i l l.length=l.map (drC i):=by simp [drK]
theorem drK_len (i:Int) (l:List C) (k:Nat) (h:k≤l.length):(drK i l k).length=l.length:=by simp [drK];omega
theorem drK_step {i:Int} {l:List C} {k:Nat} {c:C} (h:l[k]? = some c):(drK i l k).set k (drC i c)=drK i l (k+1):=by
 have hk:=(List.getElem?_eq_some_iff.1 h).1
 have e:l.length - k=(l.length - (k+1)) + 1:=by omega
 unfold drK
 rw [List.take_add_one,h,e,List.replicate_succ]
 simp only [Option.toList_some,List.map_append,List.map_cons,List.map_nil,List.append_assoc,List.cons_append,List.nil_append]
 rw [List.set_append_right _ _ (by simp;omega)]
 have e2:k - (List.map (drC i) (List.take k l)).length=0:=by simp;omega
 rw [e2];rfl
theorem flat_repl:∀ n:Nat,flat (List.replicate n nilC)=List.replicate (n*2) (.int .u32 0)
 | 0=>rfl
 | n+1=>by
  have e:(n+1) * 2=n*2+1+1:=by omega
  rw [List.replicate_succ,e,List.replicate_succ,List.replicate_succ,← flat_repl n]
  rfl
theorem made_repl (n:Nat):(madeCells #[.int .u32 0,.int .u32 0] n).toList=List.replicate n (.int .u32 0):=by
 refine List.eq_replicate_iff.2 ⟨by simp [madeCells],fun x hx=>?_⟩
 rw [Array.mem_toList_iff] at hx
 unfold madeCells at hx
 obtain⟨j,_,rfl⟩:=Array.mem_map.1 hx
 have hj:j % 2=0∨j % 2=1:=by omega
 rcases hj with h|h <;> simp [h]
theorem makeCl (n:Nat) (w:World) (hn:n≤1000000):∃ W,(Instr.makeSlice 22 (.int .i64 (n:Int)) (.int .i64 (n:Int))).run Tryz.prog w=.ok (.slice (some ⟨w.heap.size,0,none⟩) n n) W∧OwnsC W w.heap.size (.slice (some ⟨w.heap.size,0,none⟩) n n) (List.replicate n nilC)∧Below w.heap.size w W∧W.heap.size=w.heap.size+1:=by
 obtain⟨i0,hi,hz0,hz1,hz2⟩:=info_parts Tryz.infoC
 have hr:=run_make (P:=Tryz.prog) w 22 38 i0 _ Tryz.underlying22 hi hz0 .i64 .i64 n n (by omega) (Int.le_refl _) (by rw [hz2];omega) (by omega)
 simp only [Int.toNat_natCast] at hr
 refine⟨_,hr,?_,belowA _ _,by simp⟩
 unfold OwnsC
 rw [List.length_replicate,flat_repl]
 refine⟨by simp,.inr ⟨_,_,_,rfl,Nat.le_refl _,heapNew w _,Nat.le_refl _,by unfold maxLen;omega,by rw [size_madeCells,hz1],?_⟩⟩
 rw [hz1]
 have e:(Value.agg #[Value.int .u32 0,Value.int .u32 0]).cells=#[Value.int .u32 0,Value.int .u32 0]:=rfl
 rw [List.take_of_length_le (by simp [madeCells])]
 exact made_repl _
theorem own_set2 {W:World} {base g n cap:Nat} {L:List C} {k:Nat} {d:C} (hn:n=L.length) (h:OwnsC W base (.slice (some ⟨g,0,none⟩) n cap) L) (hlt:k<L.length) (hb:base≤W.heap.size) :
  OwnsC ((W.setCell ⟨g,k*2,none⟩ (.int .u32 (d.1.val:Int))).setCell ⟨g,k*2+1,none⟩ (.int .u32 (d.2.val:Int))) base (.slice (some ⟨g,0,none⟩) n cap) (L.set k d) ∧
  Below base W ((W.setCell ⟨g,k*2,none⟩ (.int .u32 (d.1.val:Int))).setCell ⟨g,k*2+1,none⟩ (.int .u32 (d.2.val:Int))):=by
 have h2:W.ownsRow base 38 2 (.slice (some ⟨g,0,none⟩) n cap) n (flat L):=by
  have:=h;unfold OwnsC at this;rw [← hn] at this;exact this
 have s1:=World.ownsRow.stored h2 (k*2) (.int .u32 (d.1.val:Int))
 have s2:=World.ownsRow.stored s1.1 (k*2+1) (.int .u32 (d.2.val:Int))
 refine⟨?_,?_⟩
 ·unfold OwnsC
  rw [List.length_set,← hn,flat_set _ _ _ hlt]
  exact s2.1
 ·have hg:=(World.ownsRow.lt h g rfl).1
  have b1:=(Below.refl base W).grown s1.2 hb (fun k hk=>by injection hk with hk;omega)
  exact b1.grown s2.2 (Nat.le_trans hb b1.size) (fun k hk=>by injection hk with hk;omega)
theorem own_at2 {W:World} {base g n cap:Nat} {L:List C} {k:Nat} (hn:n=L.length) (h:OwnsC W base (.slice (some ⟨g,0,none⟩) n cap) L) (hlt:k<L.length) :
  (∃ u,W.cell? ⟨g,k*2,none⟩=some u)∧(∃ u,W.cell? ⟨g,k*2+1,none⟩=some u)∧W.frozen? ⟨g,k*2,none⟩=false∧W.frozen? ⟨g,k*2+1,none⟩=false:=by
 have h2:W.ownsRow base 38 2 (.slice (some ⟨g,0,none⟩) n cap) n (flat L):=by
  have:=h;unfold OwnsC at this;rw [← hn] at this;exact this
 obtain⟨d,hd⟩:∃ d,L[k]? = some d:=⟨_,List.getElem?_eq_getElem hlt⟩
 refine⟨?_,?_,World.ownsRow.frozenAt h2 _,World.ownsRow.frozenAt h2 _⟩
 ·rw [World.ownsRow.cellAt h2 (k*2) (by omega),flat_get0,hd];exact⟨_,rfl⟩
 ·rw [World.ownsRow.cellAt h2 (k*2+1) (by omega),flat_get1,hd];exact⟨_,rfl⟩
theorem crow_at {w:World} {a:Option Addr} {n cap:Nat} {l:List C} {k:Nat} {c:C} (h:CRow w (.slice a n cap) l) (hk:l[k]? = some c):∃ g off,a=some ⟨g,off,none⟩∧g<w.heap.size∧w.cell? ⟨g,off+k*2,none⟩=some (.int .u32 (c.1.val:Int))∧w.cell? ⟨g,off+k*2+1,none⟩=some (.int .u32 (c.2.val:Int)):=by
 rcases h with ⟨a',cap',e,rfl⟩|⟨g,off,cap',e,hg,hc⟩
 ·simp at hk
 ·injection e with e1 e2 e3
  exact⟨g,off,e1,hg,(hc k c hk).1,(hc k c hk).2⟩
set_option maxRecDepth 100000 in
set_option maxHeartbeats 4000000 in
theorem drow_any (i:Int) (xi:Nat) (w:World) (hi:w.heap[xi]? = some (.cells #[.int .i64 i] 3 (0,0))) (hi0:0≤i∧i≤1000000) :
  RowC (dropRow i) (.func (.func 91) #[] #[.pointer (some ⟨xi,0,none⟩)]) w:=by
 refine⟨_,_,rfl,enters_of Tryz.func91 (by kernel_rfl) rfl,?_⟩
 intro l bd v W hW hl hll hbd
 have li:=(Array.getElem?_eq_some_iff.1 hi).1
 have lW:xi<W.heap.size:=Nat.lt_of_lt_of_le li hW.size
 obtain⟨W1,hmk,hO0,bW1,sW1⟩:=makeCl l.length W (by omega)
 obtain⟨n1,hn1⟩:∃ n,n=W.heap.size:=⟨_,rfl⟩
 have ci:Hid (∀ V,Below n1 W V→V.cell? ⟨xi,0,none⟩=some (.int .i64 i)):=fun V q=>((bchain hW (by rw [← hn1];exact q)).cell (p:=⟨xi,0,none⟩) li).trans (by simp [World.cell?,hi])
 have Hr:Hid (∀ V,Below n1 W V→CRow V v l):=fun V q=>(hl.blw (w':=V) (by rw [← hn1];exact q)).row
 have wr2:IntKind.i64.wrap (i+(bd:Int))=i+(bd:Int):=by simp [IntKind.wrap,IntKind.bits,IntKind.signed];omega
 obtain⟨J,hJ⟩:∃ J,J=i+(bd:Int):=⟨_,rfl⟩
 rw [← hJ] at wr2
 have HJ:Hid (dropRow i l bd=(drK J l l.length,0)):=(by unfold dropRow;rw [drK_all,hJ]:_=_)
 obtain⟨va,vc,rfl,_⟩:=id hl
 obtain⟨L,hL⟩:∃ L,L=l.length:=⟨_,rfl⟩
 have HL:Hid (L=l.length):=hL
 rw [HJ.out,← hL]
 rw [← hL] at hmk hO0 Hr hll
 rw [← hn1] at hmk hO0 bW1 sW1 ⊢
 have Hn1:Hid (n1=W.heap.size):=hn1
 have wrJ:IntKind.i64.wrap (i+(bd:Int))=J:=by rw [← hJ,wr2]
 clear hn1 hL hl hW hi li HJ wr2 hJ
 show Calls Tryz.prog 91 #[.slice va L vc,.int .i64 (bd:Int),.pointer (some ⟨xi,0,none⟩)] W _
 go_enter Tryz.func91,Tryz.ntmps91
 go_wp2_with fail
 go_loopw [14] (fun s wr=>∃ k:Nat,k≤L∧s=.int .i64 k∧OwnsC wr n1 (.slice (some ⟨n1,0,none⟩) L L) (drK J l k)∧Below n1 W wr) (fun s _=>L - (intOf s).toNat)
 case atStart=>exact⟨0,Nat.zero_le _,rfl,by rw [drK_zero,← HL.out];exact hO0,bW1⟩
 case round =>
  obtain⟨wo,hwo⟩:∃ wo,wo=wr:=⟨_,rfl⟩
  subst hwo
  clear hO0 bW1 sW1 hmk
  obtain⟨k,hk,rfl,hO,hSo⟩:=hrel
  have hso:n1≤wo.heap.size:=by rw [Hn1.out];exact hSo.size
  by_cases hlt:k<L
  ·have hkI:(k:Int) < (L:Int):=by omega
   obtain⟨c,hc⟩:=someL (l:=l) (k:=k) (by rw [← HL.out];exact hlt)
   have hlen:=drK_len J l k (by rw [← HL.out];exact hk)
   have hc1:=c.1.isLt
   have hc2:=c.2.isLt
   obtain⟨g1,o1,hva,hgl,d0,d1⟩:=crow_at (Hr.out wo hSo) hc
   subst hva
   obtain⟨wb,hwb⟩:∃ V,V=wo.alloc (.cells #[.int .u32 (c.1.val:Int),.int .u32 (c.2.val:Int)] 38):=⟨_,rfl⟩
   have bb:Below wo.heap.size wo wb:=by rw [hwb];exact belowA _ _
   have mb:wb.heap[wo.heap.size]? = some (.cells #[.int .u32 (c.1.val:Int),.int .u32 (c.2.val:Int)] 38 (0,0)):=by rw [hwb];exact heapNew _ _
   obtain⟨p,hp⟩:∃ p,p=wo.heap.size:=⟨_,rfl⟩
   have sb:wb.heap.size=p+1:=by rw [hwb,hp];simp
   rw [← hp] at mb
   have hSb:Below n1 W wb:=hSo.trans (bb.mono (by omega))
   have hpn:p≠n1:=by have:=(World.ownsRow.lt hO n1 rfl).2;omega
   have HC:Hid (∀ V,(Below n1 W V∧V.heap[p]? = some (.cells #[.int .u32 (c.1.val:Int),.int .u32 (c.2.val:Int)] 38 (0,0)))→V.cell? ⟨p,0,none⟩=some (.int .u32 (c.1.val:Int))∧V.cell? ⟨p,1,none⟩=some (.int .u32 (c.2.val:Int))∧V.cell? ⟨xi,0,none⟩=some (.int .i64 i)):=fun V q =>
    ⟨by simp [World.cell?,q.2],by simp [World.cell?,q.2],ci.out V q.1⟩
   have hmb:wb.heap[p]? = some (.cells #[.int .u32 (c.1.val:Int),.int .u32 (c.2.val:Int)] 38 (0,0)):=mb
   have Hmb:Hid (_=_):=hmb
   have Hwb:Hid (_=_):=hwb
   have Hp:Hid (p=wo.heap.size):=hp
   have hpl:n1≤p:=by omega
   have HO:Hid (∀ V,Below wb.heap.size wb V→OwnsC V n1 (.slice (some ⟨n1,0,none⟩) L L) (drK J l k)):=fun V q=>oc_blw2 hO (bchain bb q)
   have HSt:Hid ((drK J l k).set k (drC J c)=drK J l (k+1)):=drK_step hc
   have Hlen:Hid (L=(drK J l k).length):=(by rw [hlen];exact HL.out:_=_)
   clear hwb mb hmb hO hc hlen hp
   go_upto_region 5 with fail
   rw [← Hwb.out]
   simp only [← Hp.out]
   clear d0 d1
   refine wp_region_held_drew (S:=fun V=>Below n1 W V∧V.heap[p]? = some (.cells #[.int .u32 (c.1.val:Int),.int .u32 (c.2.val:Int)] 38 (0,0))) (by kernel_rfl) ⟨hSb.drew,Hmb.out⟩ (fun hS=>?_)
   obtain⟨wd,hwd⟩:∃ V,V=wb.drew:=⟨_,rfl⟩
   have hbd:Below wb.heap.size wb wd:=by rw [hwd];exact (Below.refl _ _).drew
   rw [← hwd] at hS ⊢
   clear hwd
   refine wpAnyH_take (i:=0) (v:=.slice (some ⟨n1,0,none⟩) L L) rfl (by kernel_rfl) (by kernel_rfl) (by kernel_rfl) (fun _ _ _ h=>h) (Or.inl ⟨by rfl,fun w hS=>by go_simp⟩) hS ?_
   try simp only [Act.put,List.getElem_toArray,List.getElem_cons_zero,List.getElem_cons_succ,List.setIfInBounds_toArray,List.set_cons_zero,List.set_cons_succ]
   refine wpAnyH_take (i:=1) (v:=.int .i64 k) rfl (by kernel_rfl) (by kernel_rfl) (by kernel_rfl) (fun _ _ _ h=>h) (Or.inl ⟨by rfl,fun w hS=>by go_simp⟩) hS ?_
   try simp only [Act.put,List.getElem_toArray,List.getElem_cons_zero,List.getElem_cons_succ,List.setIfInBounds_toArray,List.set_cons_zero,List.set_cons_succ]
   refine wpAnyH_take (i:=2) (v:=.pointer (some ⟨p,0,none⟩)) rfl (by kernel_rfl) (by kernel_rfl) (by kernel_rfl) (fun _ _ _ h=>h) (Or.inl ⟨by rfl,fun w hS=>by go_simp⟩) hS ?_
   try simp only [Act.put,List.getElem_toArray,List.getElem_cons_zero,List.getElem_cons_succ,List.setIfInBounds_toArray,List.set_cons_zero,List.set_cons_succ]
   refine wpAnyH_take (i:=3) (v:=.int .u32 (c.1.val:Int)) rfl (by kernel_rfl) (by kernel_rfl) (by kernel_rfl) (fun _ _ _ h=>h) (Or.inl ⟨by rfl,fun w hS=>by have e:=(HC.out w hS).1;go_simp⟩) hS ?_
   try simp only [Act.put,List.getElem_toArray,List.getElem_cons_zero,List.getElem_cons_succ,List.setIfInBounds_toArray,List.set_cons_zero,List.set_cons_succ]
   refine wpAnyH_take (i:=4) (v:=.int .i64 i) rfl (by kernel_rfl) (by kernel_rfl) (by kernel_rfl) (fun _ _ _ h=>h) (Or.inl ⟨by rfl,fun w hS=>by have e:=(HC.out w hS).2.2;go_simp⟩) hS ?_
   try simp only [Act.put,List.getElem_toArray,List.getElem_cons_zero,List.getElem_cons_succ,List.setIfInBounds_toArray,List.set_cons_zero,List.set_cons_succ]
   refine wpAnyH_take (i:=5) (v:=.int .i64 (bd:Int)) rfl (by kernel_rfl) (by kernel_rfl) (by kernel_rfl) (fun _ _ _ h=>h) (Or.inl ⟨by rfl,fun w hS=>by go_simp⟩) hS ?_
   try simp only [Act.put,List.getElem_toArray,List.getElem_cons_zero,List.getElem_cons_succ,List.setIfInBounds_toArray,List.set_cons_zero,List.set_cons_succ]
   refine wpAnyH_take (i:=6) (v:=.int .i64 J) rfl (by kernel_rfl) (by kernel_rfl) (by kernel_rfl) (fun _ _ _ h=>h) (Or.inl ⟨by rfl,fun w hS=>by have e2:=wrJ;go_simp⟩) hS ?_
   try simp only [Act.put,List.getElem_toArray,List.getElem_cons_zero,List.getElem_cons_succ,List.setIfInBounds_toArray,List.set_cons_zero,List.set_cons_succ]
   refine wpAnyH_take (i:=8) (v:=.pointer (some ⟨p,1,none⟩)) rfl (by kernel_rfl) (by kernel_rfl) (by kernel_rfl) (fun _ _ _ h=>h) (Or.inl ⟨by rfl,fun w hS=>by go_simp⟩) hS ?_
   try simp only [Act.put,List.getElem_toArray,List.getElem_cons_zero,List.getElem_cons_succ,List.setIfInBounds_toArray,List.set_cons_zero,List.set_cons_succ]
   refine wpAnyH_take (i:=9) (v:=.int .u32 (c.2.val:Int)) rfl (by kernel_rfl) (by kernel_rfl) (by kernel_rfl) (fun _ _ _ h=>h) (Or.inl ⟨by rfl,fun w hS=>by have e:=(HC.out w hS).2.1;go_simp⟩) hS ?_
   try simp only [Act.put,List.getElem_toArray,List.getElem_cons_zero,List.getElem_cons_succ,List.setIfInBounds_toArray,List.set_cons_zero,List.set_cons_succ]
   refine wpAnyH_take (i:=10) (v:=.int .i64 i) rfl (by kernel_rfl) (by kernel_rfl) (by kernel_rfl) (fun _ _ _ h=>h) (Or.inl ⟨by rfl,fun w hS=>by have e:=(HC.out w hS).2.2;go_simp⟩) hS ?_
   try simp only [Act.put,List.getElem_toArray,List.getElem_cons_zero,List.getElem_cons_succ,List.setIfInBounds_toArray,List.set_cons_zero,List.set_cons_succ]
   refine wpAnyH_take (i:=11) (v:=.int .i64 (bd:Int)) rfl (by kernel_rfl) (by kernel_rfl) (by kernel_rfl) (fun _ _ _ h=>h) (Or.inl ⟨by rfl,fun w hS=>by go_simp⟩) hS ?_
   try simp only [Act.put,List.getElem_toArray,List.getElem_cons_zero,List.getElem_cons_succ,List.setIfInBounds_toArray,List.set_cons_zero,List.set_cons_succ]
   refine wpAnyH_take (i:=12) (v:=.int .i64 J) rfl (by kernel_rfl) (by kernel_rfl) (by kernel_rfl) (fun _ _ _ h=>h) (Or.inl ⟨by rfl,fun w hS=>by have e2:=wrJ;go_simp⟩) hS ?_
   try simp only [Act.put,List.getElem_toArray,List.getElem_cons_zero,List.getElem_cons_succ,List.setIfInBounds_toArray,List.set_cons_zero,List.set_cons_succ]
   refine wpAnyH_ready (rs:=[7]) (by kernel_rfl) (by simp) ?_
   refine ready_cons rfl (fun KK hKK=>?_) AllReadyH.nil
   refine⟨?_⟩
   have cc:=drop_any c.1.val J wd (by omega)
   go_simp
   refine cc.mono ?_
   rintro e w2 ⟨rfl,hbw2⟩
   have hbd:Below wb.heap.size wb w2:=hbd.trans (hbw2.mono hbd.size)
   have hSw2:Below n1 W w2∧w2.heap[p]? = some (.cells #[.int .u32 (c.1.val:Int),.int .u32 (c.2.val:Int)] 38 (0,0)):=⟨hSb.trans (hbd.mono (by omega)),(hbd.block p (by omega)).trans Hmb.out⟩
   clear cc hbw2
   refine hKK.out _ _ hSw2 (fun hS=>?_)
   clear hKK KK
   try simp only [Act.put,List.getElem_toArray,List.getElem_cons_zero,List.getElem_cons_succ,List.setIfInBounds_toArray,List.set_cons_zero,List.set_cons_succ]
   refine wpAnyH_ready (rs:=[13]) (by kernel_rfl) (by simp) ?_
   refine ready_cons rfl (fun KK hKK=>?_) AllReadyH.nil
   refine⟨?_⟩
   have cc:=drop_any c.2.val J w2 (by omega)
   go_simp
   refine cc.mono ?_
   rintro e w3 ⟨rfl,hbw3⟩
   have hbd:Below wb.heap.size wb w3:=hbd.trans (hbw3.mono hbd.size)
   have hSw3:Below n1 W w3∧w3.heap[p]? = some (.cells #[.int .u32 (c.1.val:Int),.int .u32 (c.2.val:Int)] 38 (0,0)):=⟨hSb.trans (hbd.mono (by omega)),(hbd.block p (by omega)).trans Hmb.out⟩
   clear cc hbw3
   refine hKK.out _ _ hSw3 (fun hS=>?_)
   clear hKK KK
   try simp only [Act.put,List.getElem_toArray,List.getElem_cons_zero,List.getElem_cons_succ,List.setIfInBounds_toArray,List.set_cons_zero,List.set_cons_succ]
   refine wpAnyH_take (i:=14) (v:=.agg #[.int .u32 ((dropN c.1.val J:Nat):Int),.int .u32 ((dropN c.2.val J:Nat):Int)]) rfl (by kernel_rfl) (by kernel_rfl) (by kernel_rfl) (fun _ _ _ h=>h) (Or.inl ⟨by rfl,fun w hS=>by go_simp⟩) hS ?_
   try simp only [Act.put,List.getElem_toArray,List.getElem_cons_zero,List.getElem_cons_succ,List.setIfInBounds_toArray,List.set_cons_zero,List.set_cons_succ]
   refine wpAnyH_take (i:=15) (v:=.pointer (some ⟨n1,k*2,none⟩)) rfl (by kernel_rfl) (by kernel_rfl) (by kernel_rfl) (fun _ _ _ h=>h) (Or.inl ⟨by rfl,fun w hS=>by go_simp⟩) hS ?_
   try simp only [Act.put,List.getElem_toArray,List.getElem_cons_zero,List.getElem_cons_succ,List.setIfInBounds_toArray,List.set_cons_zero,List.set_cons_succ]
   have hO3:=HO.out w3 hbd
   obtain⟨⟨u0,q0⟩,⟨u1,q1⟩,f0,f1⟩:=own_at2 Hlen.out hO3 (k:=k) (by rw [← Hlen.out];exact hlt)
   have hs3:n1≤w3.heap.size:=by have:=hbd.size;omega
   have hst:=own_set2 (d:=drC J c) Hlen.out hO3 (k:=k) (by rw [← Hlen.out];exact hlt) hs3
   rw [HSt.out] at hst
   obtain⟨w4,hw4⟩:∃ V,V=(w3.setCell ⟨n1,k*2,none⟩ (.int .u32 ((dropN c.1.val J:Nat):Int))).setCell ⟨n1,k*2+1,none⟩ (.int .u32 ((dropN c.2.val J:Nat):Int)):=⟨_,rfl⟩
   have hst2:OwnsC w4 n1 (.slice (some ⟨n1,0,none⟩) L L) (drK J l (k+1))∧Below n1 w3 w4:=by rw [hw4];exact hst
   have hS4:Below n1 W w4:=hS.1.trans hst2.2
   have hk4:Kn (fun q=>q≠n1) w3 w4:=by rw [hw4];exact (kn_set _ _ _ _).trans (kn_set _ _ _ _)
   have hS5:Below n1 W w4∧w4.heap[p]? = some (.cells #[.int .u32 (c.1.val:Int),.int .u32 (c.2.val:Int)] 38 (0,0)):=⟨hS4,(hk4.block p hpn (by have:=hbd.size;omega)).trans hS.2⟩
   have hO4:=hst2.1
   have H4:Hid (_=_):=hw4
   clear hw4 hst hst2 hO3 hk4
   refine wpAnyH_ready (rs:=[16]) (by kernel_rfl) (by simp) ?_
   refine ready_cons rfl (fun KK hKK=>?_) AllReadyH.nil
   refine⟨?_⟩
   go_simp
   rw [← H4.out]
   refine hKK.out _ _ hS5 (fun hS=>?_)
   clear hKK KK
   try simp only [Act.put,List.getElem_toArray,List.getElem_cons_zero,List.getElem_cons_succ,List.setIfInBounds_toArray,List.set_cons_zero,List.set_cons_succ]
   refine wpAnyH_done (by kernel_rfl) ?_ _
   go_wp2_with fail
   go_roundw
   case rel=>exact⟨k+1,by omega,by go_num,hO4,hS4⟩
   case measure=>simp [intOf];omega
  ·have hkI:¬ (k:Int) < (L:Int):=by omega
   obtain rfl:k=L:=by omega
   go_wp2_with fail
   go_ret
   exact⟨.ok rfl hO,hSo⟩
set_option maxRecDepth 100000 in
set_option maxHeartbeats 4000000 in
theorem dropping_any (i:Int) (w:World) (hi0:0≤i∧i≤1000000) :
  Calls Tryz.prog 41 #[.int .i64 i] w fun e w'=>∃ fV cV,e=.returned (.agg #[fV,cV])∧RowC (dropOp i).fn fV w'∧RowC (dropOp i).fc cV w'∧Below w.heap.size w w':=by
 obtain⟨X,hX⟩:∃ X,X=w.heap.size:=⟨_,rfl⟩
 obtain⟨w1,hw1⟩:∃ W,W=(w.alloc (.cells #[.int .i64 i] 3)).alloc (.cells #[.func (.func 91) #[] #[.pointer (some ⟨w.heap.size,0,none⟩)],.func (.func 91) #[] #[.pointer (some ⟨w.heap.size,0,none⟩)]] 67):=⟨_,rfl⟩
 have b1:Below w.heap.size w w1:=by rw [hw1];exact bchain (belowA _ _) (belowA _ _)
 have m0:w1.heap[X]? = some (.cells #[.int .i64 i] 3 (0,0)):=by rw [hw1,hX];exact (Below.heap_alloc _ _ _ (by simp)).trans (heapNew w _)
 have m1:w1.heap[X+1]? = some (.cells #[.func (.func 91) #[] #[.pointer (some ⟨X,0,none⟩)],.func (.func 91) #[] #[.pointer (some ⟨X,0,none⟩)]] 67 (0,0)):=by
  rw [hw1,hX]
  have:=heapNew (w.alloc (.cells #[.int .i64 i] 3)) (.cells #[.func (.func 91) #[] #[.pointer (some ⟨w.heap.size,0,none⟩)],.func (.func 91) #[] #[.pointer (some ⟨w.heap.size,0,none⟩)]] 67);rwa [World.size_alloc] at this
 have HA:Hid (RowC (dropRow i) (.func (.func 91) #[] #[.pointer (some ⟨X,0,none⟩)]) w1):=drow_any i X w1 m0 hi0
 have y0:w1.cell? ⟨X+1,0,none⟩=some (.func (.func 91) #[] #[.pointer (some ⟨X,0,none⟩)]):=by simp [World.cell?,m1]
 have y1:w1.cell? ⟨X+1,1,none⟩=some (.func (.func 91) #[] #[.pointer (some ⟨X,0,none⟩)]):=by simp [World.cell?,m1]
 have HX:Hid (X=w.heap.size):=hX
 have H1:Hid (_=_):=hw1
 have hmk:=mkfd
 clear hw1 hX m0 m1
 go_enter Tryz.func41,Tryz.ntmps41
 go_wp2_with fail
 rw [← H1.out]
 simp only [← HX.out]
 exact bodyPost_ret (v:=.agg #[.func (.func 91) #[] #[.pointer (some ⟨X,0,none⟩)],.func (.func 91) #[] #[.pointer (some ⟨X,0,none⟩)]]) (by simp only [results,Tryz.results41];simp [go_sem,y0,y1]) rfl ⟨_,_,rfl,HA.out,HA.out,by rw [HX.out];exact b1⟩
end Go.Proofs.YtpmmbfngogpinaaGreat

set_option linter.unusedVariables false
set_option linter.unusedSimpArgs false
namespace Go.Proofs.YtpmmbfngogpinaaGreat
open Go.RowKit
def dimF (i:Int):List C × Int:=if isDimB i then ([posB i.toNat],0) else ([],2)
theorem dim_any (i:Int) (w:World):Calls Tryz.prog 72 #[.int .i64 i] w fun e w'=>∃ v,e=.returned (.tuple #[v,.int .i64 (dimF i).2])∧OwnsC w' w.heap.size v (dimF i).1∧Below w.heap.size w w':=by
 have hH:=has_all i w
 cases hd:isDimB i
 ·have H:Hid (dimF i=([],2)):=by unfold dimF;exact if_neg (by simp [hd])
  rw [hd] at hH
  go_enter Tryz.func72,Tryz.ntmps72
  go_wp2_with (go_at_call 76;refine hH.mono ?_;rintro e w' ⟨rfl,rfl⟩)
  go_ret2
  rw [H.out]
  exact⟨_,rfl,World.ownsRow_nil _ _ _ _,Below.refl _ _⟩
 ·have H:Hid (dimF i=([posB i.toNat],0)):=by unfold dimF;exact if_pos hd
  rw [hd] at hH
  have hi:0≤i∧i<24:=by simpa [isDimB] using hd
  obtain⟨k,rfl⟩:∃ k:Nat,i=(k:Int):=⟨i.toNat,by omega⟩
  have hk:k<24:=by omega
  have hW:=with0 k hk w
  rw [Int.toNat_natCast] at H
  clear hd hi
  go_enter Tryz.func72,Tryz.ntmps72
  go_wp2_with (first
   | (go_at_call 76;refine hH.mono ?_;rintro e w1 ⟨rfl,hw1⟩;subst hw1)
   | (go_at_call 117;refine hW.mono ?_;rintro e w2 ⟨rfl,hw2⟩;subst hw2))
  go_ret2
  rw [H.out]
  exact⟨_,rfl,own_one1 _ (posB k) _ (Nat.le_refl _),below_alloc _ _⟩
def wrD (i:Int) (r:List C) (t:Tm):Int:=if wrongN true 0 0 t=0 then (if isDimB i=true∧rightF r=true then 0 else 2) else ((wrongN true 0 0 t:Nat):Int)
theorem wrD_ok {i:Int} {r:List C} {t:Tm} (h:wrD i r t=0):(0≤i∧i<24)∧rightF r=true∧wrongN true 0 0 t=0:=by
 unfold wrD at h
 split at h
 ·rename_i h1
  split at h
  ·rename_i h2;exact⟨by simpa [isDimB] using h2.1,h2.2,h1⟩
  ·cases h
 ·omega
set_option maxRecDepth 100000 in
set_option maxHeartbeats 2000000 in
theorem dwrong_any (t:Tm) (v:Value) (w:World) (hv:TmIn Tt w t v) (hb:blk t≤20000) (i:Int) (r:List C) (vr:Value) (hr:ClRow Tt w r vr) (hrl:r.length≤40000):Calls Tryz.prog 34 #[v,.int .i64 i,vr] w fun e w'=>e=.returned (.int .i64 (wrD i r t))∧Below w.heap.size w w':=by
 obtain⟨ra,rc,ka,kc,sa,sc,rfl,ht⟩:=hv.form
 obtain⟨w1,hw1⟩:∃ W,W=w.alloc (.cells #[.int .i64 t.kind,.int .i64 t.n,.string t.name,.slice ra t.r.length rc,.slice ka t.kids.length kc,.slice sa t.sys.length sc] 26):=⟨_,rfl⟩
 have b1:Below w.heap.size w w1:=by rw [hw1];exact belowA _ _
 obtain⟨_,y0,y1,y2,y3,y4,y5⟩:Cs6 w1 w.heap.size 0 t ra rc ka kc sa sc:=by rw [hw1];exact cs6_new w t ra rc ka kc sa sc
 simp only [Nat.zero_add] at y1 y2 y3 y4 y5
 have cc:=formed_any t _ w1 (ht.blw b1).value hb
 have HA:Hid (wrD i r t=if wrongN true 0 0 t=0 then (if isDimB i=true∧rightF r=true then 0 else 2) else ((wrongN true 0 0 t:Nat):Int)):=(rfl:_=_)
 obtain⟨f,hf⟩:∃ f,f=wrongN true 0 0 t:=⟨_,rfl⟩
 rw [← hf] at cc HA
 have HW:Hid (_=_):=hw1
 have Hr:Hid (∀ V,Below w.heap.size w V→FRow V vr r):=fun V q=>(hr.blw q).frow
 obtain⟨va,vc,rfl,_⟩:=id hr
 obtain⟨LR,hLR⟩:∃ L,L=r.length:=⟨_,rfl⟩
 rw [← hLR] at Hr
 simp only [← hLR]
 have HLR:Hid (r.length≤100000):=(by omega:_≤_)
 have HB1:Hid (Below w.heap.size w w1):=b1
 have HD:Hid ((dimF i).2=if isDimB i then 0 else 2):=(by unfold dimF;split <;> rfl:_=_)
 clear hw1 hf hv ht hr hLR
 go_enter Tryz.func34,Tryz.ntmps34
 go_upto_region 1 with fail
 rw [← HW.out]
 clear HW
 go_wp2_with fail
 refine cc.mono ?_
 rintro e w2 ⟨rfl,b2⟩
 have b12:=bchain b1 b2
 clear cc y0 y1 y2 y3 y4 y5
 by_cases h0:f=0
 ·subst h0
  have cd:=dim_any i w2
  rw [if_pos rfl] at HA
  go_wp2_with fail
  refine cd.mono ?_
  rintro e w3 ⟨v3,rfl,hO3,b3⟩
  clear cd
  obtain⟨a3,c3,rfl⟩:=OwnsC.len hO3
  rw [HD.out]
  generalize (dimF i).1.length=L3
  have b13:=bchain b12 b3
  cases hi:isDimB i
  ·have Hz:Hid (wrD i r t=2):=(by rw [HA.out,hi];exact if_neg (by simp):_=_)
   simp only [Bool.false_eq_true,if_false]
   go_wp2_with fail
   go_ret
   exact⟨by rw [Hz.out];rfl,b13⟩
  ·have cr:=fright_any r _ w3 (Hr.out w3 b13) HLR.out
   simp only [if_true]
   cases hq:rightF r
   ·have Hz:Hid (wrD i r t=2):=(by rw [HA.out,hi,hq];exact if_neg (by simp):_=_)
    rw [hq] at cr
    go_wp2_with fail
    refine cr.mono ?_
    rintro e w4 ⟨rfl,b4⟩
    have b14:=bchain b13 b4
    clear cr
    go_wp2_with fail
    go_ret
    exact⟨by rw [Hz.out];rfl,b14⟩
   ·have Hz:Hid (wrD i r t=0):=(by rw [HA.out,hi,hq];exact if_pos ⟨rfl,rfl⟩:_=_)
    rw [hq] at cr
    go_wp2_with fail
    refine cr.mono ?_
    rintro e w4 ⟨rfl,b4⟩
    have b14:=bchain b13 b4
    clear cr
    go_wp2_with fail
    go_ret
    exact⟨by rw [Hz.out];rfl,b14⟩
 ·have h1:((f:Int) == 0)=false:=by simp;omega
  have Hz:Hid (wrD i r t=(f:Int)):=(by rw [HA.out,if_neg h0]:_=_)
  go_wp2_with fail
  go_ret
  exact⟨by rw [Hz.out];rfl,b12⟩
theorem keepD {n X ob:Nat} {w4 w5:World} {T:Tm} {v:Value} (h:TmIn (OkN n w4) w4 T v) (hk:Kn (fun q=>q≠ob) w4 w5) (ho:ob<n) (hX:X≤n):TmIn (OkN X w5) w5 T v :=
 h.keep hk.size (fun q hq=>(hq.same (hk.block q (by have:=hq.1;omega) hq.lt)).mono (by omega)) (fun q hq hs=>hk.block q (by have:=hq.1;omega) hs)
def putE (i:Int) (r:List C) (t:Tm):Int:=if wrD i r t=0 then eT (putOp i r) t 0 else wrD i r t
def putT' (i:Int) (r:List C) (t:Tm):Tm:=if wrD i r t=0 then ansD (putOp i r) t else noT
set_option maxRecDepth 100000 in
set_option maxHeartbeats 4000000 in
theorem dput_any (t:Tm) (v:Value) (w:World) (hv:TmIn Tt w t v) (hb:blk t≤20000) (i:Int) (r:List C) (vr:Value) (hr:ClRow Tt w r vr) (hrl:r.length≤40000):Calls Tryz.prog 11 #[v,.int .i64 i,vr] w fun e w'=>∃ v',e=.returned (.tuple #[v',.int .i64 (putE i r t)])∧TmIn (OkN w.heap.size w') w' (putT' i r t) v'∧Below w.heap.size w w':=by
 obtain⟨ra,rc,ka,kc,sa,sc,rfl,ht⟩:=hv.form
 obtain⟨w1,hw1⟩:∃ W,W=(w.alloc (.cells #[.int .i64 t.kind,.int .i64 t.n,.string t.name,.slice ra t.r.length rc,.slice ka t.kids.length kc,.slice sa t.sys.length sc] 26)).alloc (.cells #[.int .i64 0,.int .i64 0,.string ⟨#[]⟩,.slice none 0 0,.slice none 0 0,.slice none 0 0] 26):=⟨_,rfl⟩
 have b1:Below w.heap.size w w1:=by rw [hw1];exact bchain (belowA _ _) (belowA _ _)
 obtain⟨X,hX⟩:∃ X,X=w.heap.size:=⟨_,rfl⟩
 have s1:w1.heap.size=X+2:=by rw [hw1,hX];simp
 have x1:Six w1 X (.int .i64 t.kind) (.int .i64 t.n) (.string t.name) (.slice ra t.r.length rc) (.slice ka t.kids.length kc) (.slice sa t.sys.length sc):=⟨by rw [hX,hw1];exact (Below.heap_alloc _ _ _ (by simp)).trans (heapNew w _)⟩
 have x2:Six w1 (X+1) (.int .i64 0) (.int .i64 0) (.string ⟨#[]⟩) (.slice none 0 0) (.slice none 0 0) (.slice none 0 0):=⟨by
  rw [hX,hw1];have:=heapNew (w.alloc (.cells #[.int .i64 t.kind,.int .i64 t.n,.string t.name,.slice ra t.r.length rc,.slice ka t.kids.length kc,.slice sa t.sys.length sc] 26)) (.cells #[.int .i64 0,.int .i64 0,.string ⟨#[]⟩,.slice none 0 0,.slice none 0 0,.slice none 0 0] 26);rwa [World.size_alloc] at this⟩
 have HC:Hid (∀ W,Below w1.heap.size w1 W→Six W X (.int .i64 t.kind) (.int .i64 t.n) (.string t.name) (.slice ra t.r.length rc) (.slice ka t.kids.length kc) (.slice sa t.sys.length sc)):=fun W q=>x1.blw q
 have HZ:Hid (∀ W,Below w1.heap.size w1 W→Six W (X+1) (.int .i64 0) (.int .i64 0) (.string ⟨#[]⟩) (.slice none 0 0) (.slice none 0 0) (.slice none 0 0)):=fun W q=>x2.blw q
 have HT:Hid (∀ W,Below w1.heap.size w1 W→TmIn Tt W t (.agg #[.int .i64 t.kind,.int .i64 t.n,.string t.name,.slice ra t.r.length rc,.slice ka t.kids.length kc,.slice sa t.sys.length sc])):=fun W q=>((ht.blw b1).blw q).value
 have HB:Hid (∀ W,Below w1.heap.size w1 W→Below X w W):=fun W q=>by rw [hX];exact bchain b1 q
 have HXs:Hid (X=w.heap.size):=hX
 have Hs1:Hid (w1.heap.size=X+2):=s1
 have HW:Hid (_=_):=hw1
 have HR:Hid (∀ W,Below w1.heap.size w1 W→ClRow Tt W r vr):=fun W q=>(hr.blw b1).blw q
 have cw:=dwrong_any t _ w1 (HT.out w1 (Below.refl _ _)) hb i r vr (HR.out w1 (Below.refl _ _)) hrl
 have HE:Hid (putE i r t=(if wrD i r t=0 then eT (putOp i r) t 0 else wrD i r t)∧putT' i r t=(if wrD i r t=0 then ansD (putOp i r) t else noT)):=⟨rfl,rfl⟩
 have HOk:Hid (wrD i r t=0→0≤i∧i≤1000000):=fun h=>by have:=(wrD_ok h).1;omega
 obtain⟨e0,he0⟩:∃ e,e=wrD i r t:=⟨_,rfl⟩
 rw [← he0] at cw HE HOk
 obtain⟨va,vc,rfl,_⟩:=id hr
 obtain⟨LR,hLR⟩:∃ L,L=r.length:=⟨_,rfl⟩
 rw [← hLR] at cw HR
 simp only [← hLR]
 rw [← hX]
 have Hrl:Hid (r.length≤40000):=hrl
 have Hbt:Hid (blk t≤40000):=(by omega:blk t≤40000)
 clear he0 hw1 hX s1 x1 x2 hv ht b1 hr hLR
 go_enter Tryz.func11,Tryz.ntmps11
 go_upto_region 1 with fail
 rw [← HW.out]
 simp only [← HXs.out]
 clear HW
 obtain⟨y0,y1,y2,y3,y4,y5,_⟩:=(HC.out w1 (Below.refl _ _)).cells
 go_wp2_with fail
 refine cw.mono ?_
 rintro e w2 ⟨rfl,b2⟩
 clear cw y0 y1 y2 y3 y4 y5
 have hsz:=Hs1.out
 by_cases hz:e0=0
 ·subst hz
  have hok:=HOk.out rfl
  have cP:Hid (∀ V,Below w1.heap.size w1 V→Calls Tryz.prog 35 #[.int .i64 i,.slice va LR vc] V fun e w'=>∃ fV cV,e=.returned (.agg #[fV,cV])∧RowC (putOp i r).fn fV w'∧RowC (putOp i r).fc cV w'∧Below V.heap.size V w'):=fun V q=>putting_any i r _ V (HR.out V q) Hrl.out hok
  have cT:Hid (∀ V fV cV,Below w1.heap.size w1 V→RowC (putOp i r).fn fV V→RowC (putOp i r).fc cV V→Calls Tryz.prog 36 #[.agg #[fV,cV],.agg #[.int .i64 t.kind,.int .i64 t.n,.string t.name,.slice ra t.r.length rc,.slice ka t.kids.length kc,.slice sa t.sys.length sc]] V fun e w'=>∃ v',e=.returned (.tuple #[v',.int .i64 (eT (putOp i r) t 0)])∧TmIn (OkN V.heap.size w') w' (ansD (putOp i r) t) v'∧Below V.heap.size V w'):=fun V fV cV q h1 h2=>dterm_any t _ V (HT.out V q) h1 h2 Hbt.out
  obtain⟨er,her⟩:∃ e,e=eT (putOp i r) t 0:=⟨_,rfl⟩
  obtain⟨T,hT⟩:∃ T,T=ansD (putOp i r) t:=⟨_,rfl⟩
  rw [← her,← hT] at cT
  have Hf:Hid (putE i r t=er∧putT' i r t=T):=⟨by rw [HE.out.1,if_pos rfl,her],by rw [HE.out.2,if_pos rfl,hT]⟩
  clear her hT HE HOk
  go_upto_region 4 with fail
  refine wp_region_held_drew (S:=fun V=>Below X w V∧Six V X (.int .i64 t.kind) (.int .i64 t.n) (.string t.name) (.slice ra t.r.length rc) (.slice ka t.kids.length kc) (.slice sa t.sys.length sc)) (by kernel_rfl) ⟨(HB.out w2 b2).drew,⟨(HC.out w2 b2).blk⟩⟩ (fun hS=>?_)
  obtain⟨wd,hwd⟩:∃ V,V=w2.drew:=⟨_,rfl⟩
  have hbd:Below w1.heap.size w1 wd:=by rw [hwd];exact b2.drew
  rw [← hwd] at hS ⊢
  clear hwd b2
  refine wpAnyH_take (i:=0) (v:=.int .i64 i) rfl (by kernel_rfl) (by kernel_rfl) (by kernel_rfl) (fun _ _ _ h=>h) (Or.inl ⟨by rfl,fun w hS=>by go_simp⟩) hS ?_
  try simp only [Act.put,List.getElem_toArray,List.getElem_cons_zero,List.getElem_cons_succ,List.setIfInBounds_toArray,List.set_cons_zero,List.set_cons_succ]
  refine wpAnyH_take (i:=1) (v:=.slice va LR vc) rfl (by kernel_rfl) (by kernel_rfl) (by kernel_rfl) (fun _ _ _ h=>h) (Or.inl ⟨by rfl,fun w hS=>by go_simp⟩) hS ?_
  try simp only [Act.put,List.getElem_toArray,List.getElem_cons_zero,List.getElem_cons_succ,List.setIfInBounds_toArray,List.set_cons_zero,List.set_cons_succ]
  refine wpAnyH_take (i:=3) (v:=.agg #[.int .i64 t.kind,.int .i64 t.n,.string t.name,.slice ra t.r.length rc,.slice ka t.kids.length kc,.slice sa t.sys.length sc]) rfl (by kernel_rfl) (by kernel_rfl) (by kernel_rfl) (fun _ _ _ h=>h) (Or.inl ⟨by rfl,fun w hS=>by obtain⟨y0,y1,y2,y3,y4,y5,_⟩:=hS.2.cells;go_simp⟩) hS ?_
  try simp only [Act.put,List.getElem_toArray,List.getElem_cons_zero,List.getElem_cons_succ,List.setIfInBounds_toArray,List.set_cons_zero,List.set_cons_succ]
  refine wpAnyH_ready (rs:=[2]) (by kernel_rfl) (by simp) ?_
  refine ready_cons rfl (fun KK hKK=>?_) AllReadyH.nil
  refine⟨?_⟩
  have cc:=cP.out wd hbd
  go_simp
  refine cc.mono ?_
  rintro e w3 ⟨fV,cV,rfl,hF,hC,hbq⟩
  have hbd:Below w1.heap.size w1 w3:=hbd.trans (hbq.mono hbd.size)
  clear cc hbq
  refine hKK.out _ _ ⟨HB.out w3 hbd,HC.out w3 hbd⟩ (fun hS=>?_)
  clear hKK KK
  try simp only [Act.put,List.getElem_toArray,List.getElem_cons_zero,List.getElem_cons_succ,List.setIfInBounds_toArray,List.set_cons_zero,List.set_cons_succ]
  refine wpAnyH_ready (rs:=[4]) (by kernel_rfl) (by simp) ?_
  refine ready_cons rfl (fun KK hKK=>?_) AllReadyH.nil
  refine⟨?_⟩
  have cc:=cT.out w3 fV cV hbd hF hC
  go_simp
  refine cc.mono ?_
  rintro e w4 ⟨v3,rfl,hv3,hb3⟩
  obtain⟨ra2,rc2,ka2,kc2,sa2,sc2,rfl,ht2⟩:=hv3.form
  have htv:=ht2.value
  have hn3:=hbd.size
  have hbd:Below w1.heap.size w1 w4:=hbd.trans (hb3.mono hbd.size)
  clear cc ht2 hv3
  refine hKK.out _ _ ⟨HB.out w4 hbd,HC.out w4 hbd⟩ (fun hS=>?_)
  clear hKK KK
  try simp only [Act.put,List.getElem_toArray,List.getElem_cons_zero,List.getElem_cons_succ,List.setIfInBounds_toArray,List.set_cons_zero,List.set_cons_succ]
  refine wpAnyH_take (i:=5) (v:=.agg #[.int .i64 T.kind,.int .i64 T.n,.string T.name,.slice ra2 T.r.length rc2,.slice ka2 T.kids.length kc2,.slice sa2 T.sys.length sc2]) rfl (by kernel_rfl) (by kernel_rfl) (by kernel_rfl) (fun _ _ _ h=>h) (Or.inl ⟨by rfl,fun w hS=>by go_simp⟩) hS ?_
  try simp only [Act.put,List.getElem_toArray,List.getElem_cons_zero,List.getElem_cons_succ,List.setIfInBounds_toArray,List.set_cons_zero,List.set_cons_succ]
  refine wpAnyH_take (i:=6) (v:=.int .i64 er) rfl (by kernel_rfl) (by kernel_rfl) (by kernel_rfl) (fun _ _ _ h=>h) (Or.inl ⟨by rfl,fun w hS=>by go_simp⟩) hS ?_
  try simp only [Act.put,List.getElem_toArray,List.getElem_cons_zero,List.getElem_cons_succ,List.setIfInBounds_toArray,List.set_cons_zero,List.set_cons_succ]
  have zz:=HZ.out w4 hbd
  have zz2:=zz.set6 (.int .i64 T.kind) (.int .i64 T.n) (.string T.name) (.slice ra2 T.r.length rc2) (.slice ka2 T.kids.length kc2) (.slice sa2 T.sys.length sc2)
  obtain⟨o0,o1,o2,o3,o4,o5,ff⟩:=zz.cells
  have f0:=ff 0
  have f1:=ff 1
  have f2:=ff 2
  have f3:=ff 3
  have f4:=ff 4
  have f5:=ff 5
  obtain⟨w5,hwz⟩:∃ W,W=(((((w4.setCell ⟨X+1,0,none⟩ (.int .i64 T.kind)).setCell ⟨X+1,1,none⟩ (.int .i64 T.n)).setCell ⟨X+1,2,none⟩ (.string T.name)).setCell ⟨X+1,3,none⟩ (.slice ra2 T.r.length rc2)).setCell ⟨X+1,4,none⟩ (.slice ka2 T.kids.length kc2)).setCell ⟨X+1,5,none⟩ (.slice sa2 T.sys.length sc2):=⟨_,rfl⟩
  rw [← hwz] at zz2
  have kz:Kn (fun q=>q≠X+1) w4 w5:=by rw [hwz];exact kn_set6 _ _ _ _ _ _ _ _
  have HTm:Hid (TmIn (OkN X w5) w5 T (.agg #[.int .i64 T.kind,.int .i64 T.n,.string T.name,.slice ra2 T.r.length rc2,.slice ka2 T.kids.length kc2,.slice sa2 T.sys.length sc2])):=keepD htv kz (by omega) (by omega)
  have hS5:Below X w w5∧Six w5 X (.int .i64 t.kind) (.int .i64 t.n) (.string t.name) (.slice ra t.r.length rc) (.slice ka t.kids.length kc) (.slice sa t.sys.length sc):=⟨(HB.out w4 hbd).trans (kz.below (fun q hq=>by omega) (by have:=(HB.out w4 hbd).size;have:=HXs.out;omega)),(HC.out w4 hbd).kn kz (by omega)⟩
  have Hwz:Hid (_=_):=hwz
  clear hwz ff zz kz htv
  refine wpAnyH_ready (rs:=[7]) (by kernel_rfl) (by simp) ?_
  refine ready_cons rfl (fun KK hKK=>?_) AllReadyH.nil
  refine⟨?_⟩
  go_simp
  rw [← Hwz.out]
  refine hKK.out _ _ hS5 (fun hS=>?_)
  clear hKK KK
  try simp only [Act.put,List.getElem_toArray,List.getElem_cons_zero,List.getElem_cons_succ,List.setIfInBounds_toArray,List.set_cons_zero,List.set_cons_succ]
  refine wpAnyH_take (i:=8) (v:=.int .i64 er) rfl (by kernel_rfl) (by kernel_rfl) (by kernel_rfl) (fun _ _ _ h=>h) (Or.inl ⟨by rfl,fun w hS=>by go_simp⟩) hS ?_
  try simp only [Act.put,List.getElem_toArray,List.getElem_cons_zero,List.getElem_cons_succ,List.setIfInBounds_toArray,List.set_cons_zero,List.set_cons_succ]
  obtain⟨h0,h1,h2,h3,h4,h5,_⟩:=zz2.cells
  refine wpAnyH_done (by kernel_rfl) ?_ _
  go_wp2_with fail
  exact bodyPost_ret (v:=.tuple #[.agg #[.int .i64 T.kind,.int .i64 T.n,.string T.name,.slice ra2 T.r.length rc2,.slice ka2 T.kids.length kc2,.slice sa2 T.sys.length sc2],.int .i64 (er)]) (by simp only [results,Tryz.results11];simp [go_sem,h0,h1,h2,h3,h4,h5]) rfl ⟨_,by rw [Hf.out.1],by rw [Hf.out.2];exact HTm.out,hS.1⟩
 ·skip
  have Hf:Hid (putE i r t=e0∧putT' i r t=noT):=⟨by rw [HE.out.1,if_neg hz],by rw [HE.out.2,if_neg hz]⟩
  have hz1:(e0 == 0)=false:=by simpa using hz
  clear HE HOk
  have zz:=HZ.out w2 b2
  have zz2:=zz.set6 (.int .i64 0) (.int .i64 0) (.string ⟨#[]⟩) (.slice none 0 0) (.slice none 0 0) (.slice none 0 0)
  obtain⟨o0,o1,o2,o3,o4,o5,ff⟩:=zz.cells
  have f0:=ff 0
  have f1:=ff 1
  have f2:=ff 2
  have f3:=ff 3
  have f4:=ff 4
  have f5:=ff 5
  obtain⟨h0,h1,h2,h3,h4,h5,_⟩:=zz2.cells
  obtain⟨wz,hwz⟩:∃ W,W=(((((w2.setCell ⟨X+1,0,none⟩ (.int .i64 0)).setCell ⟨X+1,1,none⟩ (.int .i64 0)).setCell ⟨X+1,2,none⟩ (.string ⟨#[]⟩)).setCell ⟨X+1,3,none⟩ (.slice none 0 0)).setCell ⟨X+1,4,none⟩ (.slice none 0 0)).setCell ⟨X+1,5,none⟩ (.slice none 0 0):=⟨_,rfl⟩
  rw [← hwz] at h0 h1 h2 h3 h4 h5
  have kz:Kn (fun q=>q≠X+1) w2 wz:=by rw [hwz];exact kn_set6 _ _ _ _ _ _ _ _
  have bz:Below X w wz:=(HB.out w2 b2).trans (kz.below (fun q hq=>by omega) (by have:=(HB.out w2 b2).size;have:=HXs.out;omega))
  have Hwz:Hid (_=_):=hwz
  clear hwz ff zz zz2 kz
  go_wp2_with fail
  rw [← Hwz.out]
  exact bodyPost_ret (v:=.tuple #[.agg #[.int .i64 0,.int .i64 0,.string ⟨#[]⟩,.slice none 0 0,.slice none 0 0,.slice none 0 0],.int .i64 (e0)]) (by simp only [results,Tryz.results11];simp [go_sem,h0,h1,h2,h3,h4,h5]) rfl ⟨_,by rw [Hf.out.1],by rw [Hf.out.2];exact noT_in _ _,bz⟩
end Go.Proofs.YtpmmbfngogpinaaGreat

set_option linter.unusedVariables false
set_option linter.unusedSimpArgs false
namespace Go.Proofs.YtpmmbfngogpinaaGreat
open Go.RowKit
def capT:Tm→Nat:=Tm.fold fun _ _ s r ks sys=>1+max r.length 64+s.size+ks.sum+(sys.map fun b=>1+max b.1.length 64+b.2.sum).sum
def capL (l:List Tm):Nat:=(l.map capT).sum
def capS (l:List (List C × List Tm)):Nat:=(l.map fun b=>1+max b.1.length 64+capL b.2).sum
theorem cap_eq (t:Tm):capT t=1+max t.r.length 64+t.name.size+capL t.kids+capS t.sys:=by
 unfold capT;rw [fold_mk];simp only [List.map_map,Function.comp_def];rfl
def DOp.len64 (o:DOp):Prop:=∀ l bd,(o.fn l bd).1.length≤max l.length 64∧(o.fc l bd).1.length≤max l.length 64
theorem capK_le {o:DOp} {k:Int} {bd:Nat}:∀ (l:List Tm) (k0:Nat),(∀ x∈l,∀ d,capT (dT o x d)≤capT x)→((l.zipIdx k0).map fun p=>capT (dT o p.1 (bd+bdK k p.2))).sum≤(l.map capT).sum
 | [],_,_=>by simp
 | x :: l,k0,h=>by
  have h1:=h x (by simp) (bd+bdK k k0)
  have h2:=capK_le (o:=o) (k:=k) (bd:=bd) l (k0+1) (fun y hy=>h y (List.mem_cons_of_mem _ hy))
  simp only [List.zipIdx_cons,List.map_cons,List.sum_cons]
  omega
theorem capM_le {o:DOp} {d:Nat}:∀ (l:List Tm),(∀ x∈l,∀ d,capT (dT o x d)≤capT x)→capL (l.map fun x=>dT o x d)≤capL l
 | [],_=>by simp [capL]
 | x :: l,h=>by
  have h1:=h x (by simp) d
  have h2:=capM_le (o:=o) (d:=d) l (fun y hy=>h y (List.mem_cons_of_mem _ hy))
  unfold capL at h2 ⊢
  simp only [List.map_cons,List.sum_cons]
  omega
theorem capB_le {o:DOp} (ho:o.len64) {k:Int} {bd:Nat}:∀ (l:List (List C × List Tm)),(∀ b∈l,∀ x∈b.2,∀ d,capT (dT o x d)≤capT x)→capS (dS o k l bd)≤capS l
 | [],_=>by simp [capS,dS]
 | b :: l,h=>by
  have h2:=capB_le ho (k:=k) (bd:=bd) l (fun y hy=>h y (List.mem_cons_of_mem _ hy))
  have h1:=(ho b.1 bd).2
  have h3:=capM_le (o:=o) (d:=bd+moreK k) b.2 (h b (by simp))
  have e:capS (b :: l)=(1+max b.1.length 64+capL b.2) + capS l:=by simp [capS]
  rw [e]
  unfold dS at h2 ⊢
  rw [List.filter_cons]
  split
  ·have e2:∀ m,capS (dB o k b bd :: m)=(1+max (o.fc b.1 bd).1.length 64+capL (b.2.map fun x=>dT o x (bd+moreK k))) + capS m:=fun m=>by simp [capS,dB]
   rw [List.map_cons,e2]
   omega
  ·omega
theorem cap_d {o:DOp} (ho:o.len64):∀ (n:Nat) (t:Tm) (bd:Nat),blk t≤n→capT (dT o t bd)≤capT t
 | 0,t,bd,hn=>by have:=blk_pos t;omega
 | n+1,t,bd,hn=>by
  have h1:(ownP o t.kind t.r bd).1.length≤max t.r.length 64:=by
   unfold ownP
   split
   ·exact (ho _ _).2
   ·exact (ho _ _).1
  have h2:capL (dK o t.kind t.kids bd)≤capL t.kids:=by
   have:=capK_le (o:=o) (k:=t.kind) (bd:=bd) t.kids 0 (fun x hx d=>cap_d ho n x d (by have:=blk_kid hx;omega))
   unfold capL dK
   rw [List.map_map]
   exact this
  have h3:=capB_le ho (k:=t.kind) (bd:=bd) t.sys (fun b hb x hx d=>cap_d ho n x d (by have:=blk_sub hb hx;omega))
  have e:=cap_eq (dT o t bd)
  rw [d_eq o t bd] at e ⊢
  rw [e,cap_eq t]
  show 1+max (ownP o t.kind t.r bd).1.length 64+t.name.size+capL (dK o t.kind t.kids bd) + capS (dS o t.kind t.sys bd)≤_
  omega
theorem cap_dT {o:DOp} (ho:o.len64) (t:Tm) (bd:Nat):capT (dT o t bd)≤capT t:=cap_d ho _ t bd (Nat.le_refl _)
theorem capL_ge:∀ (l:List Tm),(∀ x∈l,blk x≤capT x∧capT x≤65*blk x)→blkL l≤capL l∧capL l≤65*blkL l
 | [],_=>by simp [capL,blkL]
 | x :: l,h=>by
  have h1:=h x (by simp)
  have h2:=capL_ge l (fun y hy=>h y (List.mem_cons_of_mem _ hy))
  unfold capL blkL at h2 ⊢
  simp only [List.map_cons,List.sum_cons]
  omega
theorem capS_ge:∀ (l:List (List C × List Tm)),(∀ b∈l,∀ x∈b.2,blk x≤capT x∧capT x≤65*blk x)→blkS l≤capS l∧capS l≤65*blkS l
 | [],_=>by simp [capS,blkS]
 | b :: l,h=>by
  have h1:=capL_ge b.2 (h b (by simp))
  have h2:=capS_ge l (fun y hy=>h y (List.mem_cons_of_mem _ hy))
  unfold capS blkS at h2 ⊢
  simp only [List.map_cons,List.sum_cons]
  omega
theorem cap_ge':∀ (n:Nat) (t:Tm),blk t≤n→blk t≤capT t∧capT t≤65*blk t
 | 0,t,hn=>by have:=blk_pos t;omega
 | n+1,t,hn=>by
  have h2:=capL_ge t.kids (fun x hx=>cap_ge' n x (by have:=blk_kid hx;omega))
  have h3:=capS_ge t.sys (fun b hb x hx=>cap_ge' n x (by have:=blk_sub hb hx;omega))
  rw [cap_eq,blk_eq]
  omega
theorem cap_ge (t:Tm):blk t≤capT t∧capT t≤65*blk t:=cap_ge' _ t (Nat.le_refl _)
theorem noT_cap:capT noT≤65:=by
 rw [cap_eq]
 simp [noT,capL,capS]
 exact Nat.le_refl 65
theorem putOp_len (i:Int) (r:List C):(putOp i r).len64:=fun l bd=>by
 refine⟨?_,?_⟩ <;> (show (putRow _ i r l bd).1.length≤_;unfold putRow;split)
 ·split
  ·have:=putF_len l (i+bd) (liftFF r 0 bd).1;omega
  ·simp
 ·simp;omega
 ·split
  ·have:=rightA_len (ptA_right l (i+bd) (liftFF r 0 bd).1);omega
  ·simp
 ·simp;omega
theorem cap_ans {o:DOp} (ho:o.len64) (t:Tm):capT (ansD o t)≤capT t:=by
 unfold ansD
 split
 ·exact cap_dT ho t 0
 ·have h1:=noT_cap
  have h2:65≤capT t:=by rw [cap_eq];omega
  omega
end Go.Proofs.YtpmmbfngogpinaaGreat

set_option linter.unusedVariables false
set_option linter.unusedSimpArgs false
namespace Go.Proofs.YtpmmbfngogpinaaGreat
open Go.RowKit
def pallS (r:List C) (a:Tm × Int) (i:Nat):Tm × Int:=if a.2=0 then (if eT (putOp i r) a.1 0=0 then (ansD (putOp i r) a.1,0) else (noT,eT (putOp i r) a.1 0)) else a
def pall (r:List C) (l:List Nat) (t:Tm):Tm × Int:=l.foldl (pallS r) (t,0)
theorem pall_step {r:List C} {l:List Nat} {t:Tm} {k i:Nat} (h:l[k]? = some i):pall r (l.take (k+1)) t=pallS r (pall r (l.take k) t) i:=by
 unfold pall;rw [List.take_add_one,h];simp
theorem pallS_stuck {r:List C}:∀ (l:List Nat) (a:Tm × Int),a.2≠0→l.foldl (pallS r) a=a
  | [],a,_=>rfl
  | i :: l, a, h => by rw [List.foldl_cons]; have e : pallS r a i = a := by unfold pallS; rw [if_neg h]
                       rw [e];exact pallS_stuck l a h
theorem pall_stuck {r:List C} {l:List Nat} {t:Tm} (k:Nat) (h:(pall r (l.take k) t).2≠0):pall r l t=pall r (l.take k) t:=by
 have e:=List.take_append_drop k l
 conv=>lhs;rw [← e]
 unfold pall at h ⊢
 rw [List.foldl_append]
 exact pallS_stuck _ _ h
set_option maxRecDepth 100000 in
set_option maxHeartbeats 8000000 in
theorem pall_any (P:Nat→Prop) (t:Tm) (v:Value) (w:World) (hvv:∀ V,Kn P w V→TmIn Tt V t v) (hb:capT t≤40000) (d:Nat) (hd:d<4294967296) (r:List C) (vr:Value) (hr:ClRow Tt w r vr) (hrl:r.length≤40000):Calls Tryz.prog 46 #[v,.int .u32 (d:Int),vr] w fun e w'=>∃ v',e=.returned (.tuple #[v',.int .i64 (pall r (dimsOf d) t).2])∧(∀ V,Kn (fun q=>P q∨w.heap.size≤q) w' V→TmIn Tt V (pall r (dimsOf d) t).1 v')∧Below w.heap.size w w':=by
 have hv:=hvv w (Kn.refl _ _)
 obtain⟨ra,rc,ka,kc,sa,sc,rfl,ht⟩:=hv.form
 obtain⟨w1,hw1⟩:∃ W,W=(w.alloc (.cells #[.int .i64 t.kind,.int .i64 t.n,.string t.name,.slice ra t.r.length rc,.slice ka t.kids.length kc,.slice sa t.sys.length sc] 26)).alloc (.cells #[.int .i64 0,.int .i64 0,.string ⟨#[]⟩,.slice none 0 0,.slice none 0 0,.slice none 0 0] 26):=⟨_,rfl⟩
 have b1:Below w.heap.size w w1:=by rw [hw1];exact bchain (belowA _ _) (belowA _ _)
 obtain⟨X,hX⟩:∃ X,X=w.heap.size:=⟨_,rfl⟩
 have s1:w1.heap.size=X+2:=by rw [hw1,hX];simp
 have x1:Six w1 X (.int .i64 t.kind) (.int .i64 t.n) (.string t.name) (.slice ra t.r.length rc) (.slice ka t.kids.length kc) (.slice sa t.sys.length sc):=⟨by rw [hX,hw1];exact (Below.heap_alloc _ _ _ (by simp)).trans (heapNew w _)⟩
 have x2:Six w1 (X+1) (.int .i64 0) (.int .i64 0) (.string ⟨#[]⟩) (.slice none 0 0) (.slice none 0 0) (.slice none 0 0):=⟨by
  rw [hX,hw1];have:=heapNew (w.alloc (.cells #[.int .i64 t.kind,.int .i64 t.n,.string t.name,.slice ra t.r.length rc,.slice ka t.kids.length kc,.slice sa t.sys.length sc] 26)) (.cells #[.int .i64 0,.int .i64 0,.string ⟨#[]⟩,.slice none 0 0,.slice none 0 0,.slice none 0 0] 26);rwa [World.size_alloc] at this⟩
 have HC:Hid (∀ W,Below w1.heap.size w1 W→Six W X (.int .i64 t.kind) (.int .i64 t.n) (.string t.name) (.slice ra t.r.length rc) (.slice ka t.kids.length kc) (.slice sa t.sys.length sc)):=fun W q=>x1.blw q
 have HZ:Hid (∀ W,Below w1.heap.size w1 W→Six W (X+1) (.int .i64 0) (.int .i64 0) (.string ⟨#[]⟩) (.slice none 0 0) (.slice none 0 0) (.slice none 0 0)):=fun W q=>x2.blw q
 have HT:Hid (∀ W,Below w1.heap.size w1 W→TmIn Tt W t (.agg #[.int .i64 t.kind,.int .i64 t.n,.string t.name,.slice ra t.r.length rc,.slice ka t.kids.length kc,.slice sa t.sys.length sc])):=fun W q=>((ht.blw b1).blw q).value
 have HB:Hid (∀ W,Below w1.heap.size w1 W→Below X w W):=fun W q=>by rw [hX];exact bchain b1 q
 have HXs:Hid (X=w.heap.size):=hX
 have Hs1:Hid (w1.heap.size=X+2):=s1
 have HW:Hid (_=_):=hw1
 have HR:Hid (∀ W,Below X w W→ClRow Tt W r vr):=fun W q=>hr.blw (by rw [← hX];exact q)
 have HT0:Hid (∀ W W',Below X w W→Kn (fun q=>(P q∨X≤q)∧q≠X∧q≠X+1) W W'→TmIn Tt W' t (.agg #[.int .i64 t.kind,.int .i64 t.n,.string t.name,.slice ra t.r.length rc,.slice ka t.kids.length kc,.slice sa t.sys.length sc])):=fun W W' q q2=>hvv W' ⟨q2.os.trans q.os,q2.tape.trans q.tape,q2.output.trans q.output,Nat.le_trans q.size q2.size,fun k hk hs=>(q2.block k ⟨.inl hk,by omega,by omega⟩ (Nat.lt_of_lt_of_le hs q.size)).trans (q.block k (by omega))⟩
 have cl:=list_any d w1 hd
 obtain⟨ds,hds⟩:∃ l,l=dimsOf d:=⟨_,rfl⟩
 have HD:Hid (∀ k∈ds,k<24):=fun k hk=>dimsOf_lt k (by rw [← hds];exact hk)
 have hL24:ds.length≤24:=by rw [hds];exact Nat.le_trans (List.length_filter_le _ _) (by simp)
 rw [← hds] at cl ⊢
 obtain⟨va,vc,rfl,_⟩:=id hr
 obtain⟨LR,hLR⟩:∃ L,L=r.length:=⟨_,rfl⟩
 rw [← hLR] at HR
 simp only [← hLR]
 rw [← hX]
 have Hrl:Hid (r.length≤40000):=hrl
 have Hbt:Hid (capT t≤40000):=hb
 have x1':Six w1 X (.int .i64 t.kind) (.int .i64 t.n) (.string t.name) (.slice ra t.r.length rc) (.slice ka t.kids.length kc) (.slice sa t.sys.length sc):=x1
 clear hw1 hX s1 x2 hv hvv ht b1 hr hLR hds HT hrl hb x1
 go_enter Tryz.func46,Tryz.ntmps46
 go_upto_region 1 with fail
 rw [← HW.out]
 simp only [← HXs.out]
 clear HW
 go_wp2_with fail
 refine cl.mono ?_
 rintro e w2 ⟨vl,rfl,hOl,b2⟩
 clear cl
 have hs1:=Hs1.out
 obtain⟨L,hL⟩:∃ L,L=ds.length:=⟨_,rfl⟩
 have HL:Hid (L=ds.length):=hL
 rw [← hL] at hL24
 have hrow:∃ la lc,vl=.slice la L lc∧(∀ (k i:Nat),ds[k]? = some i→∃ g,la=some ⟨g,0,none⟩∧X+2≤g∧g<w2.heap.size∧w2.cell? ⟨g,k,none⟩=some (.int .i64 (i:Int))):=by
  rcases hOl.rowAt with ⟨rfl,hz⟩|⟨g,cap,rfl,hg,hc⟩
  ·subst hz;exact⟨none,0,by rw [hL];rfl,fun k i h=>by simp at h⟩
  ·refine⟨_,_,by rw [hL],fun k i h=>⟨g,rfl,?_,hg,?_⟩⟩
   ·have:=(World.ownsRow.lt hOl g rfl).1;omega
   ·have:=hc k (List.getElem?_eq_some_iff.1 h).1
    rw [h] at this
    simpa using this
 obtain⟨la,lc,rfl,hrow⟩:=hrow
 have Hrow:Hid (_):=hrow
 have hS0:Below X w w2:=HB.out w2 b2
 have hC2:=HC.out w2 b2
 have hZ2:=HZ.out w2 b2
 have hs2:X+2≤w2.heap.size:=by have:=b2.size;omega
 have HBk:Hid (∀ V,Kn (fun q=>q≠X) w2 V→Below X w V):=fun V q=>hS0.trans (q.below (fun q hq=>by omega) (by omega))
 have HZk:Hid (∀ V,Kn (fun q=>q≠X) w2 V→Six V (X+1) (.int .i64 0) (.int .i64 0) (.string ⟨#[]⟩) (.slice none 0 0) (.slice none 0 0) (.slice none 0 0)):=fun V q=>hZ2.kn q (by omega)
 have HX2:Hid (X+2≤w2.heap.size):=hs2
 clear hOl hrow HB HC HZ hL
 go_wp2_with fail
 go_loopw [14] (fun s wr=>∃ (k:Nat) (T:Tm) (ra2:Option Addr) (rc2:Nat) (ka2:Option Addr) (kc2:Nat) (sa2:Option Addr) (sc2:Nat),k≤L∧s=.int .i64 k∧Six wr X (.int .i64 T.kind) (.int .i64 T.n) (.string T.name) (.slice ra2 T.r.length rc2) (.slice ka2 T.kids.length kc2) (.slice sa2 T.sys.length sc2)∧(∀ V,Kn (fun q=>(P q∨X≤q)∧q≠X∧q≠X+1) wr V→TmIn Tt V T (.agg #[.int .i64 T.kind,.int .i64 T.n,.string T.name,.slice ra2 T.r.length rc2,.slice ka2 T.kids.length kc2,.slice sa2 T.sys.length sc2]))∧Kn (fun q=>q≠X) w2 wr∧Hid (pall r (ds.take k) t=(T,0)∧capT T≤40000)) (fun s _=>L - (intOf s).toNat)
 case atStart=>exact⟨0,t,_,_,_,_,_,_,Nat.zero_le _,rfl,hC2,fun V q=>HT0.out w2 V hS0 q,Kn.refl _ _,⟨rfl,Hbt.out⟩⟩
 case round =>
  obtain⟨wq,hwq⟩:∃ wq,wq=wr:=⟨_,rfl⟩
  subst hwq
  clear hC2 hZ2 hs2
  obtain⟨k,T,ra2,rc2,ka2,kc2,sa2,sc2,hk,rfl,hO,hTm,hK,HP⟩:=hrel
  have hsq:X+2≤wq.heap.size:=by have:=HX2.out;have:=hK.size;omega
  by_cases hlt:k<L
  ·have hkI:(k:Int) < (L:Int):=by omega
   obtain⟨i,hi⟩:=someL (l:=ds) (k:=k) (by rw [← HL.out];exact hlt)
   have hi24:=HD.out i (List.mem_of_getElem? hi)
   obtain⟨g,rfl,hgX,hgl,hgc⟩:=Hrow.out k i hi
   have cg:wq.cell? ⟨g,k,none⟩=some (.int .i64 (i:Int)):=by
    have:=hK.block g (by omega) hgl
    rw [World.cell?_of_block (w:=w2) (w':=wq) (a:=⟨g,k,none⟩) this];exact hgc
   have hok:(0:Int)≤(i:Int)∧(i:Int)≤1000000:=by omega
   have HTm:Hid (∀ V,Below wq.heap.size wq V→TmIn Tt V T (.agg #[.int .i64 T.kind,.int .i64 T.n,.string T.name,.slice ra2 T.r.length rc2,.slice ka2 T.kids.length kc2,.slice sa2 T.sys.length sc2])):=fun V q=>hTm V (Kn.of_below q)
   have cP:Hid (∀ V,Below wq.heap.size wq V→Calls Tryz.prog 35 #[.int .i64 (i:Int),.slice va LR vc] V fun e w'=>∃ fV cV,e=.returned (.agg #[fV,cV])∧RowC (putOp i r).fn fV w'∧RowC (putOp i r).fc cV w'∧Below V.heap.size V w'):=fun V q=>putting_any i r _ V (HR.out V (HBk.out V (hK.trans (Kn.of_below q)))) Hrl.out hok
   have cT:Hid (∀ V fV cV,Below wq.heap.size wq V→RowC (putOp i r).fn fV V→RowC (putOp i r).fc cV V→Calls Tryz.prog 36 #[.agg #[fV,cV],.agg #[.int .i64 T.kind,.int .i64 T.n,.string T.name,.slice ra2 T.r.length rc2,.slice ka2 T.kids.length kc2,.slice sa2 T.sys.length sc2]] V fun e w'=>∃ v',e=.returned (.tuple #[v',.int .i64 (eT (putOp i r) T 0)])∧TmIn (OkN V.heap.size w') w' (ansD (putOp i r) T) v'∧Below V.heap.size V w'):=fun V fV cV q h1 h2=>dterm_any T _ V (HTm.out V q) h1 h2 (by have:=(cap_ge T).1;have:=HP.out.2;omega)
   have HSt:Hid (_=_):=pall_step (r:=r) (t:=t) hi
   obtain⟨er,her⟩:∃ e,e=eT (putOp i r) T 0:=⟨_,rfl⟩
   obtain⟨T2,hT2⟩:∃ T2,T2=ansD (putOp i r) T:=⟨_,rfl⟩
   rw [← her,← hT2] at cT
   have HNx:Hid (er=0→pall r (ds.take (k+1)) t=(T2,0)∧capT T2≤40000):=fun h=>⟨by rw [HSt.out,HP.out.1];unfold pallS;rw [if_pos rfl,← her,if_pos h,hT2],by rw [hT2];exact Nat.le_trans (cap_ans (putOp_len _ _) _) HP.out.2⟩
   have HBd:Hid (er≠0→pall r ds t=(noT,er)):=fun h=>by
    have e1:pall r (ds.take (k+1)) t=(noT,er):=by rw [HSt.out,HP.out.1];unfold pallS;rw [if_pos rfl,← her,if_neg h]
    rw [pall_stuck (k+1) (by rw [e1];exact h),e1]
   clear her hT2 HSt hTm HTm hgc hi
   go_upto_region 5 with fail
   clear cg
   refine wp_region_held_drew (S:=fun V=>Kn (fun q=>q≠X) w2 V) (by kernel_rfl) hK.drew (fun hS=>?_)
   obtain⟨wd,hwd⟩:∃ V,V=wq.drew:=⟨_,rfl⟩
   have hbd:Below wq.heap.size wq wd:=by rw [hwd];exact (Below.refl _ _).drew
   rw [← hwd] at hS ⊢
   clear hwd
   refine wpAnyH_take (i:=0) (v:=.int .i64 (i:Int)) rfl (by kernel_rfl) (by kernel_rfl) (by kernel_rfl) (fun _ _ _ h=>h) (Or.inl ⟨by rfl,fun w hS=>by go_simp⟩) hS ?_
   try simp only [Act.put,List.getElem_toArray,List.getElem_cons_zero,List.getElem_cons_succ,List.setIfInBounds_toArray,List.set_cons_zero,List.set_cons_succ]
   refine wpAnyH_take (i:=1) (v:=.slice va LR vc) rfl (by kernel_rfl) (by kernel_rfl) (by kernel_rfl) (fun _ _ _ h=>h) (Or.inl ⟨by rfl,fun w hS=>by go_simp⟩) hS ?_
   try simp only [Act.put,List.getElem_toArray,List.getElem_cons_zero,List.getElem_cons_succ,List.setIfInBounds_toArray,List.set_cons_zero,List.set_cons_succ]
   refine wpAnyH_ready (rs:=[2,3]) (by kernel_rfl) (by simp) ?_
   refine ready_cons rfl (fun KK hKK=>?_) (ready_cons rfl (fun KK hKK=>?_) AllReadyH.nil)
   ·skip
    refine⟨?_⟩
    have cc:=cP.out wd hbd
    go_simp
    refine cc.mono ?_
    rintro e w3 ⟨fV,cV,rfl,hF,hC,hbq⟩
    have hbd:Below wq.heap.size wq w3:=hbd.trans (hbq.mono hbd.size)
    clear cc hbq
    refine hKK.out _ _ (hK.trans (Kn.of_below hbd)) (fun hS=>?_)
    clear hKK KK
    try simp only [Act.put,List.getElem_toArray,List.getElem_cons_zero,List.getElem_cons_succ,List.setIfInBounds_toArray,List.set_cons_zero,List.set_cons_succ]
    refine wpAnyH_ready (rs:=[3]) (by kernel_rfl) (by simp) ?_
    refine ready_cons rfl (fun KK hKK=>?_) AllReadyH.nil
    refine⟨?_⟩
    obtain⟨y0,y1,y2,y3,y4,y5,_⟩:=(hO.blw hbd).cells
    go_simp
    clear y0 y1 y2 y3 y4 y5
    refine hKK.out _ _ hS (fun hS=>?_)
    clear hKK KK
    try simp only [Act.put,List.getElem_toArray,List.getElem_cons_zero,List.getElem_cons_succ,List.setIfInBounds_toArray,List.set_cons_zero,List.set_cons_succ]
    refine wpAnyH_ready (rs:=[4]) (by kernel_rfl) (by simp) ?_
    refine ready_cons rfl (fun KK hKK=>?_) AllReadyH.nil
    refine⟨?_⟩
    have cc:=cT.out w3 fV cV hbd hF hC
    go_simp
    refine cc.mono ?_
    rintro e w4 ⟨v3,rfl,hv3,hb3⟩
    obtain⟨ra2b,rc2b,ka2b,kc2b,sa2b,sc2b,rfl,ht2⟩:=hv3.form
    have htv:=ht2.value
    have hn3:=hbd.size
    have hbd:Below wq.heap.size wq w4:=hbd.trans (hb3.mono hbd.size)
    clear cc ht2 hv3
    refine hKK.out _ _ (hK.trans (Kn.of_below hbd)) (fun hS=>?_)
    clear hKK KK
    try simp only [Act.put,List.getElem_toArray,List.getElem_cons_zero,List.getElem_cons_succ,List.setIfInBounds_toArray,List.set_cons_zero,List.set_cons_succ]
    refine wpAnyH_take (i:=5) (v:=.tuple #[.agg #[.int .i64 T2.kind,.int .i64 T2.n,.string T2.name,.slice ra2b T2.r.length rc2b,.slice ka2b T2.kids.length kc2b,.slice sa2b T2.sys.length sc2b],.int .i64 er]) rfl (by kernel_rfl) (by kernel_rfl) (by kernel_rfl) (fun _ _ _ h=>h) (Or.inl ⟨by rfl,fun w hS=>by go_simp⟩) hS ?_
    try simp only [Act.put,List.getElem_toArray,List.getElem_cons_zero,List.getElem_cons_succ,List.setIfInBounds_toArray,List.set_cons_zero,List.set_cons_succ]
    refine wpAnyH_take (i:=6) (v:=.agg #[.int .i64 T2.kind,.int .i64 T2.n,.string T2.name,.slice ra2b T2.r.length rc2b,.slice ka2b T2.kids.length kc2b,.slice sa2b T2.sys.length sc2b]) rfl (by kernel_rfl) (by kernel_rfl) (by kernel_rfl) (fun _ _ _ h=>h) (Or.inl ⟨by rfl,fun w hS=>by go_simp⟩) hS ?_
    try simp only [Act.put,List.getElem_toArray,List.getElem_cons_zero,List.getElem_cons_succ,List.setIfInBounds_toArray,List.set_cons_zero,List.set_cons_succ]
    refine wpAnyH_take (i:=7) (v:=.int .i64 er) rfl (by kernel_rfl) (by kernel_rfl) (by kernel_rfl) (fun _ _ _ h=>h) (Or.inl ⟨by rfl,fun w hS=>by go_simp⟩) hS ?_
    try simp only [Act.put,List.getElem_toArray,List.getElem_cons_zero,List.getElem_cons_succ,List.setIfInBounds_toArray,List.set_cons_zero,List.set_cons_succ]
    have zz:=hO.blw hbd
    have zz2:=zz.set6 (.int .i64 T2.kind) (.int .i64 T2.n) (.string T2.name) (.slice ra2b T2.r.length rc2b) (.slice ka2b T2.kids.length kc2b) (.slice sa2b T2.sys.length sc2b)
    obtain⟨o0,o1,o2,o3,o4,o5,ff⟩:=zz.cells
    have f0:=ff 0
    have f1:=ff 1
    have f2:=ff 2
    have f3:=ff 3
    have f4:=ff 4
    have f5:=ff 5
    obtain⟨w5,hwz⟩:∃ W,W=(((((w4.setCell ⟨X,0,none⟩ (.int .i64 T2.kind)).setCell ⟨X,1,none⟩ (.int .i64 T2.n)).setCell ⟨X,2,none⟩ (.string T2.name)).setCell ⟨X,3,none⟩ (.slice ra2b T2.r.length rc2b)).setCell ⟨X,4,none⟩ (.slice ka2b T2.kids.length kc2b)).setCell ⟨X,5,none⟩ (.slice sa2b T2.sys.length sc2b):=⟨_,rfl⟩
    rw [← hwz] at zz2
    have kz:Kn (fun q=>q≠X) w4 w5:=by rw [hwz];exact kn_set6 _ _ _ _ _ _ _ _
    have HTm:Hid (∀ V,Kn (fun q=>(P q∨X≤q)∧q≠X∧q≠X+1) w5 V→TmIn Tt V T2 (.agg #[.int .i64 T2.kind,.int .i64 T2.n,.string T2.name,.slice ra2b T2.r.length rc2b,.slice ka2b T2.kids.length kc2b,.slice sa2b T2.sys.length sc2b])):=fun V qV=>htv.keep (Nat.le_trans kz.size qV.size) (fun _ _=>trivial) (fun q hq hs=>(qV.block q ⟨.inr (by have:=hq.1;omega),by have:=hq.1;omega,by have:=hq.1;omega⟩ (by have:=kz.size;omega)).trans (kz.block q (by have:=hq.1;omega) hs))
    have hS5:Kn (fun q=>q≠X) w2 w5:=(hK.trans (Kn.of_below hbd)).trans kz
    have Hwz:Hid (_=_):=hwz
    clear hwz ff zz kz htv
    refine wpAnyH_ready (rs:=[8]) (by kernel_rfl) (by simp) ?_
    refine ready_cons rfl (fun KK hKK=>?_) AllReadyH.nil
    refine⟨?_⟩
    go_simp
    rw [← Hwz.out]
    refine hKK.out _ _ hS5 (fun hS=>?_)
    clear hKK KK
    try simp only [Act.put,List.getElem_toArray,List.getElem_cons_zero,List.getElem_cons_succ,List.setIfInBounds_toArray,List.set_cons_zero,List.set_cons_succ]
    refine wpAnyH_take (i:=9) (v:=.int .i64 er) rfl (by kernel_rfl) (by kernel_rfl) (by kernel_rfl) (fun _ _ _ h=>h) (Or.inl ⟨by rfl,fun w hS=>by go_simp⟩) hS ?_
    try simp only [Act.put,List.getElem_toArray,List.getElem_cons_zero,List.getElem_cons_succ,List.setIfInBounds_toArray,List.set_cons_zero,List.set_cons_succ]
    refine wpAnyH_done (by kernel_rfl) ?_ _
    clear cP cT
    by_cases hz:er=0
    ·subst hz
     go_wp2_with fail
     go_roundw
     case rel=>exact⟨k+1,T2,_,_,_,_,_,_,Nat.succ_le_of_lt hlt,by go_num,zz2,HTm.out,hS5,HNx.out rfl⟩
     case measure=>simp [intOf];omega
    ·have hz1:(er == 0)=false:=by simpa using hz
     have Hf:Hid (pall r ds t=(noT,er)):=HBd.out hz
     clear HBd HNx o0 o1 o2 o3 o4 o5 f0 f1 f2 f3 f4 f5 zz2
     have zz:=HZk.out w5 hS5
     have zz2:=zz.set6 (.int .i64 0) (.int .i64 0) (.string ⟨#[]⟩) (.slice none 0 0) (.slice none 0 0) (.slice none 0 0)
     obtain⟨o0,o1,o2,o3,o4,o5,ff⟩:=zz.cells
     have f0:=ff 0
     have f1:=ff 1
     have f2:=ff 2
     have f3:=ff 3
     have f4:=ff 4
     have f5:=ff 5
     obtain⟨h0,h1,h2,h3,h4,h5,_⟩:=zz2.cells
     obtain⟨wz,hwz⟩:∃ W,W=(((((w5.setCell ⟨X+1,0,none⟩ (.int .i64 0)).setCell ⟨X+1,1,none⟩ (.int .i64 0)).setCell ⟨X+1,2,none⟩ (.string ⟨#[]⟩)).setCell ⟨X+1,3,none⟩ (.slice none 0 0)).setCell ⟨X+1,4,none⟩ (.slice none 0 0)).setCell ⟨X+1,5,none⟩ (.slice none 0 0):=⟨_,rfl⟩
     rw [← hwz] at h0 h1 h2 h3 h4 h5
     have kz:Kn (fun q=>q≠X+1) w5 wz:=by rw [hwz];exact kn_set6 _ _ _ _ _ _ _ _
     have bz:Below X w wz:=(HBk.out w5 hS5).trans (kz.below (fun q hq=>by omega) (by have:=(HBk.out w5 hS5).size;have:=HXs.out;omega))
     have Hwz:Hid (_=_):=hwz
     clear hwz ff zz zz2 kz
     go_wp2_with fail
     rw [← Hwz.out]
     exact bodyPost_ret (v:=.tuple #[.agg #[.int .i64 0,.int .i64 0,.string ⟨#[]⟩,.slice none 0 0,.slice none 0 0,.slice none 0 0],.int .i64 (er)]) (by simp only [results,Tryz.results46];simp [go_sem,h0,h1,h2,h3,h4,h5]) rfl ⟨_,by rw [Hf.out],fun V _=>by rw [Hf.out];exact noT_in _ _,bz⟩
   ·skip
    refine⟨?_⟩
    obtain⟨y0,y1,y2,y3,y4,y5,_⟩:=(hO.blw hbd).cells
    go_simp
    clear y0 y1 y2 y3 y4 y5
    refine hKK.out _ _ hS (fun hS=>?_)
    clear hKK KK
    try simp only [Act.put,List.getElem_toArray,List.getElem_cons_zero,List.getElem_cons_succ,List.setIfInBounds_toArray,List.set_cons_zero,List.set_cons_succ]
    refine wpAnyH_ready (rs:=[2]) (by kernel_rfl) (by simp) ?_
    refine ready_cons rfl (fun KK hKK=>?_) AllReadyH.nil
    refine⟨?_⟩
    have cc:=cP.out wd hbd
    go_simp
    refine cc.mono ?_
    rintro e w3 ⟨fV,cV,rfl,hF,hC,hbq⟩
    have hbd:Below wq.heap.size wq w3:=hbd.trans (hbq.mono hbd.size)
    clear cc hbq
    refine hKK.out _ _ (hK.trans (Kn.of_below hbd)) (fun hS=>?_)
    clear hKK KK
    try simp only [Act.put,List.getElem_toArray,List.getElem_cons_zero,List.getElem_cons_succ,List.setIfInBounds_toArray,List.set_cons_zero,List.set_cons_succ]
    refine wpAnyH_ready (rs:=[4]) (by kernel_rfl) (by simp) ?_
    refine ready_cons rfl (fun KK hKK=>?_) AllReadyH.nil
    refine⟨?_⟩
    have cc:=cT.out w3 fV cV hbd hF hC
    go_simp
    refine cc.mono ?_
    rintro e w4 ⟨v3,rfl,hv3,hb3⟩
    obtain⟨ra2b,rc2b,ka2b,kc2b,sa2b,sc2b,rfl,ht2⟩:=hv3.form
    have htv:=ht2.value
    have hn3:=hbd.size
    have hbd:Below wq.heap.size wq w4:=hbd.trans (hb3.mono hbd.size)
    clear cc ht2 hv3
    refine hKK.out _ _ (hK.trans (Kn.of_below hbd)) (fun hS=>?_)
    clear hKK KK
    try simp only [Act.put,List.getElem_toArray,List.getElem_cons_zero,List.getElem_cons_succ,List.setIfInBounds_toArray,List.set_cons_zero,List.set_cons_succ]
    refine wpAnyH_take (i:=5) (v:=.tuple #[.agg #[.int .i64 T2.kind,.int .i64 T2.n,.string T2.name,.slice ra2b T2.r.length rc2b,.slice ka2b T2.kids.length kc2b,.slice sa2b T2.sys.length sc2b],.int .i64 er]) rfl (by kernel_rfl) (by kernel_rfl) (by kernel_rfl) (fun _ _ _ h=>h) (Or.inl ⟨by rfl,fun w hS=>by go_simp⟩) hS ?_
    try simp only [Act.put,List.getElem_toArray,List.getElem_cons_zero,List.getElem_cons_succ,List.setIfInBounds_toArray,List.set_cons_zero,List.set_cons_succ]
    refine wpAnyH_take (i:=6) (v:=.agg #[.int .i64 T2.kind,.int .i64 T2.n,.string T2.name,.slice ra2b T2.r.length rc2b,.slice ka2b T2.kids.length kc2b,.slice sa2b T2.sys.length sc2b]) rfl (by kernel_rfl) (by kernel_rfl) (by kernel_rfl) (fun _ _ _ h=>h) (Or.inl ⟨by rfl,fun w hS=>by go_simp⟩) hS ?_
    try simp only [Act.put,List.getElem_toArray,List.getElem_cons_zero,List.getElem_cons_succ,List.setIfInBounds_toArray,List.set_cons_zero,List.set_cons_succ]
    refine wpAnyH_take (i:=7) (v:=.int .i64 er) rfl (by kernel_rfl) (by kernel_rfl) (by kernel_rfl) (fun _ _ _ h=>h) (Or.inl ⟨by rfl,fun w hS=>by go_simp⟩) hS ?_
    try simp only [Act.put,List.getElem_toArray,List.getElem_cons_zero,List.getElem_cons_succ,List.setIfInBounds_toArray,List.set_cons_zero,List.set_cons_succ]
    have zz:=hO.blw hbd
    have zz2:=zz.set6 (.int .i64 T2.kind) (.int .i64 T2.n) (.string T2.name) (.slice ra2b T2.r.length rc2b) (.slice ka2b T2.kids.length kc2b) (.slice sa2b T2.sys.length sc2b)
    obtain⟨o0,o1,o2,o3,o4,o5,ff⟩:=zz.cells
    have f0:=ff 0
    have f1:=ff 1
    have f2:=ff 2
    have f3:=ff 3
    have f4:=ff 4
    have f5:=ff 5
    obtain⟨w5,hwz⟩:∃ W,W=(((((w4.setCell ⟨X,0,none⟩ (.int .i64 T2.kind)).setCell ⟨X,1,none⟩ (.int .i64 T2.n)).setCell ⟨X,2,none⟩ (.string T2.name)).setCell ⟨X,3,none⟩ (.slice ra2b T2.r.length rc2b)).setCell ⟨X,4,none⟩ (.slice ka2b T2.kids.length kc2b)).setCell ⟨X,5,none⟩ (.slice sa2b T2.sys.length sc2b):=⟨_,rfl⟩
    rw [← hwz] at zz2
    have kz:Kn (fun q=>q≠X) w4 w5:=by rw [hwz];exact kn_set6 _ _ _ _ _ _ _ _
    have HTm:Hid (∀ V,Kn (fun q=>(P q∨X≤q)∧q≠X∧q≠X+1) w5 V→TmIn Tt V T2 (.agg #[.int .i64 T2.kind,.int .i64 T2.n,.string T2.name,.slice ra2b T2.r.length rc2b,.slice ka2b T2.kids.length kc2b,.slice sa2b T2.sys.length sc2b])):=fun V qV=>htv.keep (Nat.le_trans kz.size qV.size) (fun _ _=>trivial) (fun q hq hs=>(qV.block q ⟨.inr (by have:=hq.1;omega),by have:=hq.1;omega,by have:=hq.1;omega⟩ (by have:=kz.size;omega)).trans (kz.block q (by have:=hq.1;omega) hs))
    have hS5:Kn (fun q=>q≠X) w2 w5:=(hK.trans (Kn.of_below hbd)).trans kz
    have Hwz:Hid (_=_):=hwz
    clear hwz ff zz kz htv
    refine wpAnyH_ready (rs:=[8]) (by kernel_rfl) (by simp) ?_
    refine ready_cons rfl (fun KK hKK=>?_) AllReadyH.nil
    refine⟨?_⟩
    go_simp
    rw [← Hwz.out]
    refine hKK.out _ _ hS5 (fun hS=>?_)
    clear hKK KK
    try simp only [Act.put,List.getElem_toArray,List.getElem_cons_zero,List.getElem_cons_succ,List.setIfInBounds_toArray,List.set_cons_zero,List.set_cons_succ]
    refine wpAnyH_take (i:=9) (v:=.int .i64 er) rfl (by kernel_rfl) (by kernel_rfl) (by kernel_rfl) (fun _ _ _ h=>h) (Or.inl ⟨by rfl,fun w hS=>by go_simp⟩) hS ?_
    try simp only [Act.put,List.getElem_toArray,List.getElem_cons_zero,List.getElem_cons_succ,List.setIfInBounds_toArray,List.set_cons_zero,List.set_cons_succ]
    refine wpAnyH_done (by kernel_rfl) ?_ _
    clear cP cT
    by_cases hz:er=0
    ·subst hz
     go_wp2_with fail
     go_roundw
     case rel=>exact⟨k+1,T2,_,_,_,_,_,_,Nat.succ_le_of_lt hlt,by go_num,zz2,HTm.out,hS5,HNx.out rfl⟩
     case measure=>simp [intOf];omega
    ·have hz1:(er == 0)=false:=by simpa using hz
     have Hf:Hid (pall r ds t=(noT,er)):=HBd.out hz
     clear HBd HNx o0 o1 o2 o3 o4 o5 f0 f1 f2 f3 f4 f5 zz2
     have zz:=HZk.out w5 hS5
     have zz2:=zz.set6 (.int .i64 0) (.int .i64 0) (.string ⟨#[]⟩) (.slice none 0 0) (.slice none 0 0) (.slice none 0 0)
     obtain⟨o0,o1,o2,o3,o4,o5,ff⟩:=zz.cells
     have f0:=ff 0
     have f1:=ff 1
     have f2:=ff 2
     have f3:=ff 3
     have f4:=ff 4
     have f5:=ff 5
     obtain⟨h0,h1,h2,h3,h4,h5,_⟩:=zz2.cells
     obtain⟨wz,hwz⟩:∃ W,W=(((((w5.setCell ⟨X+1,0,none⟩ (.int .i64 0)).setCell ⟨X+1,1,none⟩ (.int .i64 0)).setCell ⟨X+1,2,none⟩ (.string ⟨#[]⟩)).setCell ⟨X+1,3,none⟩ (.slice none 0 0)).setCell ⟨X+1,4,none⟩ (.slice none 0 0)).setCell ⟨X+1,5,none⟩ (.slice none 0 0):=⟨_,rfl⟩
     rw [← hwz] at h0 h1 h2 h3 h4 h5
     have kz:Kn (fun q=>q≠X+1) w5 wz:=by rw [hwz];exact kn_set6 _ _ _ _ _ _ _ _
     have bz:Below X w wz:=(HBk.out w5 hS5).trans (kz.below (fun q hq=>by omega) (by have:=(HBk.out w5 hS5).size;have:=HXs.out;omega))
     have Hwz:Hid (_=_):=hwz
     clear hwz ff zz zz2 kz
     go_wp2_with fail
     rw [← Hwz.out]
     exact bodyPost_ret (v:=.tuple #[.agg #[.int .i64 0,.int .i64 0,.string ⟨#[]⟩,.slice none 0 0,.slice none 0 0,.slice none 0 0],.int .i64 (er)]) (by simp only [results,Tryz.results46];simp [go_sem,h0,h1,h2,h3,h4,h5]) rfl ⟨_,by rw [Hf.out],fun V _=>by rw [Hf.out];exact noT_in _ _,bz⟩
  ·have hkI:¬ (k:Int) < (L:Int):=by omega
   obtain rfl:k=L:=by omega
   have Hf:Hid (pall r ds t=(T,0)):=(by have:=HP.out.1;rwa [List.take_of_length_le (by rw [← HL.out];exact Nat.le_refl _)] at this:_=_)
   have zz:=HZk.out wq hK
   have zz2:=zz.set6 (.int .i64 T.kind) (.int .i64 T.n) (.string T.name) (.slice ra2 T.r.length rc2) (.slice ka2 T.kids.length kc2) (.slice sa2 T.sys.length sc2)
   obtain⟨o0,o1,o2,o3,o4,o5,ff⟩:=zz.cells
   have f0:=ff 0
   have f1:=ff 1
   have f2:=ff 2
   have f3:=ff 3
   have f4:=ff 4
   have f5:=ff 5
   obtain⟨h0,h1,h2,h3,h4,h5,_⟩:=zz2.cells
   obtain⟨y0,y1,y2,y3,y4,y5,_⟩:=hO.cells
   obtain⟨wz,hwz⟩:∃ W,W=(((((wq.setCell ⟨X+1,0,none⟩ (.int .i64 T.kind)).setCell ⟨X+1,1,none⟩ (.int .i64 T.n)).setCell ⟨X+1,2,none⟩ (.string T.name)).setCell ⟨X+1,3,none⟩ (.slice ra2 T.r.length rc2)).setCell ⟨X+1,4,none⟩ (.slice ka2 T.kids.length kc2)).setCell ⟨X+1,5,none⟩ (.slice sa2 T.sys.length sc2):=⟨_,rfl⟩
   rw [← hwz] at h0 h1 h2 h3 h4 h5
   have kz:Kn (fun q=>q≠X+1) wq wz:=by rw [hwz];exact kn_set6 _ _ _ _ _ _ _ _
   have bz:Below X w wz:=(HBk.out wq hK).trans (kz.below (fun q hq=>by omega) (by have:=(HBk.out wq hK).size;have:=HXs.out;omega))
   have HTz:Hid (∀ V,Kn (fun q=>P q∨X≤q) wz V→TmIn Tt V T (.agg #[.int .i64 T.kind,.int .i64 T.n,.string T.name,.slice ra2 T.r.length rc2,.slice ka2 T.kids.length kc2,.slice sa2 T.sys.length sc2])):=fun V q=>hTm V ⟨q.os.trans kz.os,q.tape.trans kz.tape,q.output.trans kz.output,Nat.le_trans kz.size q.size,fun k hk hs=>(q.block k hk.1 (Nat.lt_of_lt_of_le hs kz.size)).trans (kz.block k hk.2.2 hs)⟩
   have Hwz:Hid (_=_):=hwz
   clear hwz ff zz zz2 kz
   go_wp2_with fail
   rw [← Hwz.out]
   exact bodyPost_ret (v:=.tuple #[.agg #[.int .i64 T.kind,.int .i64 T.n,.string T.name,.slice ra2 T.r.length rc2,.slice ka2 T.kids.length kc2,.slice sa2 T.sys.length sc2],.int .i64 0]) (by simp only [results,Tryz.results46];simp [go_sem,h0,h1,h2,h3,h4,h5]) rfl ⟨_,by rw [Hf.out],by rw [Hf.out];exact HTz.out,bz⟩
end Go.Proofs.YtpmmbfngogpinaaGreat

