/- Formulas in the places of dimensions: a whole term; what gives up is caught. -/
import Derived.Defers
import Derived.Recover
import Derived.RegionTactic
import Derived.Test.YtblbhmnahoiecaaGreatGYDmC
set_option linter.unusedVariables false
set_option linter.unusedSimpArgs false
set_option maxRecDepth 100000
set_option maxHeartbeats 4000000
namespace Go.Proofs.YtblbhmnahoiecaaGreat
open Go.RowKit
theorem mkfd (fn:Fn) (first cap:Array Value) (w:World):(Instr.makeFunc fn first cap).run Tryz.prog w=.ok (.func fn first cap) w:=rfl
theorem assert_dno (v:Value) (w:World):(Instr.typeAssert (.iface 30 v) 20 30 false).run Tryz.prog w=.ok v w:=by
 simp [Instr.typeAssert,run_underlying Tryz.underlying30]
theorem dcatch_panicking (q:Nat) (a x:Int) (older:List PanicEntry) (w:World) (hq:q<w.heap.size) (c0:w.cell? ⟨q,0,none⟩=some (.int .i64 a)) (z0:w.frozen? ⟨q,0,none⟩=false) :
  CallsD Tryz.prog 109 #[.pointer (some ⟨q,0,none⟩)] (.panicking ({ v:=.iface 30 (.int .i64 x),recovered:=false } :: older)) w fun e u' w' =>
   e=.returned (.tuple #[])∧u'=.panicking ({ v:=.iface 30 (.int .i64 x),recovered:=true } :: older)∧w'=w.setCell ⟨q,0,none⟩ (.int .i64 x):=by
 refine callsD_of_wpS Tryz.func109 rfl fun c₀ cs hu=>?_
 apply wpS_seq
 apply wpS_region
 simp [wpOpsS,go_sem,recoverD,hu,Tryz.ntmps109,Exit.thenS]
 refine wpS_of_wp ?_
 change Code.wp Tryz.prog _ _ { tmps:=#[.pointer (some ⟨q,0,none⟩),.iface 30 (.int .i64 x),.iface 30 (.int .i64 x),undef,undef,undef,undef],defers:=[] } w
 have hta:=fun w=>assert_dno (.int .i64 x) w
 go_wp2_with fail
 simp +zetaDelta [bodyPostS,results,Tryz.results109]
theorem dcatch_idle (q:Nat) (w:World) :
  CallsD Tryz.prog 109 #[.pointer (some ⟨q,0,none⟩)] .returning w fun e u' w'=>e=.returned (.tuple #[])∧u'=.returning∧w'=w:=by
 refine callsD_of_wpS Tryz.func109 rfl fun c₀ cs hu=>?_
 apply wpS_seq
 apply wpS_region
 simp [wpOpsS,go_sem,recoverD,hu,Tryz.ntmps109,Exit.thenS]
 refine wpS_of_wp ?_
 change Code.wp Tryz.prog _ _ { tmps:=#[.pointer (some ⟨q,0,none⟩),.nilIface,.nilIface,undef,undef,undef,undef],defers:=[] } w
 go_wp2_with fail
 cases c₀
 simp_all +zetaDelta [bodyPostS,results,Tryz.results109]
def noT:Tm:=.mk 0 0 ⟨#[]⟩ [] [] []
theorem noT_in (ok:Nat→Prop) (w:World):TmIn ok w noT (.agg #[.int .i64 0,.int .i64 0,.string ⟨#[]⟩,.slice none 0 0,.slice none 0 0,.slice none 0 0]) :=
 TmIn.mk 0 0 ⟨#[]⟩ [] [] [] _ _ _ (by unfold I64;omega) (by unfold I64;omega) (cl_nil _ _) (kt_nil _ _ _) (sy_nil _ _ _)
def ansD (o:DOp) (t:Tm):Tm:=if eT o t 0=0 then dT o t 0 else noT
theorem dterm_any {o:DOp} {fV cV:Value} (t:Tm) (v:Value) (w:World) (hv:TmIn Tt w t v) (hF:RowC o.fn fV w) (hC:RowC o.fc cV w) (hb:blk t≤40000) :
  Calls Tryz.prog 41 #[.agg #[fV,cV],v] w fun e w'=>∃ v',e=.returned (.tuple #[v',.int .i64 (eT o t 0)])∧TmIn (OkN w.heap.size w') w' (ansD o t) v'∧Below w.heap.size w w':=by
 obtain⟨ra,rc,ka,kc,sa,sc,rfl,ht⟩:=hv.form
 obtain⟨wa,hwa⟩:∃ W,W=((w.alloc (.cells #[fV,cV] 68)).alloc (.cells #[.int .i64 t.kind,.int .i64 t.n,.string t.name,.slice ra t.r.length rc,.slice ka t.kids.length kc,.slice sa t.sys.length sc] 26)):=⟨_,rfl⟩
 have sa':wa.heap.size=w.heap.size+2:=by rw [hwa];simp
 have ba:Below w.heap.size w wa:=by rw [hwa];exact bchain (belowA _ _) (belowA _ _)
 obtain⟨wb,hwb⟩:∃ W,W=(wa.alloc (.cells #[.int .i64 0,.int .i64 0,.string ⟨#[]⟩,.slice none 0 0,.slice none 0 0,.slice none 0 0] 26)).alloc (.cells #[.int .i64 0] 30):=⟨_,rfl⟩
 have sb':wb.heap.size=w.heap.size+4:=by rw [hwb];simp;omega
 have bb:Below wa.heap.size wa wb:=by rw [hwb];exact bchain (belowA _ _) (belowA _ _)
 obtain⟨X,hX⟩:∃ X,X=w.heap.size:=⟨_,rfl⟩
 obtain⟨w2,hw2⟩:∃ W,W=wb.alloc (.cells #[.func (.func 110) #[] #[.pointer (some ⟨X,0,none⟩),.pointer (some ⟨X+4,0,none⟩)]] 118):=⟨_,rfl⟩
 have b2:Below wb.heap.size wb w2:=by rw [hw2];exact belowA _ _
 have s2:w2.heap.size=X+5:=by rw [hw2];simp;omega
 have bw2:=bchain (bchain ba bb) b2
 have ma:wa.heap[X]? = some (.cells #[fV,cV] 68 (0,0)):=by rw [hwa,hX];exact (Below.heap_alloc _ _ _ (by simp)).trans (heapNew w _)
 have mt:wa.heap[X+1]? = some (.cells #[.int .i64 t.kind,.int .i64 t.n,.string t.name,.slice ra t.r.length rc,.slice ka t.kids.length kc,.slice sa t.sys.length sc] 26 (0,0)):=by
  rw [hwa,hX];have:=heapNew (w.alloc (.cells #[fV,cV] 68)) (.cells #[.int .i64 t.kind,.int .i64 t.n,.string t.name,.slice ra t.r.length rc,.slice ka t.kids.length kc,.slice sa t.sys.length sc] 26);rwa [World.size_alloc] at this
 have mr:Six wb (X+2) (.int .i64 0) (.int .i64 0) (.string ⟨#[]⟩) (.slice none 0 0) (.slice none 0 0) (.slice none 0 0):=⟨by
  rw [hwb];refine (Below.heap_alloc _ _ _ (by simp;omega)).trans ?_
  have:=heapNew wa (.cells #[.int .i64 0,.int .i64 0,.string ⟨#[]⟩,.slice none 0 0,.slice none 0 0,.slice none 0 0] 26);rwa [sa',← hX] at this⟩
 have me:wb.heap[X+3]? = some (.cells #[.int .i64 0] 30 (0,0)):=by
  rw [hwb];have:=heapNew (wa.alloc (.cells #[.int .i64 0,.int .i64 0,.string ⟨#[]⟩,.slice none 0 0,.slice none 0 0,.slice none 0 0] 26)) (.cells #[.int .i64 0] 30);rwa [World.size_alloc,sa',← hX] at this
 have mf:w2.heap[X+4]? = some (.cells #[.func (.func 110) #[] #[.pointer (some ⟨X,0,none⟩),.pointer (some ⟨X+4,0,none⟩)]] 118 (0,0)):=by
  rw [hw2];have:=heapNew wb (.cells #[.func (.func 110) #[] #[.pointer (some ⟨X,0,none⟩),.pointer (some ⟨X+4,0,none⟩)]] 118);rwa [sb',← hX] at this
 have bab:=bchain bb b2
 have hE:DEnv w2 fV cV X (X+4):=⟨(bab.block X (by omega)).trans ma,mf⟩
 have h6:Cs6 w2 (X+1) 0 t ra rc ka kc sa sc:=cs6_of ((bab.block (X+1) (by omega)).trans mt)
 have cc:Calls Tryz.prog 110 #[.pointer (some ⟨X+1,0,none⟩),.int .i64 0,.pointer (some ⟨X,0,none⟩),.pointer (some ⟨X+4,0,none⟩)] w2 fun e w'=>LOut (eT o t 0) (TmIn (OkN w2.heap.size w') w' (dT o t 0)) e∧Below w2.heap.size w2 w' :=
  dv_any _ t 0 (X+1) 0 X (X+4) fV cV ra rc ka kc sa sc w2 hE (hF.blw bw2) (hC.blw bw2) h6 (ht.blw bw2) (Nat.le_refl _) (by omega) hb
 have HZ2:Hid (∀ W,Below w2.heap.size w2 W→Six W (X+2) (.int .i64 0) (.int .i64 0) (.string ⟨#[]⟩) (.slice none 0 0) (.slice none 0 0) (.slice none 0 0)∧W.heap[X+3]? = some (.cells #[.int .i64 0] 30 (0,0))):=fun W q=>by
  have q2:=bchain b2 q
  exact⟨mr.blw q2,(q2.block (X+3) (by omega)).trans me⟩
 have HB:Hid (∀ W,Below w2.heap.size w2 W→Below X w W):=fun W q=>by rw [hX];exact bchain bw2 q
 have HA:Hid (ansD o t=if eT o t 0=0 then dT o t 0 else noT):=(rfl:_=_)
 obtain⟨er,her⟩:∃ e,e=eT o t 0:=⟨_,rfl⟩
 obtain⟨T,hT⟩:∃ T,T=dT o t 0:=⟨_,rfl⟩
 rw [← her,← hT] at cc HA
 rw [← her,← hX]
 have cf:=hE.fn
 have hmk:=mkfd
 have eg:=dv_eg
 have HW:Hid (w2=((((w.alloc (.cells #[fV,cV] 68)).alloc (.cells #[.int .i64 t.kind,.int .i64 t.n,.string t.name,.slice ra t.r.length rc,.slice ka t.kids.length kc,.slice sa t.sys.length sc] 26)).alloc (.cells #[.int .i64 0,.int .i64 0,.string ⟨#[]⟩,.slice none 0 0,.slice none 0 0,.slice none 0 0] 26)).alloc (.cells #[.int .i64 0] 30)).alloc (.cells #[.func (.func 110) #[] #[.pointer (some ⟨w.heap.size,0,none⟩),.pointer (some ⟨w.heap.size+4,0,none⟩)]] 118)):=(by rw [hw2,hwb,hwa,hX]:_=_)
 have HX:Hid (X=w.heap.size):=hX
 have Hs2:Hid (w2.heap.size=X+5):=s2
 clear hwa hwb hw2 ba bb b2 bw2 sa' sb' ma mt mr me mf bab hE h6 ht hv hF hC her hT hX s2 hb
 go_enter_defers Tryz.func41,Tryz.ntmps41
 go_upto_region 4 with fail
 rw [← HW.out]
 simp only [← HX.out]
 clear HW
 go_wp2_with fail
 refine cc.mono ?_
 rintro e w3 ⟨⟨h0,v3,rfl,hv3⟩ | ⟨hne,rfl⟩,hb3⟩
 ·clear cc cf
  obtain⟨ra2,rc2,ka2,kc2,sa2,sc2,rfl,ht2⟩:=hv3.form
  obtain⟨z3,e3⟩:=HZ2.out w3 hb3
  have hs2:=Hs2.out
  have hs3:=hb3.size
  obtain⟨w4,hw4⟩:∃ W,W=(((((w3.setCell ⟨X+2,0,none⟩ (.int .i64 T.kind)).setCell ⟨X+2,1,none⟩ (.int .i64 T.n)).setCell ⟨X+2,2,none⟩ (.string T.name)).setCell ⟨X+2,3,none⟩ (.slice ra2 T.r.length rc2)).setCell ⟨X+2,4,none⟩ (.slice ka2 T.kids.length kc2)).setCell ⟨X+2,5,none⟩ (.slice sa2 T.sys.length sc2):=⟨_,rfl⟩
  have k4:Kn (fun q=>q≠X+2) w3 w4:=by rw [hw4];exact (((((kn_set _ _ _ _).trans (kn_set _ _ _ _)).trans (kn_set _ _ _ _)).trans (kn_set _ _ _ _)).trans (kn_set _ _ _ _)).trans (kn_set _ _ _ _)
  have z4:=z3.set6 (.int .i64 T.kind) (.int .i64 T.n) (.string T.name) (.slice ra2 T.r.length rc2) (.slice ka2 T.kids.length kc2) (.slice sa2 T.sys.length sc2)
  rw [← hw4] at z4
  have e4:=(k4.block (X+3) (by omega) (by omega)).trans e3
  have c40:w4.cell? ⟨X+3,0,none⟩=some (.int .i64 0):=by simp [World.cell?,e4]
  have c4f:w4.frozen? ⟨X+3,0,none⟩=false:=by simp [World.frozen?,e4]
  obtain⟨w5,hw5⟩:∃ W,W=w4.setCell ⟨X+3,0,none⟩ (.int .i64 0):=⟨_,rfl⟩
  have k5:Kn (fun q=>q≠X+3) w4 w5:=by rw [hw5];exact kn_set _ _ _ _
  have z5:=z4.kn k5 (by omega)
  have c5:w5.cell? ⟨X+3,0,none⟩=some (.int .i64 0):=by rw [hw5];exact World.cell?_setCell_same' _ _ _ (by rw [c40];rfl)
  have HTm:Hid (TmIn (OkN X w5) w5 T (.agg #[.int .i64 T.kind,.int .i64 T.n,.string T.name,.slice ra2 T.r.length rc2,.slice ka2 T.kids.length kc2,.slice sa2 T.sys.length sc2])):=by
   have hA:∀ q,OkN w2.heap.size w3 q→w5.heap[q]? = w3.heap[q]?:=fun q hq=>(k5.block q (by have:=hq.1;omega) (by have:=hq.lt;have:=k4.size;omega)).trans (k4.block q (by have:=hq.1;omega) hq.lt)
   exact ht2.value.keep (Nat.le_trans k4.size k5.size) (fun q hq=>(hq.same (hA q hq)).mono (by omega)) (fun q hq _=>hA q hq)
  have b5:Below X w w5:=((HB.out w3 hb3).trans (k4.below (fun q hq=>by omega) (by omega))).trans (k5.below (fun q hq=>by omega) (by have:=k4.size;omega))
  obtain⟨o0,o1,o2,o3,o4,o5,ff⟩:=z3.cells
  have f0:=ff 0
  have f1:=ff 1
  have f2:=ff 2
  have f3:=ff 3
  have f4:=ff 4
  have f5:=ff 5
  obtain⟨d0,d1,d2,d3,d4,d5,_⟩:=z5.cells
  have H4:Hid (_=_):=hw4
  have H5:Hid (_=_):=hw5
  have Hc4:Hid (_∧_):=(⟨c40,c4f⟩:w4.cell? ⟨X+3,0,none⟩=some (.int .i64 0)∧w4.frozen? ⟨X+3,0,none⟩=false)
  have p40:(((((((w3.setCell ⟨X+2,0,none⟩ (.int .i64 T.kind)).setCell ⟨X+2,1,none⟩ (.int .i64 T.n)).setCell ⟨X+2,2,none⟩ (.string T.name)).setCell ⟨X+2,3,none⟩ (.slice ra2 T.r.length rc2)).setCell ⟨X+2,4,none⟩ (.slice ka2 T.kids.length kc2)).setCell ⟨X+2,5,none⟩ (.slice sa2 T.sys.length sc2)).cell? ⟨X+3,0,none⟩=some (.int .i64 0)):=by rw [← hw4];exact c40
  have p4f:(((((((w3.setCell ⟨X+2,0,none⟩ (.int .i64 T.kind)).setCell ⟨X+2,1,none⟩ (.int .i64 T.n)).setCell ⟨X+2,2,none⟩ (.string T.name)).setCell ⟨X+2,3,none⟩ (.slice ra2 T.r.length rc2)).setCell ⟨X+2,4,none⟩ (.slice ka2 T.kids.length kc2)).setCell ⟨X+2,5,none⟩ (.slice sa2 T.sys.length sc2)).frozen? ⟨X+3,0,none⟩=false):=by rw [← hw4];exact c4f
  clear hw4 hw5 z3 z4 z5 k4 k5 ff e3 e4 ht2 hv3 c40 c4f hs2 hs3
  go_wp2_with fail
  rw [← H4.out,← H5.out]
  refine leaves_cons (f:=109) (args:=#[.pointer (some ⟨X+3,0,none⟩)]) (by simp) (by simp [go_sem]) ?_
  refine (dcatch_idle _ _).mono ?_
  rintro e u' w'' ⟨rfl,rfl,rfl⟩
  refine⟨.tuple #[.agg #[.int .i64 T.kind,.int .i64 T.n,.string T.name,.slice ra2 T.r.length rc2,.slice ka2 T.kids.length kc2,.slice sa2 T.sys.length sc2],.int .i64 0],by simp only [results,Tryz.results41];simp [go_sem,d0,d1,d2,d3,d4,d5,c5],_,by rw [h0],by rw [HA.out,if_pos h0];exact HTm.out,b5⟩
 ·clear cc cf
  obtain⟨z3,e3⟩:=HZ2.out w3 hb3
  have hs2:=Hs2.out
  have hs3:=hb3.size
  have c30:w3.cell? ⟨X+3,0,none⟩=some (.int .i64 0):=by simp [World.cell?,e3]
  have c3f:w3.frozen? ⟨X+3,0,none⟩=false:=by simp [World.frozen?,e3]
  refine leaves_cons (f:=109) (args:=#[.pointer (some ⟨X+3,0,none⟩)]) (by simp) (by simp [go_sem]) ?_
  refine (dcatch_panicking (X+3) 0 er [] w3 (by omega) c30 c3f).mono ?_
  rintro e u' w5 ⟨rfl,rfl,hw5⟩
  have k5:Kn (fun q=>q≠X+3) w3 w5:=by rw [hw5];exact kn_set _ _ _ _
  have z5:=z3.kn k5 (by omega)
  have c5:w5.cell? ⟨X+3,0,none⟩=some (.int .i64 er):=by rw [hw5];exact World.cell?_setCell_same' _ _ _ (by rw [c30];rfl)
  have b5:Below X w w5:=(HB.out w3 hb3).trans (k5.below (fun q hq=>by omega) (by omega))
  obtain⟨d0,d1,d2,d3,d4,d5,_⟩:=z5.cells
  refine⟨.tuple #[.agg #[.int .i64 0,.int .i64 0,.string ⟨#[]⟩,.slice none 0 0,.slice none 0 0,.slice none 0 0],.int .i64 er],by simp only [results,Tryz.results41];simp [go_sem,d0,d1,d2,d3,d4,d5,c5],_,rfl,by rw [HA.out,if_neg hne];exact noT_in _ _,b5⟩
end Go.Proofs.YtblbhmnahoiecaaGreat
