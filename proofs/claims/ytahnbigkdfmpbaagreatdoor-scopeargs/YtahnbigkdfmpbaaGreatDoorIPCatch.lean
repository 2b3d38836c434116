/- What catches a rule that gave up. -/
import Derived.Defers
import Derived.Recover
import Derived.RegionTactic
import Derived.Test.YtahnbigkdfmpbaaGreatDoorIPB
import Derived.Test.YtahnbigkdfmpbaaGreatDoorIPRow
set_option linter.unusedVariables false
set_option linter.unusedSimpArgs false
namespace Go.Proofs.YtahnbigkdfmpbaaGreatDoor
open Go.RowKit
structure Put2 (p q:Nat) (w w':World) (x y:Value):Prop where
 os:w'.os=w.os
 tape:w'.tape=w.tape
 output:w'.output=w.output
 size:w.heap.size≤w'.heap.size
 block:∀ k,k<w.heap.size→k≠p→k≠q→w'.heap[k]? = w.heap[k]?
 cp:w'.cell? ⟨p,0,none⟩=some x
 cq:w'.cell? ⟨q,0,none⟩=some y
theorem put2_of {p q:Nat} {w:World} {x y a b:Value} (o:Obj) (hpq:¬ p=q) (hp:p<w.heap.size) (hq:q<w.heap.size) (c0:w.cell? ⟨p,0,none⟩=some a) (c1:w.cell? ⟨q,0,none⟩=some b) :
  Put2 p q w ((((w.setCell ⟨p,0,none⟩ x).setCell ⟨q,0,none⟩ y).alloc o).drew) x y:=by
 have hs:((w.setCell ⟨p,0,none⟩ x).setCell ⟨q,0,none⟩ y).heap.size=w.heap.size:=by simp [World.setCell]
 have hb:∀ k,k<w.heap.size→((((w.setCell ⟨p,0,none⟩ x).setCell ⟨q,0,none⟩ y).alloc o).drew).heap[k]? = ((w.setCell ⟨p,0,none⟩ x).setCell ⟨q,0,none⟩ y).heap[k]?:=fun k hk=>Below.heap_alloc _ _ _ (by rw [hs];exact hk)
 refine⟨rfl,rfl,rfl,?_,fun k hk h1 h2=>(hb k hk).trans ?_,?_,?_⟩
 ·show _≤(World.alloc _ o).heap.size
  simp [World.setCell]
 ·rw [Below.heap_setCell _ _ _ _ h2,Below.heap_setCell _ _ _ _ h1]
 ·rw [World.cell?_of_block (w:=(w.setCell ⟨p,0,none⟩ x).setCell ⟨q,0,none⟩ y) (hb p hp),World.cell?_setCell_other _ _ _ _ (fun e=>hpq (congrArg Addr.block e).symm)]
  exact World.cell?_setCell_same w _ _ c0
 ·rw [World.cell?_of_block (w:=(w.setCell ⟨p,0,none⟩ x).setCell ⟨q,0,none⟩ y) (hb q hq)]
  exact World.cell?_setCell_same (w.setCell ⟨p,0,none⟩ x) _ _ ((World.cell?_setCell_other _ _ _ _ (fun e=>hpq (congrArg Addr.block e))).trans c1)
theorem assert_fault (v:Value) (w:World):(Instr.typeAssert (.iface 63 v) 20 63 false).run Tryz.prog w=.ok v w:=by
 simp [Instr.typeAssert,run_underlying Tryz.underlying63]
set_option maxRecDepth 100000 in
set_option maxHeartbeats 1000000 in
theorem catchT_panicking (p q:Nat) (a b x y:Int) (older:List PanicEntry) (w:World) (hpq:¬ p=q) (hp:p<w.heap.size) (hq:q<w.heap.size) (c0:w.cell? ⟨p,0,none⟩=some (.int .i64 a)) (c1:w.cell? ⟨q,0,none⟩=some (.int .i64 b)) (z0:w.frozen? ⟨p,0,none⟩=false) (z1:w.frozen? ⟨q,0,none⟩=false) :
  CallsD Tryz.prog 17 #[.pointer (some ⟨p,0,none⟩),.pointer (some ⟨q,0,none⟩)] (.panicking ({ v:=.iface 63 (.agg #[.int .i64 x,.int .i64 y]),recovered:=false } :: older)) w fun e u' w' =>
   e=.returned (.tuple #[])∧u'=.panicking ({ v:=.iface 63 (.agg #[.int .i64 x,.int .i64 y]),recovered:=true } :: older)∧Put2 p q w w' (.int .i64 x) (.int .i64 y):=by
 refine callsD_of_wpS Tryz.func17 rfl fun c₀ cs hu=>?_
 apply wpS_seq
 apply wpS_region
 simp [wpOpsS,go_sem,recoverD,hu,Tryz.ntmps17,Exit.thenS]
 refine wpS_of_wp ?_
 obtain⟨I,hI⟩:∃ I,I=Value.agg #[.int .i64 x,.int .i64 y]:=⟨_,rfl⟩
 change Code.wp Tryz.prog _ _ { tmps:=#[.pointer (some ⟨p,0,none⟩),.pointer (some ⟨q,0,none⟩),.iface 63 (.agg #[.int .i64 x,.int .i64 y]),undef,.iface 63 (.agg #[.int .i64 x,.int .i64 y]),undef,undef,undef,undef,undef,undef,undef,undef],defers:=[] } w
 clear hI
 have e1:¬ p=w.heap.size:=by omega
 have e2:¬ q=w.heap.size:=by omega
 have e3:¬ w.heap.size=p:=by omega
 have e4:¬ w.heap.size=q:=by omega
 have hta:=fun w=>assert_fault (.agg #[.int .i64 x,.int .i64 y]) w
 go_wp2_with fail
 go_region
 simp +zetaDelta [bodyPostS,results,Tryz.results17]
 exact put2_of _ hpq hp hq c0 c1
theorem catchT_idle (p q:Nat) (w:World) :
  CallsD Tryz.prog 17 #[.pointer (some ⟨p,0,none⟩),.pointer (some ⟨q,0,none⟩)] .returning w fun e u' w'=>e=.returned (.tuple #[])∧u'=.returning∧w'=w:=by
 refine callsD_of_wpS Tryz.func17 rfl fun c₀ cs hu=>?_
 apply wpS_seq
 apply wpS_region
 simp [wpOpsS,go_sem,recoverD,hu,Tryz.ntmps17,Exit.thenS]
 refine wpS_of_wp ?_
 change Code.wp Tryz.prog _ _ { tmps:=#[.pointer (some ⟨p,0,none⟩),.pointer (some ⟨q,0,none⟩),.nilIface,undef,.nilIface,undef,undef,undef,undef,undef,undef,undef,undef],defers:=[] } w
 go_wp2_with fail
 cases c₀
 simp_all +zetaDelta [bodyPostS,results,Tryz.results17]
end Go.Proofs.YtahnbigkdfmpbaaGreatDoor
