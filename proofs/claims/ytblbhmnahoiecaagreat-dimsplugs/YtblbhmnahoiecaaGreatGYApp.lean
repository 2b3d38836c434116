/- append of a row of clauses onto a row of the call's own. -/
import Derived.Lib.AppendZeros
import Derived.Maps.AppendAt
import Derived.Test.YtblbhmnahoiecaaGreatGFB
set_option linter.unusedVariables false
set_option linter.unusedSimpArgs false
namespace Go.Proofs.YtblbhmnahoiecaaGreat
open Go.RowKit
theorem run_append_none (n:Nat) (ty:TypeId) (c:Nat) (w:World):(Builtin.append_ #[22,22] ty #[.slice none 0 0,.slice none 0 c]).run Tryz.prog w=.ok (.slice none 0 0) w:=by
 simp [Builtin.append_,run_underlying Tryz.underlying22,Result.andThen,Builtin.lenOf,Builtin.firstCells,storeCells]
theorem run_append_nilc (n cap c:Nat) (hn:n≤cap) (ad:Addr) (ty:TypeId) (w:World):(Builtin.append_ #[22,22] ty #[.slice (some ad) n cap,.slice none 0 c]).run Tryz.prog w=.ok (.slice (some ad) n cap) w:=by
 simp [Builtin.append_,run_underlying Tryz.underlying22,Result.andThen,Builtin.lenOf,Builtin.firstCells,storeCells,hn]
theorem grownBy_refl (w:World) (row:Option Nat):w.grownBy w row:=World.grownBy.refl w row
theorem append_row {W:World} {base:Nat} {v s:Value} {u l:List C} (ty:TypeId) (hO:OwnsC W base v u) (hs:CRow W s l) (hn:u.length+l.length≤200000) (hb:base≤W.heap.size) :
  ∃ v' W',(Builtin.append_ #[22,22] ty #[v,s]).run Tryz.prog W=.ok v' W'∧OwnsC W' base v' (u++l)∧W.grownBy W' v.ownBlock∧(v'.ownBlock=v.ownBlock∨v'.ownBlock=some W.heap.size):=by
 obtain⟨i0,hi,hz0,hz1,hz2⟩:=info_parts Tryz.infoC
 have big:∀ (ad:Addr) (c:Nat),s=.slice (some ad) l.length c→(∀ j x,(flat l)[j]? = some x→W.cell? (ad.add j)=some x)→∃ v' W',(Builtin.append_ #[22,22] ty #[v,s]).run Tryz.prog W=.ok v' W'∧OwnsC W' base v' (u++l)∧W.grownBy W' v.ownBlock∧(v'.ownBlock=v.ownBlock∨v'.ownBlock=some W.heap.size):=by
  intro ad c hs hc
  obtain⟨v',W',hrun,r1,r2,_,r4⟩:=run_append_own_at (P:=Tryz.prog) W base 22 ty 38 i0 _ 2 8 Tryz.underlying22 hi hz0 hz1 hz2 rfl (by decide) v u.length (flat u) hO ad l.length c (flat l) (flat_length l) hc (flat_oneCell l) (by unfold maxLen;omega) (by omega) hb
  refine⟨v',W',by rw [hs];exact hrun,?_,r2,r4⟩
  unfold OwnsC
  rw [flat_append,List.length_append]
  exact r1
 rcases hs with ⟨a,c,rfl,rfl⟩|⟨g,off,c,rfl,hg,hc⟩
 ·cases a with
  | some ad=>exact big ad c rfl (fun j x hj=>by simp [flat] at hj)
  | none =>
   rcases hO.2 with ⟨rfl,hz⟩|⟨g,cap,cur,rfl,_,_,hle,_⟩
   ·exact⟨_,_,run_append_none 0 ty c W,by rw [List.append_nil];exact hO,grownBy_refl _ _,.inl rfl⟩
   ·exact⟨_,_,run_append_nilc _ _ c hle _ ty W,by rw [List.append_nil];exact hO,grownBy_refl _ _,.inl rfl⟩
 ·exact big _ c rfl (news_cells hc)
theorem wpList_append_row {w:World} {ops:Array Oper} {rest:List Oper} {o:Oper} {a:Act} {Q:Exit→Act→World→Prop} (hgd:o.guard=none) (s x:Operand)
  (ho:o.op=.call { callee:=.builtin .append,args:=#[s,x],argTypes:=#[22,22] }) (base:Nat) (v sv:Value) (u l:List C) (hs:a.eval s=v) (hx:a.eval x=sv)
  (hO:OwnsC w base v u) (hr:CRow w sv l) (hn:u.length+l.length≤200000) (hb:base≤w.heap.size)
  (h:∀ v' w',OwnsC w' base v' (u++l)→w.grownBy w' v.ownBlock→(v'.ownBlock=v.ownBlock∨v'.ownBlock=some w.heap.size)→wpList Tryz.prog ops Q rest (a.put o.dst v') w'):wpList Tryz.prog ops Q (o :: rest) a w:=by
 refine wpList_plain hgd fun K hK'=>?_
 obtain⟨v',w',hrun,r1,r2,r3⟩:=append_row o.type hO hr hn hb
 unfold Oper.wp
 simp [execOp,ho,resolve,invoke,builtin,hs,hx,hrun,Result.andThen]
 exact hK' _ _ (h v' w' r1 r2 r3)
theorem own_grown {W W':World} {base:Nat} {v:Value} {u:List C} (hO:OwnsC W base v u) (hg:W.grownBy W' v.ownBlock) (hb:base≤W.heap.size):Below base W W' :=
 (Below.refl base W).grown hg hb (fun k hk=>(World.ownsRow.lt hO k hk).1)
theorem own_ne {W:World} {base:Nat} {v:Value} {u:List C} (hO:OwnsC W base v u):v.ownBlock≠some W.heap.size:=fun h=>by have:=(World.ownsRow.lt hO _ h).2;omega
theorem own_next {v v':Value} {n g:Nat} (h:v'.ownBlock=v.ownBlock∨v'.ownBlock=some n) (hne:v.ownBlock≠some g) (hlt:g<n):v'.ownBlock≠some g:=by
 rcases h with h|h
 ·rw [h];exact hne
 ·rw [h];intro e;injection e with e;omega
end Go.Proofs.YtblbhmnahoiecaaGreat
