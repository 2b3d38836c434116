/- Rows of clauses with their room; belowOne of the layer formula. append of a row of clauses onto a row of the call's own; Least as a function of the row. meet: what two formulas make, met, in new memory. Nothing that lay before the call turns. Slices of numbers in memory: owned, and read. The document's answer: Ints of two slices that hold the same numbers is true. mask.dimensions hands out 0 .. 23, rising, whatever the loop's body does; mask.Count, List, Free over it. The document's answer: List, Set, Without, With, Free: what they hand back; nothing that lay before the call turns. fold over a row of clauses, from a row on; opposites of a clause's literals. join: what two formulas make, joined, in new memory. Nothing that lay before the call turns. Right: may a formula be? Nothing that lay before the call turns. Not, and the exported Join, Meet, Dim, One, Zero: each answer in new memory; nothing that lay before the call turns. -/
import Derived.Test.YtahnbigkdfmpbaaGreatDoorIFB
import Derived.Test.YtahnbigkdfmpbaaGreatDoorIFA
import Derived.Lib.AppendZeros
import Derived.Maps.AppendAt
import Derived.WalkKit
import Derived.Laws.OwnMore
import Derived.OwnWalk
import Derived.Test.YtahnbigkdfmpbaaGreatDoorProg
import Derived.Deep.QuietTactic
import Derived.BigQuiet
import Derived.WalkSmall
import Derived.RangeFuncNested
import Derived.RangeFuncBound
import Derived.RangeFuncCalls
import Derived.RangeFuncLeaves
import Derived.RangeFuncFrom
import Derived.RangeFuncBox
import Derived.Shelf.Abstract
import Derived.Shelf.RegionOpen
import Derived.OwnWalkIn
import Derived.TacticsInMore
import Derived.LoopNIn
import Derived.LoopIn
set_option linter.unusedVariables false
set_option linter.unusedSimpArgs false
namespace Go.Proofs.YtahnbigkdfmpbaaGreatDoor.F
open Go.RowKit Go.Shelf Go.Sort
structure FRow (w:World) (v:Value) (l:List C):Prop where
 row:CRow w v l
 cap:∃ a n cap,v=.slice a n cap∧n≤cap
theorem FRow.below {w w':World} {v:Value} {l:List C} (h:FRow w v l) (hb:Below w.heap.size w w'):FRow w' v l:=⟨h.row.below hb,h.cap⟩
theorem OwnsC.frow {w:World} {base:Nat} {v:Value} {l:List C} (h:OwnsC w base v l):FRow w v l :=
 ⟨OwnsC.row h,by
  rcases h.2 with ⟨rfl,hz⟩|⟨g,cap,cur,rfl,_,_,hn,_⟩
  ·exact⟨_,_,_,rfl,Nat.le_refl _⟩
  ·exact⟨_,_,_,rfl,hn⟩⟩
theorem FRow.form {w:World} {v:Value} {l:List C} (h:FRow w v l) (hl:l≠[]):∃ g off cap,v=.slice (some ⟨g,off,none⟩) l.length cap∧l.length≤cap∧g<w.heap.size∧CellsC w g off l:=by
 obtain⟨g,off,cap,rfl,hg,hc⟩:=h.row.cons hl
 obtain⟨a,n,cap',e,hle⟩:=h.cap
 injection e with e1 e2 e3
 subst e2 e3
 exact⟨g,off,cap,rfl,hle,hg,hc⟩
theorem FRow.len {w:World} {v:Value} {l:List C} (h:FRow w v l):∃ a cap,v=.slice a l.length cap:=h.row.len
theorem fpred_any (c:C) (B:Nat) (w:World) (hB:B<w.heap.size) (h0:w.cell? ⟨B,0,none⟩=some (.int .u32 (c.1.val:Int))) (h1:w.cell? ⟨B,1,none⟩=some (.int .u32 (c.2.val:Int))) :
  PredBelow Tryz.prog 145 #[.pointer (some ⟨B,0,none⟩)] (fun x=>.agg (encC x).toArray) (fun x=>belC c x) w:=fun W x hb=>by
 have g0:W.cell? ⟨B,0,none⟩=some (.int .u32 (c.1.val:Int)):=(hb.cell (p:=⟨B,0,none⟩) hB).trans h0
 have g1:W.cell? ⟨B,1,none⟩=some (.int .u32 (c.2.val:Int)):=(hb.cell (p:=⟨B,1,none⟩) hB).trans h1
 have hBW:B<W.heap.size:=Nat.lt_of_lt_of_le hB hb.size
 have hne:B≠W.heap.size:=by omega
 show Calls Tryz.prog 145 #[clV x,.pointer (some ⟨B,0,none⟩)] W _
 go_enter Tryz.func145,Tryz.ntmps145
 go_wp2_with (go_at_call 146;refine (bel_any c x _).mono ?_;rintro e w' ⟨rfl,hG⟩)
 go_ret
 exact⟨rfl,(hb.alloc hb.size _).trans (hG.below.mono (by have:=hb.size;simp;omega))⟩
set_option maxHeartbeats 1000000 in
theorem fbelowOne_any (c:C) (l:List C) (v:Value) (w:World) (hv:CRow w v l) (hl:l.length≤100000) :
  Calls Tryz.prog 133 #[clV c,v] w fun e w'=>e=.returned (.bool (l.any (fun b=>belC c b)))∧Below w.heap.size w w':=by
 have eg:∀ args w,(callFunc 145 args).run Tryz.prog w=.ok (.enter 145 args) w:=enters_of Tryz.func145 (by kernel_rfl) rfl
 by_cases hz:l=[]
 ·subst hz
  obtain⟨a,cap,rfl⟩:=hv.len
  clear hv
  go_enter Tryz.func133,Tryz.ntmps133
  go_wp2_with (go_at_call 141;refine (has_none _ _ _ _).mono ?_;rintro e w' ⟨rfl,rfl⟩)
  go_ret
  exact⟨rfl,below_alloc _ _⟩
 ·obtain⟨g,off,cap,rfl,hg,hc⟩:=hv.cons hz
  clear hv
  have hcon:=AnyQ.slices_ContainsFunc hasC 2 Tryz.isAgg49 Tryz.sizeOf49 encC (fun _=>rfl) (fun x=>belC c x) 145 #[.pointer (some ⟨w.heap.size,0,none⟩)] eg g off l.length cap l (w.alloc (.cells #[.int .u32 (c.1.val:Int),.int .u32 (c.2.val:Int)] 49))
   (fpred_any c w.heap.size _ (by simp) (by simp [go_sem]) (by simp [go_sem])) (Nat.le_refl _) (by omega) (by simp;omega) (fun j hj i u hi=>by
    refine Lib.cell?_alloc_some _ ?_
    have h1:=hc j l[j] (List.getElem?_eq_getElem hj)
    have e:l[j]! = l[j]:=getElem!_pos l j hj
    rw [e] at hi
    match i,hi with
    | 0,hi=>simp [encC] at hi;rw [← hi];exact h1.1
    | 1,hi=>simp [encC] at hi;rw [← hi];exact h1.2
    | i+2,hi=>simp [encC] at hi)
  change Calls Tryz.prog 141 _ _ _ at hcon
  rw [List.take_of_length_le (Nat.le_refl _)] at hcon
  clear hc
  generalize l.any (fun b=>belC c b)=r at hcon ⊢
  go_enter Tryz.func133,Tryz.ntmps133
  go_wp2_with (go_at_call 141;refine hcon.mono ?_;rintro e w' ⟨rfl,hb'⟩)
  go_ret
  exact⟨rfl,(below_alloc w _).trans (hb'.mono (by simp))⟩
end Go.Proofs.YtahnbigkdfmpbaaGreatDoor.F
namespace Go.Proofs.YtahnbigkdfmpbaaGreatDoor.F
open Go.RowKit
theorem run_append_none (n:Nat) (ty:TypeId) (c:Nat) (w:World):(Builtin.append_ #[33,33] ty #[.slice none 0 0,.slice none 0 c]).run Tryz.prog w=.ok (.slice none 0 0) w:=by
 simp [Builtin.append_,run_underlying Tryz.underlying33,Result.andThen,Builtin.lenOf,Builtin.firstCells,storeCells]
theorem run_append_nilc (n cap c:Nat) (hn:n≤cap) (ad:Addr) (ty:TypeId) (w:World):(Builtin.append_ #[33,33] ty #[.slice (some ad) n cap,.slice none 0 c]).run Tryz.prog w=.ok (.slice (some ad) n cap) w:=by
 simp [Builtin.append_,run_underlying Tryz.underlying33,Result.andThen,Builtin.lenOf,Builtin.firstCells,storeCells,hn]
theorem grownBy_refl (w:World) (row:Option Nat):w.grownBy w row:=World.grownBy.refl w row
theorem append_row {W:World} {base:Nat} {v s:Value} {u l:List C} (ty:TypeId) (hO:OwnsC W base v u) (hs:CRow W s l) (hn:u.length+l.length≤200000) (hb:base≤W.heap.size) :
  ∃ v' W',(Builtin.append_ #[33,33] ty #[v,s]).run Tryz.prog W=.ok v' W'∧OwnsC W' base v' (u++l)∧W.grownBy W' v.ownBlock∧(v'.ownBlock=v.ownBlock∨v'.ownBlock=some W.heap.size):=by
 obtain⟨i0,hi,hz0,hz1,hz2⟩:=info_parts Tryz.infoC
 have big:∀ (ad:Addr) (c:Nat),s=.slice (some ad) l.length c→(∀ j x,(flat l)[j]? = some x→W.cell? (ad.add j)=some x)→∃ v' W',(Builtin.append_ #[33,33] ty #[v,s]).run Tryz.prog W=.ok v' W'∧OwnsC W' base v' (u++l)∧W.grownBy W' v.ownBlock∧(v'.ownBlock=v.ownBlock∨v'.ownBlock=some W.heap.size):=by
  intro ad c hs hc
  obtain⟨v',W',hrun,r1,r2,_,r4⟩:=run_append_own_at (P:=Tryz.prog) W base 33 ty 49 i0 _ 2 8 Tryz.underlying33 hi hz0 hz1 hz2 rfl (by decide) v u.length (flat u) hO ad l.length c (flat l) (flat_length l) hc (flat_oneCell l) (by unfold maxLen;omega) (by omega) hb
  refine⟨v',W',by rw [hs];exact hrun,?_,r2,r4⟩
  unfold OwnsC
  rw [flat_append,List.length_append]
  exact r1
 rcases hs with ⟨a,c,rfl,rfl⟩|⟨g,off,c,rfl,hg,hc⟩
 ·cases a with
  | some ad=>exact big ad c rfl (fun j x hj=>by simp [flat] at hj)
  | none =>
   rcases hO.2 with ⟨rfl,hz⟩|⟨g,cap,cur,rfl,_,_,hle,_⟩
   ·exact⟨_,_,run_append_none 0 ty c W,by rw [List.append_nil];exact hO,grownBy_refl _ _,.inl rfl⟩
   ·exact⟨_,_,run_append_nilc _ _ c hle _ ty W,by rw [List.append_nil];exact hO,grownBy_refl _ _,.inl rfl⟩
 ·exact big _ c rfl (news_cells hc)
theorem wpList_append_row {w:World} {ops:Array Oper} {rest:List Oper} {o:Oper} {a:Act} {Q:Exit→Act→World→Prop} (hgd:o.guard=none) (s x:Operand)
  (ho:o.op=.call { callee:=.builtin .append,args:=#[s,x],argTypes:=#[33,33] }) (base:Nat) (v sv:Value) (u l:List C) (hs:a.eval s=v) (hx:a.eval x=sv)
  (hO:OwnsC w base v u) (hr:CRow w sv l) (hn:u.length+l.length≤200000) (hb:base≤w.heap.size)
  (h:∀ v' w',OwnsC w' base v' (u++l)→w.grownBy w' v.ownBlock→(v'.ownBlock=v.ownBlock∨v'.ownBlock=some w.heap.size)→wpList Tryz.prog ops Q rest (a.put o.dst v') w'):wpList Tryz.prog ops Q (o :: rest) a w:=by
 refine wpList_plain hgd fun K hK'=>?_
 obtain⟨v',w',hrun,r1,r2,r3⟩:=append_row o.type hO hr hn hb
 unfold Oper.wp
 simp [execOp,ho,resolve,invoke,builtin,hs,hx,hrun,Result.andThen]
 exact hK' _ _ (h v' w' r1 r2 r3)
theorem own_grown {W W':World} {base:Nat} {v:Value} {u:List C} (hO:OwnsC W base v u) (hg:W.grownBy W' v.ownBlock) (hb:base≤W.heap.size):Below base W W' :=
 (Below.refl base W).grown hg hb (fun k hk=>(World.ownsRow.lt hO k hk).1)
theorem OwnsC.len {w:World} {base:Nat} {v:Value} {l:List C} (h:OwnsC w base v l):∃ a cap,v=.slice a l.length cap:=(OwnsC.row h).len
theorem At.far {W W':World} {g:Nat} {c:C} {row:Option Nat} (h:At W g c) (hg:W.grownBy W' row) (hne:some g≠row):At W' g c :=
 ⟨(hg.cell_far ⟨g,0,none⟩ h.2.2 hne).trans h.1,(hg.cell_far ⟨g,1,none⟩ h.2.2 hne).trans h.2.1,Nat.lt_of_lt_of_le h.2.2 hg.size⟩
theorem leastC (l:List C) (v:Value) (w:World) (hv:CRow w v l) (hl:l.length≤100000) :
  Calls Tryz.prog 136 #[v] w fun e w'=>∃ v',e=.returned (.tuple #[v',.int .i64 (leastF l).2])∧OwnsC w' w.heap.size v' (leastF l).1∧Below w.heap.size w w' :=
 (least_any l v w hv hl).mono fun e w'=>by
  rintro⟨v',M,er,rfl,hL,hO,hB⟩
  rw [leastF_of hL]
  exact⟨v',rfl,hO,hB⟩
theorem row_one (w:World) (c:C):CRow (w.alloc (.cells #[.int .u32 (c.1.val:Int),.int .u32 (c.2.val:Int)] 49)) (.slice (some ⟨w.heap.size,0,none⟩) 1 1) [c] :=
 row_lit w [c] _ 1 rfl rfl (by omega)
theorem own_one1 (w:World) (c:C) (base:Nat) (hb:base≤w.heap.size):OwnsC (w.alloc (.cells #[.int .u32 (c.1.val:Int),.int .u32 (c.2.val:Int)] 49)) base (.slice (some ⟨w.heap.size,0,none⟩) 1 1) [c] :=
 World.ownsRow_lit (base:=base) (e:=49) (size:=2) w #[.int .u32 (c.1.val:Int),.int .u32 (c.2.val:Int)] 1 hb (by unfold maxLen;omega) rfl
theorem own_ne {W:World} {base:Nat} {v:Value} {u:List C} (hO:OwnsC W base v u):v.ownBlock≠some W.heap.size:=fun h=>by have:=(World.ownsRow.lt hO _ h).2;omega
theorem own_next {v v':Value} {n g:Nat} (h:v'.ownBlock=v.ownBlock∨v'.ownBlock=some n) (hne:v.ownBlock≠some g) (hlt:g<n):v'.ownBlock≠some g:=by
 rcases h with h|h
 ·rw [h];exact hne
 ·rw [h];intro e;injection e with e;omega
end Go.Proofs.YtahnbigkdfmpbaaGreatDoor.F
namespace Go.Proofs.YtahnbigkdfmpbaaGreatDoor.F
open Go.RowKit
theorem pairs_snoc (l m:List C) (c:C):pairsC (l ++ [c]) m=pairsC l m++m.map (meetC c):=by simp [pairsC]
theorem pairs_take_step {l m:List C} {k:Nat} {c:C} (h:l[k]? = some c):pairsC (l.take (k+1)) m=pairsC (l.take k) m++m.map (meetC c):=by
 have e:l.take (k+1)=l.take k ++ [c]:=by rw [List.take_add_one,h];rfl
 rw [e,pairs_snoc]
theorem map_take_step {m:List C} {j:Nat} {c d:C} (h:m[j]? = some d):(m.take (j+1)).map (meetC c)=(m.take j).map (meetC c) ++ [meetC c d]:=by
 have e:m.take (j+1)=m.take j ++ [d]:=by rw [List.take_add_one,h];rfl
 rw [e];simp
theorem pairs_take_le (l m:List C) (k:Nat) (hl:l.length≤300) (hm:m.length≤300):(pairsC (l.take k) m).length≤90000:=by
 rw [pairs_length]
 have h1:(l.take k).length≤300:=by rw [List.length_take];omega
 exact Nat.mul_le_mul h1 hm
theorem CRow.at {w:World} {a0:Option Addr} {n cap:Nat} {l:List C} (hv:CRow w (.slice a0 n cap) l) {k:Nat} {c:C} (hk:l[k]? = some c):∃ g off,a0=some ⟨g,off,none⟩∧g<w.heap.size∧w.cell? ⟨g,off+k*2,none⟩=some (.int .u32 (c.1.val:Int))∧w.cell? ⟨g,off+k*2+1,none⟩=some (.int .u32 (c.2.val:Int)):=by
 have hz:l≠[]:=by rintro rfl;simp at hk
 obtain⟨g,off,cap2,e,hg,hc⟩:=hv.cons hz
 have e2:a0=some ⟨g,off,none⟩:=by injection e
 exact⟨g,off,e2,hg,(hc k c hk).1,(hc k c hk).2⟩
set_option maxRecDepth 100000 in
set_option maxHeartbeats 4000000 in
theorem fmeet_any (l m:List C) (a b:Value) (w:World) (ha:CRow w a l) (hb:CRow w b m) (hl:l.length≤300) (hm:m.length≤300) :
  Calls Tryz.prog 121 #[a,b] w fun e w'=>∃ v,e=.returned (.tuple #[v,.int .i64 (meetR l m).2])∧OwnsC w' w.heap.size v (meetR l m).1∧Below w.heap.size w w':=by
 obtain⟨i0,hi,hz0,hz1,hz2⟩:=info_parts Tryz.infoC
 have hpl:=fun k=>pairs_take_le l m k hl hm
 obtain⟨pa,ca,rfl⟩:=ha.len
 obtain⟨pb,cb,rfl⟩:=hb.len
 have Ha:Hid (CRow w (.slice pa l.length ca) l):=ha
 have Hb:Hid (CRow w (.slice pb m.length cb) m):=hb
 clear ha hb
 obtain⟨n1,hn1⟩:∃ n1,n1=l.length:=⟨_,rfl⟩
 obtain⟨n2,hn2⟩:∃ n2,n2=m.length:=⟨_,rfl⟩
 have Hn1:Hid (n1=l.length):=hn1
 have Hn2:Hid (n2=m.length):=hn2
 rw [← hn1] at hl Ha ⊢
 rw [← hn2] at hm Hb ⊢
 clear hn1 hn2
 have hnm:n1*n2≤90000:=Nat.mul_le_mul hl hm
 have e1:wrap64 ((n1:Int) * (n2:Int))=((n1*n2:Nat):Int):=by rw [← Int.natCast_mul];unfold wrap64;omega
 go_enter Tryz.func121,Tryz.ntmps121
 go_wp2_with (at_make;refine wpList_make_own _ rfl _ _ 33 rfl w.heap.size 49 i0 (.agg #[.int .u32 0,.int .u32 0]) 2 Tryz.underlying33 hi hz0 hz1 .i64 .i64 _ (n1*n2) rfl rfl (by first | rfl | exact e1) (by rw [hz2];omega) (by unfold maxLen;omega) (by simp) ?_;intro w1 hown1 hgrow1)
 go_loopw [6,19] (fun v i wr=>∃ k:Nat,k≤n1∧i=.int .i64 k∧OwnsC wr w.heap.size v (pairsC (l.take k) m)∧Below w.heap.size w wr) (fun _ i _=>n1 - (intOf i).toNat)
 case atStart=>exact⟨0,Nat.zero_le _,rfl,hown1,(Below.refl w.heap.size w).grown hgrow1 (Nat.le_refl _) (fun k h=>by cases h)⟩
 case round =>
  obtain⟨k,hk,rfl,hO,hny⟩:=hrel
  clear hown1 hgrow1
  by_cases hlt:k<n1
  ·obtain⟨c,hck⟩:=get_some (l:=l) (k:=k) (by rw [← Hn1.out];exact hlt)
   obtain⟨g,off,rfl,hg,x0,x1⟩:=(Ha.out.below hny).at hck
   have HC:Hid (l[k]? = some c):=hck
   clear hck
   have hne0:=own_ne hO
   go_wp2
   go_loopw [6,25] (fun v i wr2=>∃ j:Nat,j≤n2∧i=.int .i64 j∧OwnsC wr2 w.heap.size v (pairsC (l.take k) m++(m.take j).map (meetC c))∧Below w.heap.size w wr2∧At wr2 wr.heap.size c∧v.ownBlock≠some wr.heap.size) (fun _ i _=>n2 - (intOf i).toNat)
   case atStart=>exact⟨0,Nat.zero_le _,rfl,by simp only [List.take_zero,List.map_nil,List.append_nil];exact OwnsC.below hO (below_alloc _ _),chain hny (below_alloc _ _),At.made _ _ _,hne0⟩
   case round =>
    obtain⟨j,hj,rfl,hO2,hny2,hat,hne⟩:=hrel
    by_cases hlt2:j<n2
    ·obtain⟨d,hdj⟩:=get_some (l:=m) (k:=j) (by rw [← Hn2.out];exact hlt2)
     obtain⟨g2,off2,rfl,hg2,y0,y1⟩:=(Hb.out.below hny2).at hdj
     have hat0:=hat
     obtain⟨z0,z1,z2⟩:=hat0
     have HD:Hid (m[j]? = some d):=hdj
     have hlen:Hid ((pairsC (l.take k) m++(m.take j).map (meetC c)).length + [meetC c d].length≤200000):=by
      have h1:=hpl k
      have h2:=List.length_take_le j m
      show (pairsC (l.take k) m++(m.take j).map (meetC c)).length+1≤200000
      rw [List.length_append,List.length_map]
      omega
     clear hdj
     go_wp2_with (first
      | (go_at_call 138;refine (meet_any _ _ _).mono ?_;rintro e w3 ⟨rfl,hG⟩)
      | (at_builtin;refine wpList_append_row rfl _ _ rfl w.heap.size _ _ _ [meetC c d] rfl rfl (OwnsC.below (OwnsC.below (OwnsC.below hO2 (below_alloc _ _)) hG.below) (below_alloc _ _)) (row_one _ _) hlen.out (by have:=hny2.size;have:=hG.below.size;simp at *; omega) ?_;intro v4 w4 hO4 hg4 hv4))
     have hX:=chain (chain (chain hny2 (below_alloc _ _)) hG.below) (below_alloc w3 (.cells #[.int .u32 ((meetC c d).1.val:Int),.int .u32 ((meetC c d).2.val:Int)] 49))
     have hOX:=(OwnsC.below (OwnsC.below (OwnsC.below hO2 (below_alloc _ _)) hG.below) (below_alloc w3 (.cells #[.int .u32 ((meetC c d).1.val:Int),.int .u32 ((meetC c d).2.val:Int)] 49)))
     have hAX:=((hat.alloc _).below hG.below).alloc (.cells #[.int .u32 ((meetC c d).1.val:Int),.int .u32 ((meetC c d).2.val:Int)] 49)
     go_roundw
     case rel=>exact⟨j+1,by omega,by go_num,by rw [map_take_step HD.out,← List.append_assoc];exact hO4,hX.trans (own_grown hOX hg4 hX.size),hAX.far hg4 hne.symm,own_next hv4 hne hAX.2.2⟩
     case measure=>simp [intOf];omega
    ·obtain rfl:j=n2:=by omega
     have e2:m.take j=m:=List.take_of_length_le (by rw [← Hn2.out];exact Nat.le_refl _)
     rw [e2,← pairs_take_step HC.out] at hO2
     go_wp2
     go_roundw
     case rel=>exact⟨k+1,by omega,by go_num,hO2,hny2⟩
     case measure=>simp [intOf];omega
  ·obtain rfl:k=n1:=by omega
   have e:l.take k=l:=List.take_of_length_le (by rw [← Hn1.out];exact Nat.le_refl _)
   rw [e] at hO
   have hrl:(pairsC l m).length≤100000:=by have:=hpl k;rw [e] at this;omega
   go_wp2_with (go_at_call 136;refine (leastC _ _ _ (OwnsC.row hO) hrl).mono ?_;rintro e w2 ⟨v2,rfl,hO2,hB2⟩)
   go_ret2
   exact⟨_,rfl,OwnsC.mono hO2 hny.size,chain hny hB2⟩
end Go.Proofs.YtahnbigkdfmpbaaGreatDoor.F
namespace Go.Proofs.YtahnbigkdfmpbaaGreatDoor.F
open Go.RowKit
theorem Tryz.infoInt:(Tryz.prog.info? 3).map (fun i=>(i.zero,i.size,i.bytes))=some (some (.int .i64 0),1,8):=by kernel_rfl
def encI (k:Nat):Value:=.int .i64 (k:Int)
def OwnsL (w:World) (base:Nat) (v:Value) (l:List Nat):Prop:=w.ownsRow base 3 1 v l.length (l.map encI)
def RowAt (w:World) (v:Value) (l:List Nat):Prop :=
 (v=.slice none 0 0∧l=[])∨∃ g cap,v=.slice (some ⟨g,0,none⟩) l.length cap∧g<w.heap.size∧∀ j,j<l.length→w.cell? ⟨g,j,none⟩=some (.int .i64 ((l[j]?.getD 0:Nat):Int))
theorem OwnsL.rowAt {w:World} {base:Nat} {v:Value} {l:List Nat} (h:OwnsL w base v l):RowAt w v l:=by
 have h0:=h
 obtain⟨h1,h2 | ⟨g,cap,cur,rfl,hg,hh,hn,hc,hs,ht⟩⟩:=h
 ·exact .inl ⟨h2.1,List.length_eq_zero_iff.1 h2.2⟩
 ·refine .inr ⟨g,cap,rfl,?_,fun j hj=>?_⟩
  ·exact (World.ownsRow.lt h0 g rfl).2
  ·have:=World.ownsRow.cellAt h0 j (by omega)
   rw [this]
   simp [encI,hj]
theorem RowAt.below {w w':World} {v:Value} {l:List Nat} (h:RowAt w v l) (hb:Below w.heap.size w w'):RowAt w' v l:=by
 rcases h with h|⟨g,cap,rfl,hg,hc⟩
 ·exact .inl h
 ·exact .inr ⟨g,cap,rfl,Nat.lt_of_lt_of_le hg hb.size,fun j hj=>(hb.cell (p:=⟨g,j,none⟩) hg).trans (hc j hj)⟩
end Go.Proofs.YtahnbigkdfmpbaaGreatDoor.F
namespace Go.Proofs.YtahnbigkdfmpbaaGreatDoor.F
open Go.RowKit
end Go.Proofs.YtahnbigkdfmpbaaGreatDoor.F
namespace Go.Proofs.YtahnbigkdfmpbaaGreatDoor.F
open Go.RowKit Go.Shelf
attribute [local go_sem] Oper.semAt_some
abbrev Dim:=Fin 24
abbrev encD (x:Dim):Array Value:=#[.int .i64 ((x.1:Nat):Int)]
def firstD (k:Nat):List Dim:=(List.range k).filterMap (fun j=>if h:j<24 then some ⟨j,h⟩ else none)
theorem firstD_succ {k:Nat} (h:k<24):firstD (k+1)=firstD k ++ [⟨k,h⟩]:=by simp [firstD,List.range_succ,h]
theorem firstD_vals {k:Nat} (h:k≤24):(firstD k).map Fin.val=List.range k:=by
 induction k with
 | zero=>rfl
 | succ k ih=>rw [firstD_succ (by omega),List.map_append,ih (by omega),List.range_succ];rfl
theorem firstD_length {k:Nat} (h:k≤24):(firstD k).length=k:=by
 have:=congrArg List.length (firstD_vals h)
 simpa using this
set_option maxRecDepth 100000 in
set_option maxHeartbeats 1000000 in
theorem dims_stops (n:Nat) (hn:1≤n) (n₀:Nat) (w:World) :
  SeqStopsK Fence.wide n Tryz.prog 155 #[] encD (Below n₀) (fun xs=>xs.map Fin.val=List.range 24) (fun pre=>∃ k,k≤24∧pre.map Fin.val=List.range k) 24 w:=fun l J Jx W _ _ _ hY h0=>by
 refine callsIn_of_wp Tryz.func155 rfl trivial ?_ rfl
 simp only [Tryz.ntmps155,List.size_toArray,List.length_cons,List.length_nil,Nat.reduceAdd,Nat.reduceSub,Array.replicate_succ,Array.replicate_zero,List.push_toArray,List.append_toArray,List.nil_append,List.cons_append]
 gi_wp2
 gi_loopw [2] (fun i wr=>∃ k:Nat,k≤24∧i=.int .i64 k∧J (firstD k) wr) (fun i _=>24 - (intOf i).toNat)
 case atStart=>exact⟨0,by omega,rfl,h0⟩
 case round =>
  obtain⟨k,hk,rfl,hJs⟩:=hrel
  by_cases hlt:k<24
  ·obtain⟨fn,tmps,assign,body,hy,hR⟩:=hY _ ⟨k,hlt⟩ wr hJs (by rw [firstD_length hk];exact hlt)
   rw [← firstD_succ hlt] at hR
   dsimp only [encD] at hy
   have hv:=firstD_vals (k:=k+1) (by omega)
   have HV:Hid ((firstD (k+1)).map Fin.val=List.range (k+1)):=hv
   clear hv
   gi_wp2
   refine hR.mono ?_
   rintro e W3 (⟨rfl,hJ3,hk3⟩ | ⟨rfl,hJx3⟩)
   ·gi_wp2
    go_roundw
    case rel=>exact⟨k+1,by omega,by simp,hJ3⟩
    case measure=>simp [intOf];omega
   ·gi_wp2
    refine bodyPost_ret (results_none rfl _ _ _) rfl ?_
    exact⟨⟨_,rfl⟩,.inr ⟨_,⟨k+1,by omega,HV.out⟩,hJx3⟩⟩
  ·obtain rfl:k=24:=by omega
   gi_wp2
   go_end0
   exact⟨⟨_,rfl⟩,.inl ⟨_,firstD_vals (by omega),hJs⟩⟩
def inS (s:Nat) (pre:List Dim):List Nat:=(pre.map Fin.val).filter (fun k=>s.testBit k)
theorem inS_all {s:Nat} {xs:List Dim} (h:xs.map Fin.val=List.range 24):inS s xs=dimsOf s:=by rw [inS,h];rfl
theorem inS_hit {s:Nat} {pre:List Dim} {x:Dim} (h:s.testBit x.1=true):inS s (pre ++ [x])=inS s pre ++ [x.1]:=by simp [inS,h]
theorem inS_miss {s:Nat} {pre:List Dim} {x:Dim} (h:s.testBit x.1=false):inS s (pre ++ [x])=inS s pre:=by simp [inS,h]
theorem inS_length_le (s:Nat) (pre:List Dim):(inS s pre).length≤pre.length:=by
 have:=List.length_filter_le (fun k=>s.testBit k) (pre.map Fin.val)
 simpa [inS] using this
set_option maxRecDepth 100000 in
set_option maxHeartbeats 2000000 in
theorem list_any (s:Nat) (w:World) (hs:s<4294967296) :
  Calls Tryz.prog 149 #[.int .u32 s] w fun e W'=>∃ v,e=.returned v∧OwnsL W' w.heap.size v (dimsOf s)∧Below w.heap.size w W':=by
 obtain⟨i0,hi,hz0,hz1,hz2⟩:=info_parts Tryz.infoInt
 refine (callsIn_wide (n:=4)).1 ?_
 refine callsIn_of_wp_marks Tryz.func149 rfl trivial ?_ rfl
 simp only [Tryz.ntmps149,List.size_toArray,List.length_cons,List.length_nil,Nat.reduceAdd,Nat.reduceSub,Array.replicate_succ,Array.replicate_zero,List.push_toArray,List.append_toArray,List.nil_append,List.cons_append]
 gi_wp2
 have b0:=Boxed.new w 47 (.int .u32 s)
 have b1:=Boxed.new (w.alloc (.cells #[.int .u32 s] 47)) 121 (.slice none 0 0)
 rw [World.size_alloc] at b1
 have hB0:Below w.heap.size w ((w.alloc (.cells #[.int .u32 s] 47)).alloc (.cells #[.slice none 0 0] 121)):=((Below.refl _ w).alloc (Nat.le_refl _) _).alloc (by simp) _
 refine wpIn_rangeFunc_ownG rfl (by omega) (gf:=155) (lb:=#[]) rfl trivial (enters_of Tryz.func155 (by kernel_rfl) rfl)
  (dims_stops 3 (by omega) w.heap.size _) belowK_t (belowK_b (by simp;omega)) (Below.refl _ _) (fun _=>rfl)
  (fun pre W=>(Boxed W w.heap.size 47 (.int .u32 s)∧∃ v,Boxed W (w.heap.size+1) 121 v∧W.ownsRow w.heap.size 3 1 v (inS s pre).length ((inS s pre).map encI)∧True)∧Below w.heap.size w W)
  (fun _ _ _=>False)
  (OwnFrom.and (OwnFrom.and (Own.from (boxed_own _ _ _) _) (Own.from (holdsRow_own w.heap.size (w.heap.size+1) 121 3 1 (fun pre=>(inS s pre).length) (fun pre=>(inS s pre).map encI) (fun _ _=>True)) _)) (ownFrom_below (Nat.le_refl _) (by simp;omega)))
  (fun _ _ _ _ _ hs _ _=>hs)
  ⟨⟨b0.alloc _,_,b1,World.ownsRow_nil _ _ _ _,trivial⟩,hB0⟩
  (fun x=>{ tmps:=#[.int .u32 s,.pointer (some ⟨w.heap.size,0,none⟩),.slice none 0 0,.pointer (some ⟨w.heap.size+1,0,none⟩),.int .i64 ((x.1:Nat):Int),.int .i64 ((x.1:Nat):Int),undef,undef,undef,undef,undef,undef,undef,undef],defers:=[] }) ?assign ?body ?done ?stop
 case assign =>
  intro l x W K hK
  gi_wp2
  exact hK
 case body =>
  rintro l pre x W ⟨⟨hb0,v,hv,hrow,_⟩,hB⟩ hlt
  have hc0:=hb0.cell
  have hc1:=hv.cell
  have hx:=x.2
  have hul:=inS_length_le s pre
  by_cases hb:s.testBit x.1=true
  ·have hh:hasB s ((x.1:Nat):Int)=true:=by rw [hasB_nat hx];exact hb
   have HU:Hid (inS s (pre ++ [x])=inS s pre ++ [x.1]):=inS_hit hb
   clear hb
   gi_wp2_with (first
    | (refine⟨trivial,?_⟩;gi_at_call 115;refine (CallsIn.inRound l (callsIn_wide.2 (has_any _ _ _ hs))).mono ?_;rintro e w' ⟨rfl,rfl⟩;rw [hh])
    | (gi_at_builtin;refine wpListIn_append_own _ rfl _ _ 121 rfl w.heap.size 3 i0 (.int .i64 0) 1 8 Tryz.underlying121 hi hz0 hz1 hz2 rfl (by decide) _ _ _ rfl (hrow.alloc _) ⟨_,0,none⟩ 1 1 [.int .i64 ((x.1:Nat):Int)] rfl rfl (cell_one_new _ _ _) (by simp [Value.oneCell']) (by unfold maxLen;omega) (by omega) (by have:=hB.size;simp;omega) ?_;intro v' w1 hown' hgrow _;obtain⟨g',cap',rfl⟩:=ownsRow_succ hown'; obtain⟨hv1,hv2,hr2,hk2,hb2⟩:=hv.appended (by decide) hrow hB.size (by omega) hown' hgrow;have hb01:=(hb0.alloc (.cells #[.int .i64 ((x.1:Nat):Int)] 3)).kept hgrow (hb0.not_row (by decide) hrow);have hc1':=hv1.cell;have hf1:=hv1.frozen))
   exact⟨hk2.from _,hb2,⟨hb01.other (by omega) _,_,hv2,by rw [HU.out];simpa [encI] using hr2,trivial⟩,hB.trans hb2⟩
  ·have hb:s.testBit x.1=false:=by simpa using hb
   have hh:hasB s ((x.1:Nat):Int)=false:=by rw [hasB_nat hx];exact hb
   have HU:Hid (inS s (pre ++ [x])=inS s pre):=inS_miss hb
   clear hb
   gi_wp2_with (refine⟨trivial,?_⟩;gi_at_call 115;refine (CallsIn.inRound l (callsIn_wide.2 (has_any _ _ _ hs))).mono ?_;rintro e w' ⟨rfl,rfl⟩;rw [hh])
   exact⟨KeepsFrom.refl _ _,Below.refl _ _,⟨hb0,_,hv,by rw [HU.out];exact hrow,trivial⟩,hB⟩
 case done =>
  rintro D ys W hD hys ⟨⟨hb0,v,hv,hrow,_⟩,hB⟩ hK
  rw [inS_all hys] at hrow
  have hc:=hv.cell
  gi_wp2
  refine⟨by simp,.inl ⟨_,_,rfl,run_takeDeferred hK,?_⟩⟩
  exact⟨_,results_tmp rfl _ _ _,v,rfl,ownsRow_putObj hrow _ hK rfl,hB.trans (belowK_b (w:=w) (Nat.le_refl _) W D _ _ (by simp at hD;omega) hK rfl rfl)⟩
 case stop =>
  rintro D c pre W _ _ h _
  exact h.elim
end Go.Proofs.YtahnbigkdfmpbaaGreatDoor.F
namespace Go.Proofs.YtahnbigkdfmpbaaGreatDoor.F
open Go.RowKit
theorem getD_lt {l:List Nat} (h:∀ k∈l,k<24) {k:Nat} (hk:k<l.length):l[k]?.getD 0<24:=by
 have:l[k]?.getD 0=l[k]:=by simp [hk]
 rw [this];exact h _ (List.getElem_mem hk)
end Go.Proofs.YtahnbigkdfmpbaaGreatDoor.F
namespace Go.Proofs.YtahnbigkdfmpbaaGreatDoor.F
open Go.RowKit
set_option maxRecDepth 100000 in
set_option maxHeartbeats 2000000 in
theorem foldCR_any (fid:Nat) (cap:Array Value) (eg:∀ args w,(callFunc fid args).run Tryz.prog w=.ok (.enter fid args) w) (l:List C) (vs first:Value) (wb w:World) (hv:CRow wb vs l) (hl:l.length≤100000)
  (I:Nat→Value→World→Prop) (Q:Int→Prop) (hI:∀ k v W W',I k v W→Below W.heap.size W W'→I k v W') (hB:Below wb.heap.size wb w) (h0:I 0 first w)
  (hn:∀ k c v W,l[k]? = some c→Below wb.heap.size wb W→I k v W→Calls Tryz.prog fid (#[v,clV c] ++ cap) W fun e w'=>Below wb.heap.size wb w'∧∃ v' er,e=.returned (.tuple #[v',.int .i64 er])∧((er=0∧I (k+1) v' w')∨(er≠0∧Q er))) :
  Calls Tryz.prog 134 #[vs,first,.func (.func fid) #[] cap] w fun e w'=>Below wb.heap.size wb w'∧∃ v' er,e=.returned (.tuple #[v',.int .i64 er])∧((er=0∧I l.length v' w')∨(er≠0∧v'=.slice none 0 0∧Q er)):=by
 obtain⟨pa,ca,rfl⟩:=hv.len
 have Ha:Hid (CRow wb (.slice pa l.length ca) l):=hv
 clear hv
 obtain⟨n,hn1⟩:∃ n,n=l.length:=⟨_,rfl⟩
 have Hn:Hid (n=l.length):=hn1
 rw [← hn1] at hl Ha ⊢
 clear hn1
 have H0:Hid (I 0 first w):=h0
 have HI:Hid (∀ k v W W',I k v W→Below W.heap.size W W'→I k v W'):=hI
 have HN:Hid (∀ k c v W,l[k]? = some c→Below wb.heap.size wb W→I k v W→Calls Tryz.prog fid (#[v,clV c] ++ cap) W fun e w'=>Below wb.heap.size wb w'∧∃ v' er,e=.returned (.tuple #[v',.int .i64 er])∧((er=0∧I (k+1) v' w')∨(er≠0∧Q er))):=hn
 clear h0 hI hn
 go_enter Tryz.func134,Tryz.ntmps134
 go_wp2
 go_loopw [8,16] (fun v i wr=>∃ k:Nat,k≤n∧i=.int .i64 k∧Hid (I k v wr)∧Below wb.heap.size wb wr) (fun _ i _=>n - (intOf i).toNat)
 case atStart=>exact⟨0,Nat.zero_le _,rfl,H0,hB⟩
 case round =>
  obtain⟨k,hk,rfl,hIk,hny⟩:=hrel
  by_cases hlt:k<n
  ·obtain⟨c,hck⟩:=get_some (l:=l) (k:=k) (by rw [← Hn.out];exact hlt)
   obtain⟨g,off,rfl,hg,x0,x1⟩:=(Ha.out.below hny).at hck
   have HC:=HN.out k c _ (wr.alloc (.cells #[.int .u32 (c.1.val:Int),.int .u32 (c.2.val:Int)] 49)) hck (chain hny (below_alloc _ _)) (HI.out _ _ _ _ hIk.out (below_alloc _ _))
   clear hck
   go_wp2_with fail
   refine HC.mono ?_
   rintro e w2 ⟨hB2,v2,er,rfl,⟨rfl,hI2⟩ | ⟨hne,hq⟩⟩
   ·have HI2:Hid (I (k+1) v2 w2):=hI2
    clear hI2 HC
    go_wp2
    go_roundw
    case rel=>exact⟨k+1,by omega,by go_num,HI2,hB2⟩
    case measure=>simp [intOf];omega
   ·have HQ:Hid (Q er):=hq
    clear hq HC
    go_wp2
    go_ret2
    exact⟨hB2,_,er,rfl,.inr ⟨hne,rfl,HQ.out⟩⟩
  ·obtain rfl:k=n:=by omega
   go_wp2
   go_ret2
   exact⟨hny,_,0,rfl,.inl ⟨rfl,hIk.out⟩⟩
theorem with0 (k:Nat) (hk:k<24) (w:World):Calls Tryz.prog 116 #[.int .u32 0,.int .i64 (k:Int)] w fun e w'=>e=.returned (.int .u32 ((bitF k).val:Int))∧w'=w:=by
 have h:=with_any 0 (k:Int) w (by decide)
 have e:withN 0 (k:Int)=(bitF k).val:=by
  rw [withN,isDimB_nat hk,bitF_val hk];simp
 rw [e] at h
 exact h
theorem row_neg (w:World) (k:Nat):CRow (w.alloc (.cells #[.int .u32 0,.int .u32 ((bitF k).val:Int)] 49)) (.slice (some ⟨w.heap.size,0,none⟩) 1 1) [negB k]:=row_one w (negB k)
theorem row_pos (w:World) (k:Nat):CRow (w.alloc (.cells #[.int .u32 ((bitF k).val:Int),.int .u32 0] 49)) (.slice (some ⟨w.heap.size,0,none⟩) 1 1) [posB k]:=row_one w (posB k)
def Reads (W:World) (a:Option Addr) (n:Nat) (d:List Nat) (v:Value):Prop:=n=0∨∃ g,a=some ⟨g,0,none⟩∧g<W.heap.size∧v.ownBlock≠some g∧∀ j,j<n→W.cell? ⟨g,j,none⟩=some (.int .i64 ((d[j]?.getD 0:Nat):Int))
theorem Reads.below {W W':World} {a:Option Addr} {n:Nat} {d:List Nat} {v:Value} (h:Reads W a n d v) (hb:Below W.heap.size W W'):Reads W' a n d v :=
 h.imp id fun ⟨g,h1,h2,h3,h4⟩=>⟨g,h1,Nat.lt_of_lt_of_le h2 hb.size,h3,fun j hj=>(hb.cell (p:=⟨g,j,none⟩) h2).trans (h4 j hj)⟩
theorem Reads.far {W W':World} {a:Option Addr} {n:Nat} {d:List Nat} {v v':Value} (h:Reads W a n d v) (hg:W.grownBy W' v.ownBlock) (hv:v'.ownBlock=v.ownBlock∨v'.ownBlock=some W.heap.size):Reads W' a n d v' :=
 h.imp id fun ⟨g,h1,h2,h3,h4⟩=>⟨g,h1,Nat.lt_of_lt_of_le h2 hg.size,own_next hv h3 h2,fun j hj=>(hg.cell_far ⟨g,j,none⟩ h2 h3.symm).trans (h4 j hj)⟩
theorem Reads.of {W:World} {base:Nat} {vl:Value} {d:List Nat} (h:OwnsL W base vl d):∃ a cap,vl=.slice a d.length cap∧∀ v:Value,(∀ g,v.ownBlock=some g→g<base)→Reads W a d.length d v:=by
 rcases OwnsL.rowAt h with ⟨rfl,rfl⟩|⟨g,cap,rfl,hg,hc⟩
 ·exact⟨none,0,rfl,fun v _=>.inl rfl⟩
 ·refine⟨_,cap,rfl,fun v hv=>.inr ⟨g,rfl,hg,fun e=>?_,hc⟩⟩
  have h1:=hv g e
  have h2:=(World.ownsRow.lt h g rfl).1
  omega
theorem map_take_nat {d:List Nat} {f:Nat→C} {k:Nat} (h:k<d.length):(d.take (k+1)).map f=(d.take k).map f ++ [f (d[k]?.getD 0)]:=by
 have e:d[k]?.getD 0=d[k]:=by simp [h]
 rw [List.take_succ_eq_append_getElem h,List.map_append,e];rfl
set_option maxRecDepth 100000 in
set_option maxHeartbeats 4000000 in
theorem opp_any (c:C) (w:World) :
  Calls Tryz.prog 137 #[clV c] w fun e w'=>∃ v,e=.returned v∧OwnsC w' w.heap.size v (oppC c)∧Below w.heap.size w w':=by
 have hA:=At.made w c 49
 have hB:=below_alloc w (.cells #[.int .u32 (c.1.val:Int),.int .u32 (c.2.val:Int)] 49)
 have hc1:=c.1.isLt
 have hc2:=c.2.isLt
 have hd1:∀ {k},k<(dimsOf c.1.val).length→(dimsOf c.1.val)[k]?.getD 0<24:=fun h=>getD_lt dimsOf_lt h
 have hd2:∀ {k},k<(dimsOf c.2.val).length→(dimsOf c.2.val)[k]?.getD 0<24:=fun h=>getD_lt dimsOf_lt h
 have hl1:=dimsOf_length_le c.1.val
 have hl2:=dimsOf_length_le c.2.val
 go_enter Tryz.func137,Tryz.ntmps137
 go_wp2_with fail
 generalize w.alloc (.cells #[.int .u32 (c.1.val:Int),.int .u32 (c.2.val:Int)] 49)=wb at hA hB ⊢
 refine (list_any c.1.val wb hc1).mono ?_
 rintro e w1 ⟨vl,rfl,hOl,hB1⟩
 obtain⟨pa,ca,rfl,hR⟩:=Reads.of hOl
 replace hR:=hR (.slice none 0 0) (fun g h=>by cases h)
 obtain⟨n1,hn1⟩:∃ n1,n1=(dimsOf c.1.val).length:=⟨_,rfl⟩
 have Hn1:Hid (n1=(dimsOf c.1.val).length):=hn1
 rw [← hn1] at hl1 hR ⊢
 clear hn1 hOl
 go_wp2
 go_loopw [3,12] (fun v i wr=>∃ k:Nat,k≤n1∧i=.int .i64 k∧OwnsC wr wb.heap.size v (((dimsOf c.1.val).take k).map negB)∧Reads wr pa n1 (dimsOf c.1.val) v∧Below wb.heap.size wb wr) (fun _ i _=>n1 - (intOf i).toNat)
 case atStart=>exact⟨0,Nat.zero_le _,rfl,World.ownsRow_nil _ _ _ _,hR,hB1⟩
 case round =>
  obtain⟨k,hk,rfl,hO,hRd,hny⟩:=hrel
  clear hR
  by_cases hlt:k<n1
  ·obtain⟨g,rfl,hg,hne,hcell⟩:=hRd.resolve_left (by omega)
   have hRd2:Reads wr (some ⟨g,0,none⟩) n1 (dimsOf c.1.val) _:=.inr ⟨g,rfl,hg,hne,hcell⟩
   have x0:=hcell k hlt
   have hx:=hd1 (k:=k) (by rw [← Hn1.out];exact hlt)
   have HM:Hid (((dimsOf c.1.val).take (k+1)).map negB=((dimsOf c.1.val).take k).map negB ++ [negB ((dimsOf c.1.val)[k]?.getD 0)]):=map_take_nat (by rw [← Hn1.out];exact hlt)
   have hlen:Hid ((((dimsOf c.1.val).take k).map negB).length + [negB ((dimsOf c.1.val)[k]?.getD 0)].length≤200000):=by
    have:=List.length_take_le k (dimsOf c.1.val)
    show (((dimsOf c.1.val).take k).map negB).length+1≤200000
    rw [List.length_map];omega
   clear hcell hne
   generalize (dimsOf c.1.val)[k]?.getD 0=x at x0 hx HM hlen
   go_wp2_with (first
    | (go_at_call 116;refine (with0 _ hx _).mono ?_;rintro e w3 ⟨rfl,rfl⟩)
    | (at_builtin;refine wpList_append_row rfl _ _ rfl wb.heap.size _ _ _ [negB x] rfl rfl (OwnsC.below hO (below_alloc _ _)) (row_neg _ _) hlen.out (by have:=hny.size;simp at *; omega) ?_;intro v4 w4 hO4 hg4 hv4))
   have hX:=chain hny (below_alloc w3 (.cells #[.int .u32 0,.int .u32 ((bitF x).val:Int)] 49))
   have hOX:=OwnsC.below hO (below_alloc w3 (.cells #[.int .u32 0,.int .u32 ((bitF x).val:Int)] 49))
   have hRX:=hRd2.below (below_alloc w3 (.cells #[.int .u32 0,.int .u32 ((bitF x).val:Int)] 49))
   go_roundw
   case rel=>exact⟨k+1,by omega,by go_num,by rw [HM.out];exact hO4,hRX.far hg4 hv4,hX.trans (own_grown hOX hg4 hX.size)⟩
   case measure=>simp [intOf];omega
  ·obtain rfl:k=n1:=by omega
   have e1:(dimsOf c.1.val).take k=dimsOf c.1.val:=List.take_of_length_le (by rw [← Hn1.out];exact Nat.le_refl _)
   rw [e1] at hO
   clear hRd
   obtain⟨z0,z1,z2⟩:=hA.below hny
   go_wp2_with fail
   refine (list_any c.2.val wr hc2).mono ?_
   rintro e w5 ⟨vl,rfl,hOl,hB5⟩
   obtain⟨pb,cb,rfl,hR⟩:=Reads.of hOl
   have hOw:=hO
   have hRb:=hR _ (fun g h=>(World.ownsRow.lt hOw g h).2)
   clear hR
   have hO5:=OwnsC.below hO hB5
   have hny5:=chain hny hB5
   obtain⟨n2,hn2⟩:∃ n2,n2=(dimsOf c.2.val).length:=⟨_,rfl⟩
   have Hn2:Hid (n2=(dimsOf c.2.val).length):=hn2
   rw [← hn2] at hl2 hRb ⊢
   clear hn2 hOl hO hOw hny z0 z1 z2
   go_wp2
   go_loopw [3,27] (fun v i wr=>∃ k:Nat,k≤n2∧i=.int .i64 k∧OwnsC wr wb.heap.size v ((dimsOf c.1.val).map negB++((dimsOf c.2.val).take k).map posB)∧Reads wr pb n2 (dimsOf c.2.val) v∧Below wb.heap.size wb wr) (fun _ i _=>n2 - (intOf i).toNat)
   case atStart=>exact⟨0,Nat.zero_le _,rfl,by simpa using hO5,hRb,hny5⟩
   case round =>
    obtain⟨j,hj,rfl,hO,hRd,hny⟩:=hrel
    clear hRb hO5 hny5
    by_cases hlt:j<n2
    ·obtain⟨g,rfl,hg,hne,hcell⟩:=hRd.resolve_left (by omega)
     have hRd2:Reads wr (some ⟨g,0,none⟩) n2 (dimsOf c.2.val) _:=.inr ⟨g,rfl,hg,hne,hcell⟩
     have x0:=hcell j hlt
     have hx:=hd2 (k:=j) (by rw [← Hn2.out];exact hlt)
     have HM:Hid ((dimsOf c.1.val).map negB++((dimsOf c.2.val).take (j+1)).map posB=(dimsOf c.1.val).map negB++((dimsOf c.2.val).take j).map posB ++ [posB ((dimsOf c.2.val)[j]?.getD 0)]):=by
      show _=_
      rw [map_take_nat (by rw [← Hn2.out];exact hlt),List.append_assoc]
     have hlen:Hid (((dimsOf c.1.val).map negB++((dimsOf c.2.val).take j).map posB).length + [posB ((dimsOf c.2.val)[j]?.getD 0)].length≤200000):=by
      have:=List.length_take_le j (dimsOf c.2.val)
      show ((dimsOf c.1.val).map negB++((dimsOf c.2.val).take j).map posB).length+1≤200000
      rw [List.length_append,List.length_map,List.length_map,← Hn1.out];omega
     clear hcell hne
     generalize (dimsOf c.2.val)[j]?.getD 0=x at x0 hx HM hlen
     go_wp2_with (first
      | (go_at_call 116;refine (with0 _ hx _).mono ?_;rintro e w3 ⟨rfl,rfl⟩)
      | (at_builtin;refine wpList_append_row rfl _ _ rfl wb.heap.size _ _ _ [posB x] rfl rfl (OwnsC.below hO (below_alloc _ _)) (row_pos _ _) hlen.out (by have:=hny.size;simp at *; omega) ?_;intro v4 w4 hO4 hg4 hv4))
     have hX:=chain hny (below_alloc w3 (.cells #[.int .u32 ((bitF x).val:Int),.int .u32 0] 49))
     have hOX:=OwnsC.below hO (below_alloc w3 (.cells #[.int .u32 ((bitF x).val:Int),.int .u32 0] 49))
     have hRX:=hRd2.below (below_alloc w3 (.cells #[.int .u32 ((bitF x).val:Int),.int .u32 0] 49))
     go_roundw
     case rel=>exact⟨j+1,by omega,by go_num,by rw [HM.out];exact hO4,hRX.far hg4 hv4,hX.trans (own_grown hOX hg4 hX.size)⟩
     case measure=>simp [intOf];omega
    ·obtain rfl:j=n2:=by omega
     have e2:(dimsOf c.2.val).take j=dimsOf c.2.val:=List.take_of_length_le (by rw [← Hn2.out];exact Nat.le_refl _)
     rw [e2] at hO
     go_wp2
     go_ret
     exact⟨_,rfl,OwnsC.mono hO hB.size,chain hB hny⟩
end Go.Proofs.YtahnbigkdfmpbaaGreatDoor.F
namespace Go.Proofs.YtahnbigkdfmpbaaGreatDoor.F
open Go.RowKit
end Go.Proofs.YtahnbigkdfmpbaaGreatDoor.F
namespace Go.Proofs.YtahnbigkdfmpbaaGreatDoor.F
open Go.RowKit Go.Sort
theorem cright_q (c:C) (w:World) (d:Nat) (os:Array Obj):Calls Tryz.prog 131 #[clV c] (grow (redrawn w d) os) fun e w''=>e=.returned (.bool (rightC c))∧∃ p:Regrown,w''=grow (redrawn w p.d) p.os :=
 Calls.regrown_of ((cright_any c _).mono fun _ _ h=>⟨h.1,h.2.below⟩)
theorem cright_qt (c:C) (w:World) (d:Nat) (os:Array Obj) (h:rightC c=true):Calls Tryz.prog 131 #[clV c] (grow (redrawn w d) os) fun e w''=>e=.returned (.bool true)∧∃ p:Regrown,w''=grow (redrawn w p.d) p.os:=h ▸ cright_q c w d os
theorem cright_qf (c:C) (w:World) (d:Nat) (os:Array Obj) (h:rightC c=false):Calls Tryz.prog 131 #[clV c] (grow (redrawn w d) os) fun e w''=>e=.returned (.bool false)∧∃ p:Regrown,w''=grow (redrawn w p.d) p.os:=h ▸ cright_q c w d os
theorem cmp_q (a b:C) (w:World) (d:Nat) (os:Array Obj):Calls Tryz.prog 132 #[clV a,clV b] (grow (redrawn w d) os) fun e w''=>e=.returned (.int .i64 (cmpC a b))∧∃ p:Regrown,w''=grow (redrawn w p.d) p.os :=
 Calls.regrown_of ((cmp_any a b _).mono fun _ _ h=>⟨h.1,h.2.below⟩)
theorem cmp_qm (a b:C) (w:World) (d:Nat) (os:Array Obj) (h:cmpC a b = -1):Calls Tryz.prog 132 #[clV a,clV b] (grow (redrawn w d) os) fun e w''=>e=.returned (.int .i64 (-1))∧∃ p:Regrown,w''=grow (redrawn w p.d) p.os:=h ▸ cmp_q a b w d os
theorem cmp_qz (a b:C) (w:World) (d:Nat) (os:Array Obj) (h:cmpC a b=0):Calls Tryz.prog 132 #[clV a,clV b] (grow (redrawn w d) os) fun e w''=>e=.returned (.int .i64 0)∧∃ p:Regrown,w''=grow (redrawn w p.d) p.os:=h ▸ cmp_q a b w d os
theorem cmp_qp (a b:C) (w:World) (d:Nat) (os:Array Obj) (h:cmpC a b=1):Calls Tryz.prog 132 #[clV a,clV b] (grow (redrawn w d) os) fun e w''=>e=.returned (.int .i64 1)∧∃ p:Regrown,w''=grow (redrawn w p.d) p.os:=h ▸ cmp_q a b w d os
theorem fb_q (c:C) (l:List C) (v:Value) (w:World) (d:Nat) (os:Array Obj) (hv:CRow w v l) (hl:l.length≤100000):Calls Tryz.prog 133 #[clV c,v] (grow (redrawn w d) os) fun e w''=>e=.returned (.bool (l.any (fun b=>belC c b)))∧∃ p:Regrown,w''=grow (redrawn w p.d) p.os :=
 Calls.regrown_of (fbelowOne_any c l v _ (hv.below (below_regrown w d os)) hl)
theorem fb_qt (c:C) (l:List C) (v:Value) (w:World) (d:Nat) (os:Array Obj) (hv:CRow w v l) (hl:l.length≤100000) (h:l.any (fun b=>belC c b)=true):Calls Tryz.prog 133 #[clV c,v] (grow (redrawn w d) os) fun e w''=>e=.returned (.bool true)∧∃ p:Regrown,w''=grow (redrawn w p.d) p.os:=h ▸ fb_q c l v w d os hv hl
theorem fb_qf (c:C) (l:List C) (v:Value) (w:World) (d:Nat) (os:Array Obj) (hv:CRow w v l) (hl:l.length≤100000) (h:l.any (fun b=>belC c b)=false):Calls Tryz.prog 133 #[clV c,v] (grow (redrawn w d) os) fun e w''=>e=.returned (.bool false)∧∃ p:Regrown,w''=grow (redrawn w p.d) p.os:=h ▸ fb_q c l v w d os hv hl
theorem pre_step {f:List C} {k:Nat} {c:C} (h:PreOk (f.take k)) (hk:f[k]? = some c) (hr:rightC c=true) (hlt:∀ d,0<k→f[k - 1]? = some d→ltC d c=true) (ha:(f.take k).any (fun b=>belC c b)=false):PreOk (f.take (k+1)):=by
 have e:f.take (k+1)=f.take k ++ [c]:=by rw [List.take_add_one,hk];rfl
 rw [e]
 refine PreOk.snoc.2 ⟨h,hr,fun d hd=>?_,ha⟩
 have hkl:k<f.length:=by
  rcases Nat.lt_or_ge k f.length with h1|h1
  ·exact h1
  ·rw [List.getElem?_eq_none h1] at hk;exact absurd hk (by simp)
 rw [List.getLast?_eq_getElem?,List.length_take,Nat.min_eq_left (Nat.le_of_lt hkl)] at hd
 have h0:0<k:=by
  rcases Nat.eq_zero_or_pos k with rfl|h0
  ·simp at hd
  ·exact h0
 rw [List.getElem?_take,if_pos (by omega)] at hd
 exact hlt d h0 hd
theorem not_pre {f:List C} {k:Nat} {c:C} (hk:f[k]? = some c) (h:¬ (rightC c=true∧(∀ d,0<k→f[k - 1]? = some d→ltC d c=true)∧(f.take k).any (fun b=>belC c b)=false)):rightF f=false:=by
 cases hr:rightF f
 ·rfl
 ·obtain⟨hp,_⟩:=rightF_iff.1 hr
  have h1:=hp.take (k+1)
  have e:f.take (k+1)=f.take k ++ [c]:=by rw [List.take_add_one,hk];rfl
  rw [e] at h1
  obtain⟨_,h2,h3,h4⟩:=PreOk.snoc.1 h1
  refine absurd ⟨h2,fun d h0 hd=>h3 d ?_,h4⟩ h
  have hkl:k<f.length:=by
   rcases Nat.lt_or_ge k f.length with h1|h1
   ·exact h1
   ·rw [List.getElem?_eq_none h1] at hk;exact absurd hk (by simp)
  rw [List.getLast?_eq_getElem?,List.length_take,Nat.min_eq_left (Nat.le_of_lt hkl),List.getElem?_take,if_pos (by omega)]
  exact hd
set_option maxRecDepth 100000 in
set_option maxHeartbeats 8000000 in
theorem fright_any (l:List C) (v:Value) (w:World) (hv:FRow w v l) (hl:l.length≤100000) :
  Calls Tryz.prog 119 #[v] w fun e w'=>e=.returned (.bool (rightF l))∧Below w.heap.size w w':=by
 by_cases hbig:64<l.length
 ·have H:Hid (rightF l=false):=by
   cases hr:rightF l
   ·rfl
   ·have:=rightF_len hr;omega
  obtain⟨a0,cap,rfl⟩:=hv.len
  clear hv
  generalize l.length=n at *
  go_enter Tryz.func119,Tryz.ntmps119
  go_wp2
  go_ret
  exact⟨ret_bool H.out.symm,Below.refl _ _⟩
 by_cases hz:l=[]
 ·subst hz
  obtain⟨a0,cap,rfl⟩:=hv.len
  clear hv
  go_enter Tryz.func119,Tryz.ntmps119
  go_wp2
  go_loop [10] (fun i=>i=.int .i64 0) (fun _=>0)
  case atStart=>rfl
  case round =>
   subst hrel
   go_wp2
   go_ret
   exact⟨ret_bool rightF_nil.symm,Below.refl _ _⟩
 obtain⟨g,off,cap,rfl,hcap,hg,hc⟩:=hv.form hz
 clear hv hl
 have hl:l.length≤64:=by omega
 clear hbig
 obtain⟨n,hn⟩:∃ n,n=l.length:=⟨_,rfl⟩
 have Hn:Hid (n=l.length):=hn
 rw [← hn] at hl hcap ⊢
 clear hn
 go_enter Tryz.func119,Tryz.ntmps119
 go_wp2
 go_loopw [10] (fun i wr=>∃ k:Nat,k≤n∧i=.int .i64 k∧PreOk (l.take k)∧Below w.heap.size w wr) (fun i _=>n - (intOf i).toNat)
 case atStart=>exact⟨0,Nat.zero_le _,rfl,PreOk.nil,Below.refl _ _⟩
 case round =>
  obtain⟨k,hk,rfl,hpre,hny⟩:=hrel
  have HP:Hid (PreOk (l.take k)):=hpre
  clear hpre
  by_cases hlt:k<n
  ·obtain⟨c,hck⟩:=get_some (l:=l) (k:=k) (by rw [← Hn.out];exact hlt)
   have HC:Hid (l[k]? = some c):=hck
   obtain⟨x0,x1⟩:=(hc.below hny hg) k c hck
   have htl:(l.take k).length=k:=by rw [List.length_take,← Hn.out];omega
   have hgr:g<wr.heap.size:=Nat.lt_of_lt_of_le hg hny.size
   have hrow:CRow wr (.slice (some ⟨g,off,none⟩) k cap) (l.take k):=by
    have h1:CellsC wr g off (l.take k):=CellsC.take (hc.below hny hg) k
    exact .inr ⟨g,off,cap,by rw [htl],hgr,h1⟩
   have hrl:(l.take k).length≤100000:=by omega
   have hA:=At.made wr c 49
   have hBb:=below_alloc wr (.cells #[.int .u32 (c.1.val:Int),.int .u32 (c.2.val:Int)] 49)
   cases hrc:rightC c
   ·have HT:Hid (rightF l=false):=not_pre hck (fun h=>by rw [h.1] at hrc;exact absurd hrc (by simp))
    clear hck hrow htl hrl
    go_wp2
    generalize wr.alloc (.cells #[.int .u32 (c.1.val:Int),.int .u32 (c.2.val:Int)] 49)=wb at hA hBb ⊢
    obtain⟨A0,A1⟩:=hA.regrown
    refine wp_region_quiet_below (by kernel_rfl) (by kernel_rfl) ?_
    repeat (first | go_big_quiet_step ((refine cright_qf _ _ _ _ ?_;with_reducible assumption)) | quiet_step ((refine cright_qf _ _ _ _ ?_;with_reducible assumption)))
    refine wpQuiet_nil ?_
    intro _ hw'
    obtain⟨⟨dq,osq⟩,hw''⟩:=hw'
    subst hw''
    go_wp2
    go_ret
    exact⟨ret_bool HT.out.symm,chain (chain hny hBb) (below_regrown _ dq osq)⟩
   ·replace hrow:=hrow.below hBb
    rcases Nat.eq_zero_or_pos k with rfl|h0
    ·simp only [Nat.zero_mul,Nat.add_zero] at x0 x1
     have hany:(l.take 0).any (fun b=>belC c b)=false:=rfl
     have HT:Hid (PreOk (l.take (0+1))):=pre_step HP.out hck hrc (fun d h _=>absurd h (by omega)) hany
     clear hck htl
     go_wp2
     generalize wr.alloc (.cells #[.int .u32 (c.1.val:Int),.int .u32 (c.2.val:Int)] 49)=wb at hA hBb hrow ⊢
     obtain⟨A0,A1⟩:=hA.regrown
     refine wp_region_quiet_below (by kernel_rfl) (by kernel_rfl) ?_
     repeat (first | go_big_quiet_step (first | (refine cright_qt _ _ _ _ ?_;with_reducible assumption) | (refine fb_qf _ _ _ _ _ _ hrow hrl ?_;with_reducible assumption)) | quiet_step (first | (refine cright_qt _ _ _ _ ?_;with_reducible assumption) | (refine fb_qf _ _ _ _ _ _ hrow hrl ?_;with_reducible assumption)))
     refine wpQuiet_nil ?_
     intro _ hw'
     obtain⟨⟨dq,osq⟩,hw''⟩:=hw'
     subst hw''
     go_wp2
     go_roundw
     case rel=>exact⟨0+1,by omega,by go_num,HT.out,chain (chain hny hBb) (below_regrown _ dq osq)⟩
     case measure=>simp [intOf];omega
    ·obtain⟨j,rfl⟩:∃ j,k=j+1:=⟨k - 1,by omega⟩
     have hj1:wrap64 ((j:Int) + 1 - 1)=(j:Int):=by unfold wrap64;omega
     have hj2:((j:Int) + 1) > 0:=by omega
     obtain⟨d,hdk⟩:=get_some (l:=l) (k:=j) (by rw [← Hn.out];omega)
     have hpv:=(CellsC.below (hc.below hny hg) hBb hgr)
     have HD:Hid (l[j+1 - 1]? = some d):=hdk
     rcases cmpC_cases d c with ⟨hlt2,hcm⟩|⟨hlt2,hcm⟩|⟨hlt2,hcm⟩
     ·cases hany:(l.take (j+1)).any (fun b=>belC c b)
      ·have HT:Hid (PreOk (l.take (j+1+1))):=pre_step HP.out hck hrc (fun d2 _ h2=>by rw [HD.out] at h2;rw [← Option.some.inj h2];exact hlt2) hany
       go_wp2
       generalize wr.alloc (.cells #[.int .u32 (c.1.val:Int),.int .u32 (c.2.val:Int)] 49)=wb at hA hBb hrow hpv ⊢
       obtain⟨A0,A1⟩:=hA.regrown
       obtain⟨D0,D1⟩:=hpv.regrown hdk
       clear hdk hck hpv htl
       refine wp_region_quiet_below (by kernel_rfl) (by kernel_rfl) ?_
       repeat (first | go_big_quiet_step (first | (refine cright_qt _ _ _ _ ?_;with_reducible assumption) | (refine cmp_qm _ _ _ _ _ ?_;with_reducible assumption) | (refine fb_qf _ _ _ _ _ _ hrow hrl ?_;with_reducible assumption)) | quiet_step (first | (refine cright_qt _ _ _ _ ?_;with_reducible assumption) | (refine cmp_qm _ _ _ _ _ ?_;with_reducible assumption) | (refine fb_qf _ _ _ _ _ _ hrow hrl ?_;with_reducible assumption)))
       refine wpQuiet_nil ?_
       intro _ hw'
       obtain⟨⟨dq,osq⟩,hw''⟩:=hw'
       subst hw''
       go_wp2
       go_roundw
       case rel=>exact⟨j+1+1,by omega,by go_num,HT.out,chain (chain hny hBb) (below_regrown _ dq osq)⟩
       case measure=>simp [intOf];omega
      ·have HT:Hid (rightF l=false):=not_pre hck (fun h=>by rw [h.2.2] at hany;exact absurd hany (by simp))
       go_wp2
       generalize wr.alloc (.cells #[.int .u32 (c.1.val:Int),.int .u32 (c.2.val:Int)] 49)=wb at hA hBb hrow hpv ⊢
       obtain⟨A0,A1⟩:=hA.regrown
       obtain⟨D0,D1⟩:=hpv.regrown hdk
       clear hdk hck hpv htl
       refine wp_region_quiet_below (by kernel_rfl) (by kernel_rfl) ?_
       repeat (first | go_big_quiet_step (first | (refine cright_qt _ _ _ _ ?_;with_reducible assumption) | (refine cmp_qm _ _ _ _ _ ?_;with_reducible assumption) | (refine fb_qt _ _ _ _ _ _ hrow hrl ?_;with_reducible assumption)) | quiet_step (first | (refine cright_qt _ _ _ _ ?_;with_reducible assumption) | (refine cmp_qm _ _ _ _ _ ?_;with_reducible assumption) | (refine fb_qt _ _ _ _ _ _ hrow hrl ?_;with_reducible assumption)))
       refine wpQuiet_nil ?_
       intro _ hw'
       obtain⟨⟨dq,osq⟩,hw''⟩:=hw'
       subst hw''
       go_wp2
       go_ret
       exact⟨ret_bool HT.out.symm,chain (chain hny hBb) (below_regrown _ dq osq)⟩
     ·have HT:Hid (rightF l=false):=not_pre hck (fun h=>by have:=h.2.1 d (by omega) HD.out;rw [ltC_asymm hlt2] at this;exact absurd this (by simp))
      go_wp2
      generalize wr.alloc (.cells #[.int .u32 (c.1.val:Int),.int .u32 (c.2.val:Int)] 49)=wb at hA hBb hrow hpv ⊢
      obtain⟨A0,A1⟩:=hA.regrown
      obtain⟨D0,D1⟩:=hpv.regrown hdk
      clear hdk hck hpv htl
      refine wp_region_quiet_below (by kernel_rfl) (by kernel_rfl) ?_
      repeat (first | go_big_quiet_step (first | (refine cright_qt _ _ _ _ ?_;with_reducible assumption) | (refine cmp_qp _ _ _ _ _ ?_;with_reducible assumption)) | quiet_step (first | (refine cright_qt _ _ _ _ ?_;with_reducible assumption) | (refine cmp_qp _ _ _ _ _ ?_;with_reducible assumption)))
      refine wpQuiet_nil ?_
      intro _ hw'
      obtain⟨⟨dq,osq⟩,hw''⟩:=hw'
      subst hw''
      go_wp2
      go_ret
      exact⟨ret_bool HT.out.symm,chain (chain hny hBb) (below_regrown _ dq osq)⟩
     ·have HT:Hid (rightF l=false):=not_pre hck (fun h=>by have:=h.2.1 d (by omega) HD.out;rw [hlt2,ltC_irrefl] at this;exact absurd this (by simp))
      clear hlt2
      go_wp2
      generalize wr.alloc (.cells #[.int .u32 (c.1.val:Int),.int .u32 (c.2.val:Int)] 49)=wb at hA hBb hrow hpv ⊢
      obtain⟨A0,A1⟩:=hA.regrown
      obtain⟨D0,D1⟩:=hpv.regrown hdk
      clear hdk hck hpv htl
      refine wp_region_quiet_below (by kernel_rfl) (by kernel_rfl) ?_
      repeat (first | go_big_quiet_step (first | (refine cright_qt _ _ _ _ ?_;with_reducible assumption) | (refine cmp_qz _ _ _ _ _ ?_;with_reducible assumption)) | quiet_step (first | (refine cright_qt _ _ _ _ ?_;with_reducible assumption) | (refine cmp_qz _ _ _ _ _ ?_;with_reducible assumption)))
      refine wpQuiet_nil ?_
      intro _ hw'
      obtain⟨⟨dq,osq⟩,hw''⟩:=hw'
      subst hw''
      go_wp2
      go_ret
      exact⟨ret_bool HT.out.symm,chain (chain hny hBb) (below_regrown _ dq osq)⟩
  ·obtain rfl:k=n:=by omega
   have HT:Hid (rightF l=true):=by
    have h:=HP.out
    rw [List.take_of_length_le (by rw [← Hn.out];exact Nat.le_refl _)] at h
    exact rightF_iff.2 ⟨h,by rw [← Hn.out];exact hl⟩
   go_wp2
   go_ret
   exact⟨ret_bool HT.out.symm,hny⟩
end Go.Proofs.YtahnbigkdfmpbaaGreatDoor.F
namespace Go.Proofs.YtahnbigkdfmpbaaGreatDoor.F
open Go.RowKit
theorem not1_any (M:List C) (v:Value) (c:C) (w:World) (hv:CRow w v M) (hM:M.length≤64) :
  Calls Tryz.prog 135 #[v,clV c] w fun e w'=>∃ v',e=.returned (.tuple #[v',.int .i64 (meetR M (turnF c)).2])∧OwnsC w' w.heap.size v' (meetR M (turnF c)).1∧Below w.heap.size w w':=by
 have hB0:=below_alloc w (.cells #[.int .u32 (c.1.val:Int),.int .u32 (c.2.val:Int)] 49)
 have hv1:=hv.below hB0
 have hop:(oppC c).length≤100000:=by have:=opp_length c;omega
 have htl:=turn_len c
 have Ht:Hid (leastF (oppC c)=(turnF c,0)):=turn_told c
 obtain⟨pa,ca,rfl⟩:=hv.len
 clear hv
 have HM:Hid (M.length≤64):=hM
 clear hM
 generalize M.length=n at hv1 ⊢
 go_enter Tryz.func135,Tryz.ntmps135
 go_wp2_with fail
 generalize w.alloc (.cells #[.int .u32 (c.1.val:Int),.int .u32 (c.2.val:Int)] 49)=wb at hB0 hv1 ⊢
 refine (opp_any c wb).mono ?_
 rintro e w1 ⟨v1,rfl,hO1,hB1⟩
 go_wp2_with fail
 refine (leastC _ _ w1 (OwnsC.row hO1) hop).mono ?_
 rintro e w2 ⟨v2,rfl,hO2,hB2⟩
 rw [Ht.out] at hO2 ⊢
 have hv2:=(hv1.below hB1).below hB2
 have cM:=fmeet_any M (turnF c) _ _ w2 hv2 (OwnsC.row hO2) (by have:=HM.out;omega) (by omega)
 obtain⟨pb,cb,rfl⟩:=OwnsC.len hO2
 clear hO1 hO2 hv1
 go_wp2_with fail
 refine cM.mono ?_
 rintro e w3 ⟨v3,rfl,hO3,hB3⟩
 clear cM
 go_wp2
 go_ret2
 have hB:=chain (chain (chain hB0 hB1) hB2) hB3
 exact⟨_,rfl,OwnsC.mono hO3 (by have:=(chain (chain hB0 hB1) hB2).size;omega),hB⟩
theorem notR_take_step {l:List C} {k:Nat} {c:C} (h:l[k]? = some c) (h0:(notR (l.take k)).2=0):notR (l.take (k+1))=meetR (notR (l.take k)).1 (turnF c):=by
 have e:l.take (k+1)=l.take k ++ [c]:=by rw [List.take_add_one,h];rfl
 rw [e,notR_snoc,stepN,if_pos h0]
theorem foldl_stuck {l:List C} {a:List C × Int} (step:List C × Int→C→List C × Int) (hs:∀ a c,a.2≠0→step a c=a) (h:a.2≠0):l.foldl step a=a:=by
 induction l with
 | nil=>rfl
 | cons c l ih=>rw [List.foldl_cons,hs a c h,ih]
theorem notR_stuck {l:List C} (k:Nat) (h:(notR (l.take k)).2≠0):notR l=([],3):=by
 have e:notR l=(l.drop k).foldl stepN (notR (l.take k)):=by
  unfold notR
  rw [← List.foldl_append,List.take_append_drop]
 rw [e,foldl_stuck stepN (fun a c ha=>by unfold stepN;rw [if_neg ha]) h]
 exact (notR_cases (l.take k)).resolve_left (fun x=>h x.1)
theorem one_any (w:World):Calls Tryz.prog 117 #[] w fun e w'=>∃ v,e=.returned v∧OwnsC w' w.heap.size v [top0]∧Below w.heap.size w w':=by
 go_enter Tryz.func117,Tryz.ntmps117
 go_wp2
 go_ret
 exact⟨_,rfl,own_one1 w top0 _ (Nat.le_refl _),below_alloc _ _⟩
set_option maxHeartbeats 1000000 in
theorem fnot_any (l:List C) (v:Value) (w:World) (hv:CRow w v l) (hl:l.length≤100000) :
  Calls Tryz.prog 120 #[v] w fun e w'=>∃ v',e=.returned (.tuple #[v',.int .i64 (notR l).2])∧OwnsC w' w.heap.size v' (notR l).1∧Below w.heap.size w w':=by
 have eg:∀ args w,(callFunc 135 args).run Tryz.prog w=.ok (.enter 135 args) w:=enters_of Tryz.func135 (by kernel_rfl) rfl
 have hF:∀ (w1:World) (v1:Value),OwnsC w1 w.heap.size v1 [top0]→Below w.heap.size w w1→Calls Tryz.prog 134 #[v,v1,.func (.func 135) #[] #[]] w1 fun e w'=>Below w.heap.size w w'∧∃ v' er,e=.returned (.tuple #[v',.int .i64 er])∧((er=0∧(OwnsC w' w.heap.size v' (notR (l.take l.length)).1∧(notR (l.take l.length)).2=0))∨(er≠0∧v'=.slice none 0 0∧notR l=([],er))) :=
  fun w1 v1 h1 hB=>foldCR_any 135 #[] eg l v v1 w w1 hv hl (fun k v W=>OwnsC W w.heap.size v (notR (l.take k)).1∧(notR (l.take k)).2=0) (fun er=>notR l=([],er)) (fun k v W W' h hb=>⟨OwnsC.below h.1 hb,h.2⟩) hB ⟨h1,rfl⟩ (fun k c v W hk hW hI=>by
   refine (not1_any _ v c W (OwnsC.row hI.1) (notR_len _)).mono ?_
   rintro e w' ⟨v',rfl,hO,hB'⟩
   rw [← notR_take_step hk hI.2] at hO ⊢
   refine⟨chain hW hB',v',_,rfl,?_⟩
   by_cases h0:(notR (l.take (k+1))).2=0
   ·exact .inl ⟨h0,OwnsC.mono hO hW.size,h0⟩
   ·refine .inr ⟨h0,?_⟩
    have h3:=(notR_cases (l.take (k+1))).resolve_left (fun x=>h0 x.1)
    rw [notR_stuck (k+1) h0,h3])
 obtain⟨pa,ca,rfl⟩:=hv.len
 clear hv
 rw [List.take_length] at hF
 generalize l.length=n at *
 go_enter Tryz.func120,Tryz.ntmps120
 go_wp2_with fail
 refine (one_any w).mono ?_
 rintro e w1 ⟨v1,rfl,hO1,hB1⟩
 replace hF:=hF w1 v1 hO1 hB1
 go_wp2_with fail
 refine hF.mono ?_
 rintro e w2 ⟨hB2,v2,er,rfl,⟨rfl,hO2,hz⟩ | ⟨hne,rfl,hq⟩⟩
 ·clear hF
  go_wp2
  go_ret2
  rw [hz]
  exact⟨_,rfl,hO2,hB2⟩
 ·clear hF
  go_wp2
  go_ret2
  rw [hq]
  exact⟨_,rfl,World.ownsRow_nil _ _ _ _,hB2⟩
theorem has_all (i:Int) (w:World):Calls Tryz.prog 115 #[.int .u32 16777215,.int .i64 i] w fun e w'=>e=.returned (.bool (isDimB i))∧w'=w:=by
 have h:=has_any 16777215 i w (by decide)
 have e:hasB 16777215 i=isDimB i:=by
  unfold hasB
  cases hd:isDimB i
  ·rfl
  ·simp [isDimB] at hd
   rw [full_bit];simp;omega
 rw [e] at h
 exact h
def dimF (i:Int):List C × Int:=if isDimB i then ([posB i.toNat],0) else ([],2)
theorem dim_any (i:Int) (w:World):Calls Tryz.prog 99 #[.int .i64 i] w fun e w'=>∃ v,e=.returned (.tuple #[v,.int .i64 (dimF i).2])∧OwnsC w' w.heap.size v (dimF i).1∧Below w.heap.size w w':=by
 have hH:=has_all i w
 cases hd:isDimB i
 ·have H:Hid (dimF i=([],2)):=by unfold dimF;exact if_neg (by simp [hd])
  rw [hd] at hH
  go_enter Tryz.func99,Tryz.ntmps99
  go_wp2_with (go_at_call 115;refine hH.mono ?_;rintro e w' ⟨rfl,rfl⟩)
  go_ret2
  rw [H.out]
  exact⟨_,rfl,World.ownsRow_nil _ _ _ _,Below.refl _ _⟩
 ·have H:Hid (dimF i=([posB i.toNat],0)):=by unfold dimF;exact if_pos hd
  rw [hd] at hH
  have hi:0≤i∧i<24:=by simpa [isDimB] using hd
  obtain⟨k,rfl⟩:∃ k:Nat,i=(k:Int):=⟨i.toNat,by omega⟩
  have hk:k<24:=by omega
  have hW:=with0 k hk w
  rw [Int.toNat_natCast] at H
  clear hd hi
  go_enter Tryz.func99,Tryz.ntmps99
  go_wp2_with (first
   | (go_at_call 115;refine hH.mono ?_;rintro e w1 ⟨rfl,hw1⟩;subst hw1)
   | (go_at_call 116;refine hW.mono ?_;rintro e w2 ⟨rfl,hw2⟩;subst hw2))
  go_ret2
  rw [H.out]
  exact⟨_,rfl,own_one1 _ (posB k) _ (Nat.le_refl _),below_alloc _ _⟩
set_option maxHeartbeats 1000000 in
theorem Not_any (l:List C) (a:Value) (w:World) (ha:FRow w a l) (hl:l.length≤40000) :
  Calls Tryz.prog 102 #[a] w fun e w'=>∃ v,e=.returned (.tuple #[v,.int .i64 (notF l).2])∧OwnsC w' w.heap.size v (notF l).1∧Below w.heap.size w w':=by
 have c1:=fright_any l a w ha (by omega)
 have c3:=fun w1 (h:Below w.heap.size w w1)=>fnot_any l a w1 (ha.row.below h) (by omega)
 obtain⟨pa,ca,rfl⟩:=ha.len
 have HJ:Hid (notF l=if rightF l then notR l else ([],2)):=rfl
 clear ha
 generalize l.length=n1 at *
 cases hf:rightF l
 ·rw [hf] at c1 HJ
  go_enter Tryz.func102,Tryz.ntmps102
  go_wp2_with fail
  refine c1.mono ?_
  rintro e w1 ⟨rfl,hB1⟩
  clear c1
  go_wp2
  go_ret2
  rw [HJ.out]
  exact⟨_,rfl,World.ownsRow_nil _ _ _ _,hB1⟩
 ·rw [hf] at c1 HJ
  go_enter Tryz.func102,Tryz.ntmps102
  go_wp2_with fail
  refine c1.mono ?_
  rintro e w1 ⟨rfl,hB1⟩
  clear c1
  replace c3:=c3 w1 hB1
  go_wp2_with fail
  refine c3.mono ?_
  rintro e w3 ⟨v3,rfl,hO3,hB3⟩
  clear c3
  go_wp2
  go_ret2
  rw [HJ.out]
  exact⟨_,rfl,OwnsC.mono hO3 hB1.size,chain hB1 hB3⟩
end Go.Proofs.YtahnbigkdfmpbaaGreatDoor.F
