/- belowOne: is a clause below one of a row? Nothing that lay before the call turns. The library's sort, by Cmp, of a row that is owned: the same clauses, rising. ordered: each clause of a row once, rising, in new memory. Least: those of a row that are needed, in new memory; or why that is not told. Nothing that lay before the call turns. The chapter's examples hold at the code: works() returns true; nothing that lay before the call turns. Clauses in boxes, and the contracts of the small functions as they are met in a statement whose order is left open. The walk of the law ClauseCovers: the call returns true; nothing that lay before it turns. The document's answer: needed tells whether a clause is below no other one of a row; nothing that lay before the call turns. The document's answer: Least. Nothing that lay before the call turns. -/
import Derived.Lib.SliceRun
import Derived.Test.YtahnbigkdfmpbaaGreatDoorIFA
import Derived.Test.YtahnbigkdfmpbaaGreatDoorCLay
import Derived.Maps.OwnSet
import Derived.Maps.AppendAt
import Derived.DeepKeys4
import Derived.WideKeyPair
import Derived.Deep.AppendLies
import Derived.BigQuiet
import Derived.Deep.RegionHeld3
set_option linter.unusedVariables false
set_option linter.unusedSimpArgs false
namespace Go.Proofs.YtahnbigkdfmpbaaGreatDoor.F
open Go.RowKit Go.Shelf
theorem pred_any (c:C) (B:Nat) (w:World) (hB:B<w.heap.size) (h0:w.cell? ⟨B,0,none⟩=some (.int .u32 (c.1.val:Int))) (h1:w.cell? ⟨B,1,none⟩=some (.int .u32 (c.2.val:Int))) :
  PredBelow Tryz.prog 154 #[.pointer (some ⟨B,0,none⟩)] (fun x=>.agg (encC x).toArray) (fun x=>belC c x) w:=fun W x hb=>by
 have g0:W.cell? ⟨B,0,none⟩=some (.int .u32 (c.1.val:Int)):=(hb.cell (p:=⟨B,0,none⟩) hB).trans h0
 have g1:W.cell? ⟨B,1,none⟩=some (.int .u32 (c.2.val:Int)):=(hb.cell (p:=⟨B,1,none⟩) hB).trans h1
 have hBW:B<W.heap.size:=Nat.lt_of_lt_of_le hB hb.size
 have hne:B≠W.heap.size:=by omega
 show Calls Tryz.prog 154 #[clV x,.pointer (some ⟨B,0,none⟩)] W _
 go_enter Tryz.func154,Tryz.ntmps154
 go_wp2_with (go_at_call 146;refine (bel_any c x _).mono ?_;rintro e w' ⟨rfl,hG⟩)
 go_ret
 exact⟨rfl,(hb.alloc hb.size _).trans (hG.below.mono (by have:=hb.size;simp;omega))⟩
set_option maxHeartbeats 400000 in
theorem index_none (a:Option Addr) (cap:Nat) (f:Value) (w:World) :
  Calls Tryz.prog 151 #[.slice a 0 cap,f] w fun e w'=>e=.returned (.int .i64 (-1))∧w'=w:=by
 go_enter Tryz.func151,Tryz.ntmps151
 go_wp2
 go_loop [8] (fun i=>i=.int .i64 0) (fun _=>0)
 case atStart=>rfl
 case round =>
  subst hrel
  go_wp2
  go_ret
  exact⟨rfl,rfl⟩
theorem has_none (a:Option Addr) (cap:Nat) (f:Value) (w:World) :
  Calls Tryz.prog 141 #[.slice a 0 cap,f] w fun e w'=>e=.returned (.bool false)∧w'=w:=by
 go_enter Tryz.func141,Tryz.ntmps141
 go_wp2_with (go_at_call 151;refine (index_none _ _ _ _).mono ?_;rintro e w' ⟨rfl,rfl⟩)
 go_ret
 exact⟨rfl,rfl⟩
set_option maxHeartbeats 1000000 in
theorem belowOne_any (c:C) (l:List C) (v:Value) (w:World) (hv:CRow w v l) (hl:l.length≤100000) :
  Calls Tryz.prog 148 #[clV c,v] w fun e w'=>e=.returned (.bool (l.any (fun b=>belC c b)))∧Below w.heap.size w w':=by
 have eg:∀ args w,(callFunc 154 args).run Tryz.prog w=.ok (.enter 154 args) w:=enters_of Tryz.func154 (by kernel_rfl) rfl
 by_cases hz:l=[]
 ·subst hz
  obtain⟨a,cap,rfl⟩:=hv.len
  clear hv
  go_enter Tryz.func148,Tryz.ntmps148
  go_wp2_with (go_at_call 141;refine (has_none _ _ _ _).mono ?_;rintro e w' ⟨rfl,rfl⟩)
  go_ret
  exact⟨rfl,below_alloc _ _⟩
 ·obtain⟨g,off,cap,rfl,hg,hc⟩:=hv.cons hz
  clear hv
  have hcon:=AnyQ.slices_ContainsFunc hasC 2 Tryz.isAgg49 Tryz.sizeOf49 encC (fun _=>rfl) (fun x=>belC c x) 154 #[.pointer (some ⟨w.heap.size,0,none⟩)] eg g off l.length cap l (w.alloc (.cells #[.int .u32 (c.1.val:Int),.int .u32 (c.2.val:Int)] 49))
   (pred_any c w.heap.size _ (by simp) (by simp [go_sem]) (by simp [go_sem])) (Nat.le_refl _) (by omega) (by simp;omega) (fun j hj i u hi=>by
    refine Lib.cell?_alloc_some _ ?_
    have h1:=hc j l[j] (List.getElem?_eq_getElem hj)
    have e:l[j]! = l[j]:=getElem!_pos l j hj
    rw [e] at hi
    match i,hi with
    | 0,hi=>simp [encC] at hi;rw [← hi];exact h1.1
    | 1,hi=>simp [encC] at hi;rw [← hi];exact h1.2
    | i+2,hi=>simp [encC] at hi)
  change Calls Tryz.prog 141 _ _ _ at hcon
  rw [List.take_of_length_le (Nat.le_refl _)] at hcon
  clear hc
  generalize l.any (fun b=>belC c b)=r at hcon ⊢
  go_enter Tryz.func148,Tryz.ntmps148
  go_wp2_with (go_at_call 141;refine hcon.mono ?_;rintro e w' ⟨rfl,hb'⟩)
  go_ret
  exact⟨rfl,(below_alloc w _).trans (hb'.mono (by simp))⟩
end Go.Proofs.YtahnbigkdfmpbaaGreatDoor.F
namespace Go.Proofs.YtahnbigkdfmpbaaGreatDoor.F
open Go.RowKit Go.Shelf Go.Sort
theorem ltOf_cmpC (a b:C):ltOf cmpC a b=ltC a b:=cmpC_lt a b
theorem swoC:SWO (ltOf cmpC) where
 irrefl x:=by rw [ltOf_cmpC,ltC_irrefl]
 trans x y z h1 h2:=by rw [ltOf_cmpC] at *; exact ltC_trans h1 h2
 ntrans x y z h1 h2:=by
  rw [ltOf_cmpC] at *
  cases h:ltC x z
  ·rfl
  ·simp only [ltC,Bool.or_eq_false_iff,Bool.and_eq_false_iff,Bool.or_eq_true,Bool.and_eq_true,decide_eq_true_eq,decide_eq_false_iff_not] at *
   omega
theorem cmpLays (blk off size:Nat) (w:World):CmpLays Tryz.prog 132 #[] encC 2 cmpC blk off size w:=fun _ _ _ _ x y=>cmp_any x y _
theorem holds_of {w:World} {base g cap:Nat} {u:List C} (h:OwnsC w base (.slice (some ⟨g,0,none⟩) u.length cap) u):HoldsK encC 2 w g 0 u.toArray:=by
 intro t ht
 rw [size_flatK] at ht
 have hlen:u.toArray.size=u.length:=by simp
 rw [hlen] at ht
 refine⟨?_,World.ownsRow.frozenAt h _⟩
 have e1:=World.ownsRow.cellAt h t ht
 rw [Nat.zero_add,e1,get_flatK _ _ _ _ (by rw [hlen];exact ht)]
 have hj:t / 2<u.length:=by omega
 have e2:u.toArray[t / 2]! = u[t / 2]:=by rw [getElem!_pos _ _ (by simpa using hj)];simp
 rw [e2]
 rcases Nat.mod_two_eq_zero_or_one t with hm|hm
 ·have e3:t=t / 2*2:=by omega
  have e4:(flat u)[t]? = (flat u)[t / 2*2]?:=by rw [← e3]
  rw [e4,flat_get0,List.getElem?_eq_getElem hj,hm];rfl
 ·have e3:t=t / 2*2+1:=by omega
  have e4:(flat u)[t]? = (flat u)[t / 2*2+1]?:=by rw [← e3]
  rw [e4,flat_get1,List.getElem?_eq_getElem hj,hm];rfl
theorem cells_of {w:World} {g:Nat} {d:Array C} (h:HoldsK encC 2 w g 0 d):CellsC w g 0 d.toList:=by
 intro j c hj
 have hlt:j<d.size:=by
  rcases Nat.lt_or_ge j d.size with h1|h1
  ·exact h1
  ·rw [List.getElem?_eq_none (by simpa using h1)] at hj;exact absurd hj (by simp)
 have e:d[j]! = c:=by
  rw [getElem!_pos d j hlt]
  rw [List.getElem?_eq_getElem (by simpa using hlt)] at hj
  simpa using hj
 have h0:=(h.cell hlt (c:=0) (by omega)).1
 have h1:=(h.cell hlt (c:=1) (by omega)).1
 rw [e] at h0 h1
 exact⟨h0,h1⟩
theorem perm_of {d d':Array C} (h:PermIn 0 d.size d d'):d'.toList.Perm d.toList:=by
 have h2:=h.2.2
 have e:d'.extract 0 d.size=d':=by rw [← h.1];simp
 rw [e] at h2
 simpa using h2
theorem rises_of {d d':Array C} (h:SortedIn (ltOf cmpC) 0 d.size d') (hs:d'.size=d.size) (hn:d'.toList.Nodup):risesC d'.toList:=by
 unfold risesC
 rw [List.pairwise_iff_getElem]
 intro i j hi hj hij
 have hi':i<d'.size:=by simpa using hi
 have hj':j<d'.size:=by simpa using hj
 have h1:=h i j (by omega) hij (by omega)
 rw [ltOf_cmpC,getElem!_pos d' j hj',getElem!_pos d' i hi'] at h1
 simp only [Array.getElem_toList]
 cases h2:ltC d'[i] d'[j]
 ·have e:=ltC_total h2 h1
  have hne:=(List.pairwise_iff_getElem.1 hn) i j hi hj hij
  simp only [Array.getElem_toList] at hne
  exact absurd e hne
 ·rfl
theorem below_sort {w:World} {g n:Nat} {d:Array C} {os:Array Obj} {B:Nat} (hB:B≤g) (hg:g<w.heap.size):Below B w (sortWorldK encC 2 w g 0 n d os):=by
 unfold sortWorldK putRowK putRow mapBlock
 refine⟨rfl,rfl,rfl,by simp [grow,ahead],fun k hk=>?_⟩
 have hne:g≠k:=by omega
 have hk2:k<w.heap.size:=by omega
 simp [grow,ahead,Array.getElem?_append,Array.getElem_modify,hne,hk2]
theorem sort_any (u:List C) (base g cap:Nat) (w:World) (h:OwnsC w base (.slice (some ⟨g,0,none⟩) u.length cap) u) (hnd:u.Nodup) (hl:u.length≤100000) :
  Calls Tryz.prog 153 #[.slice (some ⟨g,0,none⟩) u.length cap,.func (.func 132) #[] #[]] w fun e w'=>e=.returned (.tuple #[])∧∃ o,risesC o∧o.Perm u∧CRow w' (.slice (some ⟨g,0,none⟩) u.length cap) o∧∀ B,B≤g→Below B w w':=by
 have eg:∀ args w,(callFunc 132 args).run Tryz.prog w=.ok (.enter 132 args) w:=enters_of Tryz.func132 (by kernel_rfl) rfl
 have hg:g<w.heap.size:=(World.ownsRow.lt h g rfl).2
 have hH:=holds_of h
 have hcon:=AnyQ.slices_SortFunc sortC 2 Tryz.isAgg49 Tryz.sizeOf49 encC (fun _=>rfl) (fun x v hv=>by simp [encC] at hv;rcases hv with rfl | rfl <;> rfl) cmpC swoC 132 #[] g 0 cap u.toArray w eg (cmpLays g 0 _ w) hH hg (by simp;omega)
 have hlen:u.toArray.size=u.length:=by simp
 rw [hlen] at hcon
 change Calls Tryz.prog 153 _ _ _ at hcon
 refine hcon.mono ?_
 rintro e w' ⟨rfl,d',n,os,hp,hs,rfl⟩
 have hp2:PermIn 0 u.toArray.size u.toArray d':=by rw [hlen];exact hp
 have hs2:SortedIn (ltOf cmpC) 0 u.toArray.size d':=by rw [hlen];exact hs
 have hperm:d'.toList.Perm u:=perm_of hp2
 have hsz:d'.size=u.toArray.size:=hp2.1
 refine⟨rfl,d'.toList,rises_of hs2 hsz (hperm.nodup_iff.2 hnd),hperm,.inr ⟨g,0,cap,?_,?_,?_⟩,fun B hB=>below_sort hB hg⟩
 ·rw [show d'.toList.length=u.length from hperm.length_eq]
 ·exact Nat.lt_of_lt_of_le hg (below_sort (Nat.le_refl g) hg (w:=w) (n:=n) (d:=d') (os:=os)).size
 ·refine cells_of ?_
  unfold sortWorldK
  apply holdsK_grow
  ·simpa [putRowK,putRow,mapBlock,ahead] using hg
  ·apply holdsK_putRowK (d0:=u.toArray)
   ·exact hH
   ·exact hsz
end Go.Proofs.YtahnbigkdfmpbaaGreatDoor.F
namespace Go.Proofs.YtahnbigkdfmpbaaGreatDoor.F
open Go.RowKit Go.Maps
theorem Tryz.laidOut:laidOutB Tryz.prog=true:=by kernel_rfl
theorem Tryz.rowC:(49:TypeId) < Tryz.prog.types.size:=of_decide_eq_true (by kernel_rfl)
theorem Tryz.wideC:(match Tryz.prog.underlying 49 with | some (.array _ _) | some (.struct _)=>true | _=>false)=true:=by rw [Tryz.underlying49]
set_option maxRecDepth 100000 in
theorem lawC:Keyed Tryz.prog 49:=Keyed.of_law (deep_law_laid Tryz.laidOut (m:=2) (by omega) Tryz.rowC (by kernel_rfl) Tryz.wideC)
theorem zeroU (w:World):(zeroValue 99).run Tryz.prog w=.ok (.agg #[]) w:=by kernel_rfl
theorem makeC (n:Nat) (w:World):(Instr.makeMap 178 (some (.int .i64 (n:Int)))).run Tryz.prog w=.ok (.map (some w.heap.size)) (w.alloc (.map #[] 0)):=by
 simp [Instr.makeMap,underlying,Tryz.underlying178,Result.andThen]
 rfl
def keyS (c:C):Lit:=.string (keyBytes [.int .u32 (c.1.val:Int),.int .u32 (c.2.val:Int)])
theorem wf_u32 (x:Fin 4294967296):(Lit.int .u32 (x.val:Int)).wf=true:=by
 have:=x.isLt
 simp [Lit.wf,IntKind.min,IntKind.max,IntKind.bits,IntKind.signed]
 omega
theorem Tryz.cellsC:Tryz.prog.cellsOf 49=2:=by kernel_rfl
theorem Tryz.cellsU:Tryz.prog.cellsOf 47=1:=by kernel_rfl
set_option maxRecDepth 100000 in
theorem Tryz.keyTypeC:Tryz.prog.keyType 49=true:=by kernel_rfl
set_option maxRecDepth 100000 in
theorem keyC (c:C):keyOf Tryz.prog 49 (clV c)=some (keyS c):=by
 have h1:=wf_u32 c.1
 have h2:=wf_u32 c.2
 obtain⟨m,hm⟩:∃ m,Tryz.prog.types.size=m+1:=⟨Tryz.prog.types.size - 1,by kernel_rfl⟩
 unfold keyOf
 simp only [Tryz.underlying49]
 rw [if_pos (by simp [Tryz.keyTypeC,Value.formed,Tryz.underlying49,Tryz.cellsC]),hm]
 unfold Program.keyLits
 simp only [Tryz.underlying49,Value.cells]
 rw [if_pos ⟨by rw [Tryz.cellsC];rfl,by simp⟩]
 simp [Program.keyLits,Tryz.underlying47,Tryz.cellsU,h1,h2,keyS]
theorem keyS_inj {c d:C} (h:keyS c=keyS d):c=d:=by
 have h1:=keyC c
 rw [h] at h1
 have h2:=lawC.inj h1 (keyC d)
 simp at h2
 exact c_ext (by omega) (by omega)
def uniq (acc:List C) (c:C):List C:=if acc.contains c then acc else acc ++ [c]
def uniqAll (l:List C):List C:=l.foldl uniq []
theorem uniqAll_snoc (l:List C) (c:C):uniqAll (l ++ [c])=uniq (uniqAll l) c:=by simp [uniqAll]
theorem mem_uniq {acc:List C} {c x:C}:x∈uniq acc c↔x∈acc∨x=c:=by
 unfold uniq
 split
 ·rename_i h
  have h:c∈acc:=by simpa using h
  exact⟨.inl,fun h1=>h1.elim id (fun e=>e ▸ h)⟩
 ·simp
theorem mem_uniqAll {l:List C} {x:C}:x∈uniqAll l↔x∈l:=by
 induction l using snoc_ind with
 | nil=>simp [uniqAll]
 | snoc l c ih=>rw [uniqAll_snoc,mem_uniq,ih];simp
theorem uniqAll_nodup (l:List C):(uniqAll l).Nodup:=by
 induction l using snoc_ind with
 | nil=>simp [uniqAll]
 | snoc l c ih =>
  rw [uniqAll_snoc]
  unfold uniq
  split
  ·exact ih
  ·rename_i h
   have h:c ∉ uniqAll l:=by simpa using h
   rw [List.nodup_append]
   exact⟨ih,by simp,fun a ha b hb e=>h ((e.trans (List.mem_singleton.1 hb)) ▸ ha)⟩
theorem uniqAll_length_le (l:List C):(uniqAll l).length≤l.length:=by
 induction l using snoc_ind with
 | nil=>simp [uniqAll]
 | snoc l c ih =>
  rw [uniqAll_snoc]
  unfold uniq
  split <;> simp <;> omega
def setS (acc:List C):DataW Unit:=setOf (.agg []) (acc.map keyS)
theorem setS_snoc (acc:List C) (c:C):setS (acc ++ [c])=(setS acc).put (keyS c) (.agg []):=by rw [setS,List.map_append,List.map_cons,List.map_nil,setOf_snoc];rfl
theorem has_setS (acc:List C) (c:C):Maps.has (setS acc) (keyS c)=acc.contains c:=by
 rw [setS,has_setOf _ _ _ (fun x hx=>by obtain⟨y,_,rfl⟩:=List.mem_map.1 hx;trivial),Bool.eq_iff_iff,List.any_eq_true]
 simp only [List.mem_map,List.contains_iff_mem]
 constructor
 ·rintro⟨_,⟨y,hy,rfl⟩,hs⟩
  have:=keyS_inj (WideAt.sameKey_eq hs)
  exact this ▸ hy
 ·intro h
  exact⟨_,⟨c,h,rfl⟩,by simp [keyS,Lit.sameKey]⟩
theorem new_two (w:World) (x y:Value) (t:TypeId):∀ j u,[x,y][j]? = some u→(w.alloc (.cells #[x,y] t)).cell? ((⟨w.heap.size,0,none⟩:Addr).add j)=some u :=
 World.news_of_block (cs:=#[x,y]) (MapKept.heap_alloc w _).1
theorem row_not_map {H:Type} {w:World} {base e size:Nat} {v:Value} {n:Nat} {xs:List Value} (h:w.ownsRow base e size v n xs) {P:Program} {k:TypeId} {R:Value→Option (DataW H × List MemPlace)} {b m:Nat} {D:DataW H} (hm:w.ownsMap P k R b m D):some b≠v.ownBlock:=by
 obtain⟨es,clock,hb,_⟩:=hm
 rcases h.2 with ⟨rfl,_⟩|⟨g,cap,cur,rfl,_,hg,_⟩
 ·simp [Value.ownBlock]
 ·intro e
  have e:b=g:=by simpa [Value.ownBlock] using e
  subst e
  rw [hb] at hg
  simp at hg
set_option maxHeartbeats 2000000 in
set_option maxRecDepth 100000 in
theorem ordered_any (l : List C) (v : Value) (w : World) (hv : CRow w v l) (hl : l.length ≤ 100000) :
    Calls Tryz.prog 147 #[v] w fun e w'=>∃ v' o,e=.returned v'∧CRow w' v' o∧risesC o∧(∀ c,c∈o↔c∈l)∧o.length≤l.length∧Below w.heap.size w w':=by
  have hmm:=makeC l.length
  obtain⟨i0,hi,hz0,hz1,hz2⟩:=info_parts Tryz.infoC
  have hbytes:i0.bytes*l.length≤281474976710656:=by rw [hz2];omega
  obtain⟨a0,cap,rfl⟩:∃ a0 cap,v=.slice a0 l.length cap:=hv.len
  have hcx:∀ k c,l[k]? = some c→∃ g off,a0=some ⟨g,off,none⟩∧g<w.heap.size∧w.cell? ⟨g,off+k*2,none⟩=some (.int .u32 (c.1.val:Int))∧w.cell? ⟨g,off+k*2+1,none⟩=some (.int .u32 (c.2.val:Int)):=fun k c hk=>by
    have hz:l≠[]:=by rintro rfl;simp at hk
    obtain⟨g,off,cap2,e,hg,hc⟩:=hv.cons hz
    have e2:a0=some ⟨g,off,none⟩:=by injection e
    exact⟨g,off,e2,hg,(hc k c hk).1,(hc k c hk).2⟩
  clear hv
  obtain⟨n,hn⟩:∃ n,n=l.length:=⟨_,rfl⟩
  have Hn:Hid (n=l.length):=hn
  rw [← hn] at hl hmm hbytes ⊢
  clear hn
  go_enter Tryz.func147,Tryz.ntmps147
  go_wp2_with (at_make;refine wpList_make_own _ rfl _ _ 33 rfl (w.heap.size+1) 49 i0 (.agg #[.int .u32 0,.int .u32 0]) 2 Tryz.underlying33 hi hz0 hz1 .i64 .i64 _ n rfl rfl rfl hbytes (by unfold maxLen;omega) (by simp) ?_;intro w1 hown1 hgrow1)
  go_loopw [4, 17] (fun v i wr => ∃ k : Nat, k ≤ n ∧ i = .int .i64 k ∧ wr.ownsMap Tryz.prog 49 unitElem w.heap.size k (setS (uniqAll (l.take k))) ∧ OwnsC wr (w.heap.size + 1) v (uniqAll (l.take k)) ∧ (∃ g cap, v = .slice (some ⟨g, 0, none⟩) (uniqAll (l.take k)).length cap) ∧
      Below w.heap.size w wr∧w.heap.size+1≤wr.heap.size) (fun _ i _=>n - (intOf i).toNat)
  case atStart =>
    have hB1:Below w.heap.size w w1:=(below_alloc w (.map #[] 0)).grown hgrow1 (by simp) (fun k h=>by cases h)
    have e1:(w.alloc (.map #[] 0)).heap.size=w.heap.size+1:=by simp
    rw [e1] at hown1
    exact⟨0,Nat.zero_le _,rfl,(World.ownsMap_made w _ _ _).kept hgrow1 (by simp),hown1,⟨_,_,rfl⟩,hB1,by have:=hgrow1.size;simp at this;omega⟩
  case round =>
    obtain⟨k,hk,rfl,hown,hrow,⟨g1,cap1,rfl⟩,hnx,hws⟩:=hrel
    have hul:(uniqAll (l.take k)).length≤k:=by
      have h1:=uniqAll_length_le (l.take k)
      have h2:=List.length_take_le k l
      omega
    clear hmm hgrow1 hown1
    by_cases hlt:k<n
    · obtain⟨c,hck⟩:=get_some (l:=l) (k:=k) (by rw [← Hn.out];exact hlt)
      obtain⟨g,off,rfl,hg,x0,x1⟩:=hcx k c hck
      replace x0:=(hnx.cell (p:=⟨g,off+k*2,none⟩) hg).trans x0
      replace x1:=(hnx.cell (p:=⟨g,off+k*2+1,none⟩) hg).trans x1
      have htk:l.take (k+1)=l.take k ++ [c]:=by rw [List.take_add_one,hck];rfl
      have HU:Hid (uniqAll (l.take (k+1))=uniq (uniqAll (l.take k)) c):=by rw [htk];exact uniqAll_snoc _ _
      have hkey:=keyC c
      clear hck htk hcx
      by_cases hcon:(uniqAll (l.take k)).contains c=true
      · have HS:Hid (uniqAll (l.take (k+1))=uniqAll (l.take k)):=HU.out.trans (by unfold uniq;exact if_pos hcon)
        have hh:Maps.has (setS (uniqAll (l.take k))) (keyS c)=true:=by rw [has_setS];exact hcon
        clear hcon HU
        go_wp2_with (at_lookup;refine wpList_lookup_own_unit _ rfl _ _ 178 rfl 49 99 lawC Tryz.underlying178 (zeroU _) w.heap.size k _ rfl (hown.alloc _) _ _ rfl hkey ?_;rw [hh])
        go_roundw
        case rel =>
          refine⟨k+1,by omega,by go_num,?_,?_,⟨g1,cap1,by rw [HS.out]⟩,(hnx.alloc hnx.size _).alloc (by simp;omega) _,by simp;omega⟩
          · rw [HS.out]
            exact ((hown.alloc _).alloc _).mono (Nat.le_succ _)
          · rw [HS.out]
            exact (World.ownsRow.alloc hrow _).alloc _
        case measure=>simp [intOf];omega
      · have hcon:(uniqAll (l.take k)).contains c=false:=by simpa using hcon
        have HS:Hid (uniqAll (l.take (k+1))=uniqAll (l.take k) ++ [c]):=HU.out.trans (by unfold uniq;exact if_neg (by rw [hcon];simp))
        have hh:Maps.has (setS (uniqAll (l.take k))) (keyS c)=false:=by rw [has_setS];exact hcon
        clear hcon HU
        have hne:=row_not_map hrow hown
        go_wp2_with (first
          | (at_lookup;refine wpList_lookup_own_unit _ rfl _ _ 178 rfl 49 99 lawC Tryz.underlying178 (zeroU _) w.heap.size k _ rfl (hown.alloc _) _ _ rfl hkey ?_;rw [hh])
          | (at_mapUpdate;refine wpList_mapUpdate_own _ rfl _ _ _ 178 rfl 49 99 lawC Tryz.underlying178 (unitElem (H:=Unit)) w.heap.size k _ rfl ((hown.alloc _).alloc _) (by unfold maxLen;omega) _ _ _ rfl rfl hkey _ [] unitElem_mk ?_;intro w2 hown2 hgrow2;have y0:w2.cell? ⟨wr.heap.size,0,none⟩=some (.int .u32 (c.1.val:Int)):=(hgrow2.cell_far ⟨wr.heap.size,0,none⟩ (by simp;omega) (by simp;omega)).trans (by simp [go_sem]);have y1:w2.cell? ⟨wr.heap.size,1,none⟩=some (.int .u32 (c.2.val:Int)):=(hgrow2.cell_far ⟨wr.heap.size,1,none⟩ (by simp;omega) (by simp;omega)).trans (by simp [go_sem]))
          | (at_builtin;refine wpList_append_own _ rfl _ _ 33 rfl (w.heap.size+1) 49 i0 (.agg #[.int .u32 0,.int .u32 0]) 2 8 Tryz.underlying33 hi hz0 hz1 hz2 rfl (by decide) _ _ _ rfl ((((World.ownsRow.alloc hrow _).alloc _).kept hgrow2 (Or.inr hne.symm)).alloc _) ⟨w2.heap.size,0,none⟩ 1 1 (encC c) rfl rfl (new_two _ _ _ _) (flat_one c ▸ flat_oneCell [c]) (by unfold maxLen;omega) (by omega) (by have:=hgrow2.size;simp at this ⊢; omega) ?_;intro v' w3 hown3 hgrow3 hnil3))
        have hgrow3':(w2.alloc (.cells #[.int .u32 (c.1.val:Int),.int .u32 (c.2.val:Int)] 49)).grownBy w3 (some g1):=hgrow3
        have hne':some w.heap.size≠some g1:=hne
        have hg1:=(World.ownsRow.lt hrow g1 rfl).1
        have hrow3:OwnsC w3 (w.heap.size+1) v' (uniqAll (l.take k) ++ [c]):=by
          unfold OwnsC
          rw [flat_append,flat_one,List.length_append]
          exact hown3
        obtain⟨g4,cap4,hv4,_,_⟩:=World.ownsRow.form hown3 (Nat.succ_pos _)
        subst hv4
        have s2:=hgrow2.size
        have s3:=hgrow3'.size
        simp at s2 s3
        clear hgrow3 hnil3 hown3
        go_roundw
        case rel =>
          refine⟨k+1,by omega,by go_num,?_,?_,⟨g4,cap4,by rw [HS.out];simp⟩,?_,by omega⟩
          · rw [HS.out,setS_snoc]
            exact (hown2.alloc _).kept hgrow3' hne'
          · rw [HS.out];exact hrow3
          · exact (((((hnx.alloc hnx.size _).alloc (by simp;omega) _).grown hgrow2 (by simp;omega) (fun j hj=>by cases hj;exact Nat.le_refl _)).alloc (by omega) _).grown hgrow3' (by simp;omega) (fun j hj=>by cases hj;omega))
        case measure=>simp [intOf];omega
    · obtain rfl:k=n:=by omega
      have e:l.take k=l:=List.take_of_length_le (by rw [← Hn.out];exact Nat.le_refl _)
      rw [e] at hrow hul ⊢
      have hg1:=(World.ownsRow.lt hrow g1 rfl).1
      have hS:=sort_any (uniqAll l) (w.heap.size+1) g1 cap1 wr hrow (uniqAll_nodup l) (by omega)
      clear hcx
      go_wp2_with (go_at_call 153;refine hS.mono ?_;rintro e w4 ⟨rfl,o,ho1,ho2,ho3,ho4⟩)
      go_ret
      exact⟨_,o,rfl,ho3,ho1,fun c=>by rw [ho2.mem_iff,mem_uniqAll],by rw [ho2.length_eq];exact hul,hnx.trans (ho4 _ (by omega))⟩
end Go.Proofs.YtahnbigkdfmpbaaGreatDoor.F
namespace Go.Proofs.YtahnbigkdfmpbaaGreatDoor.F
open Go.RowKit
theorem all_take_step {l:List C} {k:Nat} {c:C} (h:(l.take k).all rightC=true) (h1:l[k]? = some c) (hc:rightC c=true):(l.take (k+1)).all rightC=true:=by
 rw [List.take_add_one,h1,List.all_append,h];simp [hc]
theorem not_all {l:List C} {k:Nat} {c:C} (h1:l[k]? = some c) (hc:rightC c=false):l.all rightC=false:=by
 rw [List.all_eq_false]
 exact⟨c,List.mem_of_getElem? h1,by simp [hc]⟩
theorem OwnsC.below {w w':World} {base:Nat} {v:Value} {l:List C} (h:OwnsC w base v l) (hb:Below w.heap.size w w'):OwnsC w' base v l:=by
 have hlt:=World.ownsRow.lt h
 obtain⟨h1,h2⟩:=h
 refine⟨h1,h2.imp id ?_⟩
 rintro⟨g,cap,cur,rfl,hg,hh,r⟩
 exact⟨g,cap,cur,rfl,hg,(hb.block g (hlt g rfl).2).trans hh,r⟩
theorem keepAll_take_step {o:List C} {k:Nat} {c:C} (h1:o[k]? = some c):keepAll (o.take (k+1))=keep (keepAll (o.take k)) c:=by
 have e:o.take (k+1)=o.take k ++ [c]:=by rw [List.take_add_one,h1];rfl
 rw [e,keepAll_snoc]
theorem keepAll_take_le (o:List C) (k:Nat):(keepAll (o.take k)).length≤(keepAll o).length:=by
 have:=keepAll_length_mono (o.take k) (o.drop k)
 rwa [List.take_append_drop] at this
set_option maxHeartbeats 2000000 in
set_option maxRecDepth 100000 in
theorem least_any (l:List C) (v:Value) (w:World) (hv:CRow w v l) (hl:l.length≤100000) :
  Calls Tryz.prog 136 #[v] w fun e w'=>∃ v' M er,e=.returned (.tuple #[v',.int .i64 er])∧LeastIs l M er∧OwnsC w' w.heap.size v' M∧Below w.heap.size w w':=by
 obtain⟨i0,hi,hz0,hz1,hz2⟩:=info_parts Tryz.infoC
 have hv0:=hv
 obtain⟨a0,cap,rfl⟩:∃ a0 cap,v=.slice a0 l.length cap:=hv.len
 have hcx:∀ k c,l[k]? = some c→∃ g off,a0=some ⟨g,off,none⟩∧g<w.heap.size∧w.cell? ⟨g,off+k*2,none⟩=some (.int .u32 (c.1.val:Int))∧w.cell? ⟨g,off+k*2+1,none⟩=some (.int .u32 (c.2.val:Int)):=fun k c hk=>by
  have hz:l≠[]:=by rintro rfl;simp at hk
  obtain⟨g,off,cap2,e,hg,hc⟩:=hv.cons hz
  have e2:a0=some ⟨g,off,none⟩:=by injection e
  exact⟨g,off,e2,hg,(hc k c hk).1,(hc k c hk).2⟩
 clear hv
 have hO:∀ W,Below w.heap.size w W→Calls Tryz.prog 147 #[.slice a0 l.length cap] W fun e w'=>∃ v' o,e=.returned v'∧CRow w' v' o∧risesC o∧(∀ c,c∈o↔c∈l)∧o.length≤l.length∧Below W.heap.size W w' :=
  fun W hB=>ordered_any l _ W (hv0.below hB) hl
 clear hv0
 obtain⟨n,hn⟩:∃ n,n=l.length:=⟨_,rfl⟩
 have Hn:Hid (n=l.length):=hn
 rw [← hn] at hl hO ⊢
 clear hn
 go_enter Tryz.func136,Tryz.ntmps136
 go_wp2
 go_loopw [11] (fun i wr=>∃ k:Nat,k≤n∧i=.int .i64 k∧(l.take k).all rightC=true∧Below w.heap.size w wr) (fun i _=>n - (intOf i).toNat)
 case atStart=>exact⟨0,Nat.zero_le _,rfl,rfl,Below.refl _ _⟩
 case round =>
  obtain⟨k,hk,rfl,hall,hnx⟩:=hrel
  have HA:Hid ((l.take k).all rightC=true):=hall
  clear hall
  by_cases hlt:k<n
  ·obtain⟨c,hck⟩:=get_some (l:=l) (k:=k) (by rw [← Hn.out];exact hlt)
   obtain⟨g,off,rfl,hg,x0,x1⟩:=hcx k c hck
   replace x0:=(hnx.cell (p:=⟨g,off+k*2,none⟩) hg).trans x0
   replace x1:=(hnx.cell (p:=⟨g,off+k*2+1,none⟩) hg).trans x1
   have HC:Hid (l[k]? = some c):=hck
   clear hck hcx hO
   cases hrc:rightC c
   ·go_wp2_with (go_at_call 131;refine (cright_any c _).mono ?_;rintro e w2 ⟨rfl,hG⟩;rw [hrc])
    go_ret2
    exact⟨_,[],2,rfl,.inl ⟨not_all HC.out hrc,rfl,rfl⟩,World.ownsRow_nil _ _ _ _,(hnx.alloc hnx.size _).trans (hG.below.mono (by have:=hnx.size;simp;omega))⟩
   ·go_wp2_with (go_at_call 131;refine (cright_any c _).mono ?_;rintro e w2 ⟨rfl,hG⟩;rw [hrc])
    go_roundw
    case rel=>exact⟨k+1,by omega,by go_num,all_take_step HA.out HC.out hrc,(hnx.alloc hnx.size _).trans (hG.below.mono (by have:=hnx.size;simp;omega))⟩
    case measure=>simp [intOf];omega
  ·obtain rfl:k=n:=by omega
   have HR:Hid (l.all rightC=true):=by
    have h:=HA.out
    rwa [List.take_of_length_le (by rw [← Hn.out];exact Nat.le_refl _)] at h
   clear hcx
   go_wp2_with (go_at_call 147;refine (hO _ hnx).mono ?_;rintro e w2 ⟨v2,o,rfl,ho1,ho2,ho3,ho4,ho5⟩;obtain⟨a2,cap2,rfl⟩:=ho1.len)
   have HLst:Hid (IsLeast l (keepAll o)):=isLeast_keepAll (fun c hc=>List.all_eq_true.1 HR.out c hc) ho2 ho3
   have hcy:∀ j c,o[j]? = some c→∃ g off,a2=some ⟨g,off,none⟩∧g<w2.heap.size∧w2.cell? ⟨g,off+j*2,none⟩=some (.int .u32 (c.1.val:Int))∧w2.cell? ⟨g,off+j*2+1,none⟩=some (.int .u32 (c.2.val:Int)):=fun j c hj=>by
    have hz:o≠[]:=by rintro rfl;simp at hj
    obtain⟨g,off,cap3,e,hg,hc⟩:=ho1.cons hz
    have e2:a2=some ⟨g,off,none⟩:=by injection e
    exact⟨g,off,e2,hg,(hc j c hj).1,(hc j c hj).2⟩
   have hB2:Below w.heap.size w w2:=chain hnx ho5
   clear ho1 ho2 ho3 ho5 hO
   obtain⟨m,hm⟩:∃ m,m=o.length:=⟨_,rfl⟩
   have Hm:Hid (m=o.length):=hm
   rw [← hm] at ho4 ⊢
   clear hm
   go_loopw [6,22] (fun v i wr=>∃ j:Nat,j≤m∧i=.int .i64 j∧OwnsC wr w2.heap.size v (keepAll (o.take j))∧(∃ a cap,v=.slice a (keepAll (o.take j)).length cap)∧(keepAll (o.take j)).length≤64∧Below w2.heap.size w2 wr) (fun _ i _=>m - (intOf i).toNat)
   case atStart=>exact⟨0,Nat.zero_le _,rfl,World.ownsRow_nil _ _ _ _,⟨_,_,rfl⟩,by simp [keepAll],Below.refl _ _⟩
   case round =>
    obtain⟨j,hj,rfl,hrow,⟨a3,cap3,rfl⟩,h64,hny⟩:=hrel
    by_cases hlt2:j<m
    ·obtain⟨c,hcj⟩:=get_some (l:=o) (k:=j) (by rw [← Hm.out];exact hlt2)
     obtain⟨g,off,rfl,hg,x0,x1⟩:=hcy j c hcj
     replace x0:=(hny.cell (p:=⟨g,off+j*2,none⟩) hg).trans x0
     replace x1:=(hny.cell (p:=⟨g,off+j*2+1,none⟩) hg).trans x1
     have HK:Hid (keepAll (o.take (j+1))=keep (keepAll (o.take j)) c):=keepAll_take_step hcj
     have HM:Hid ((keepAll (o.take (j+1))).length≤(keepAll o).length):=keepAll_take_le o (j+1)
     clear hcj hcy
     have hbo:∀ ob,Calls Tryz.prog 148 #[clV c,.slice a3 (keepAll (o.take j)).length cap3] (wr.alloc ob) fun e w'=>e=.returned (.bool ((keepAll (o.take j)).any (fun b=>belC c b)))∧Below (wr.alloc ob).heap.size (wr.alloc ob) w' :=
      fun ob=>belowOne_any c _ _ _ (OwnsC.row (World.ownsRow.alloc hrow ob)) (by omega)
     cases hany:(keepAll (o.take j)).any (fun b=>belC c b)
     ·rw [hany] at hbo
      have HS:Hid (keepAll (o.take (j+1))=keepAll (o.take j) ++ [c]):=HK.out.trans (by unfold keep;exact if_neg (by rw [hany];simp))
      clear hany HK
      obtain⟨q,hq⟩:∃ q,q=(keepAll (o.take j)).length:=⟨_,rfl⟩
      have Hq:Hid (q=(keepAll (o.take j)).length):=hq
      by_cases hfull:q=64
      ·have hbig:Hid (64<(keepAll o).length):=by
        have h:=HM.out
        rw [HS.out,List.length_append,← hq,hfull] at h
        simp at h
        exact h
       rw [← hq,hfull] at hbo ⊢
       clear hq
       go_wp2_with (go_at_call 148;refine (hbo _).mono ?_;rintro e w3 ⟨rfl,hb3⟩)
       go_ret2
       exact⟨_,[],3,rfl,.inr ⟨HR.out,_,HLst.out,.inr ⟨hbig.out,rfl,rfl⟩⟩,World.ownsRow_nil _ _ _ _,chain hB2 ((hny.alloc hny.size _).trans (hb3.mono (by have:=hny.size;simp;omega)))⟩
      ·have hq64:q<64:=by omega
       have hrow1:=fun ob w3 (hb3:Below (wr.alloc ob).heap.size (wr.alloc ob) w3)=>OwnsC.below (World.ownsRow.alloc hrow ob) hb3
       rw [← hq] at hbo hrow1 ⊢
       clear hq
       go_wp2_with (first
        | (go_at_call 148;refine (hbo _).mono ?_;rintro e w3 ⟨rfl,hb3⟩;have y0:w3.cell? ⟨wr.heap.size,0,none⟩=some (.int .u32 (c.1.val:Int)):=(hb3.cell (p:=⟨wr.heap.size,0,none⟩) (by simp)).trans (by simp [go_sem]);have y1:w3.cell? ⟨wr.heap.size,1,none⟩=some (.int .u32 (c.2.val:Int)):=(hb3.cell (p:=⟨wr.heap.size,1,none⟩) (by simp)).trans (by simp [go_sem]))
        | (at_builtin;refine wpList_append_own _ rfl _ _ 33 rfl w2.heap.size 49 i0 (.agg #[.int .u32 0,.int .u32 0]) 2 8 Tryz.underlying33 hi hz0 hz1 hz2 rfl (by decide) _ _ _ rfl (World.ownsRow.alloc (hrow1 _ _ hb3) _) ⟨w3.heap.size,0,none⟩ 1 1 (encC c) rfl rfl (new_two _ _ _ _) (flat_one c ▸ flat_oneCell [c]) (by rw [← Hq.out];unfold maxLen;omega) (by rw [← Hq.out];omega) (by have:=hb3.size;have:=hny.size;simp at *; omega) ?_;intro v' w4 hown4 hgrow4 hnil4))
       have hB3:Below w2.heap.size w2 w3:=(hny.alloc hny.size _).trans (hb3.mono (by have:=hny.size;simp;omega))
       have hlow:=World.ownsRow.lt hrow
       rw [← Hq.out] at hlow hown4
       have hrow4:OwnsC w4 w2.heap.size v' (keepAll (o.take j) ++ [c]):=by
        unfold OwnsC
        rw [flat_append,flat_one,List.length_append,← Hq.out]
        exact hown4
       obtain⟨g4,cap4,hv4,_,_⟩:=World.ownsRow.form hown4 (Nat.succ_pos _)
       subst hv4
       go_roundw
       case rel=>exact⟨j+1,by omega,by go_num,by rw [HS.out];exact hrow4,⟨_,cap4,by rw [HS.out,List.length_append,← Hq.out];rfl⟩,by rw [HS.out,List.length_append,← Hq.out];simp;omega,(hB3.alloc hB3.size _).grown hgrow4 (by have:=hB3.size;simp;omega) (fun i hi=>(hlow i hi).1)⟩
       case measure=>simp [intOf];omega
     ·rw [hany] at hbo
      have HS:Hid (keepAll (o.take (j+1))=keepAll (o.take j)):=HK.out.trans (by unfold keep;exact if_pos hany)
      clear hany HK
      go_wp2_with (go_at_call 148;refine (hbo _).mono ?_;rintro e w3 ⟨rfl,hb3⟩)
      go_roundw
      case rel=>exact⟨j+1,by omega,by go_num,by rw [HS.out];exact OwnsC.below (World.ownsRow.alloc hrow _) hb3,⟨a3,cap3,by rw [HS.out]⟩,by rw [HS.out];exact h64,(hny.alloc hny.size _).trans (hb3.mono (by have:=hny.size;simp;omega))⟩
      case measure=>simp [intOf];omega
    ·obtain rfl:j=m:=by omega
     have e:o.take j=o:=List.take_of_length_le (by rw [← Hm.out];exact Nat.le_refl _)
     rw [e] at hrow h64 ⊢
     have hrow':=OwnsC.mono hrow hB2.size
     go_wp2
     go_ret2
     exact⟨_,keepAll o,0,rfl,.inr ⟨HR.out,_,HLst.out,.inl ⟨h64,rfl,rfl⟩⟩,hrow',chain hB2 hny⟩
end Go.Proofs.YtahnbigkdfmpbaaGreatDoor.F
namespace Go.Proofs.YtahnbigkdfmpbaaGreatDoor.F
open Go.RowKit
theorem row_lit (w:World) (l:List C) (cs:Array Value) (n:Nat) (h:cs.toList=flat l) (hn:l.length=n) (hm:n≤100000):CRow (w.alloc (.cells cs 49)) (.slice (some ⟨w.heap.size,0,none⟩) n n) l:=by
 have hs:cs.size=n*2:=by
  have:=congrArg List.length h
  rw [flat_length,hn] at this
  simpa using this
 have h1:=World.ownsRow_lit (base:=0) (e:=49) (size:=2) w cs n (Nat.zero_le _) (by unfold maxLen;omega) hs
 rw [h,← hn] at h1
 rw [← hn]
 exact OwnsC.row (base:=0) h1
end Go.Proofs.YtahnbigkdfmpbaaGreatDoor.F
namespace Go.Proofs.YtahnbigkdfmpbaaGreatDoor.F
open Go.RowKit Go.Sort
def At (w:World) (g:Nat) (c:C):Prop:=w.cell? ⟨g,0,none⟩=some (.int .u32 (c.1.val:Int))∧w.cell? ⟨g,1,none⟩=some (.int .u32 (c.2.val:Int))∧g<w.heap.size
theorem At.below {w w':World} {g:Nat} {c:C} (h:At w g c) (hb:Below w.heap.size w w'):At w' g c :=
 ⟨(hb.cell (p:=⟨g,0,none⟩) h.2.2).trans h.1,(hb.cell (p:=⟨g,1,none⟩) h.2.2).trans h.2.1,Nat.lt_of_lt_of_le h.2.2 hb.size⟩
theorem At.alloc {w:World} {g:Nat} {c:C} (h:At w g c) (o:Obj):At (w.alloc o) g c:=h.below (below_alloc w o)
theorem At.made (w:World) (c:C) (t:TypeId):At (w.alloc (.cells #[.int .u32 (c.1.val:Int),.int .u32 (c.2.val:Int)] t)) w.heap.size c :=
 ⟨by simp [go_sem],by simp [go_sem],by simp⟩
theorem At.regrown {w:World} {g:Nat} {c:C} (h:At w g c):(∀ d os,(grow (redrawn w d) os).cell? ⟨g,0,none⟩=some (.int .u32 (c.1.val:Int)))∧∀ d os,(grow (redrawn w d) os).cell? ⟨g,1,none⟩=some (.int .u32 (c.2.val:Int)) :=
 ⟨fun d os=>cell_regrown h.1 d os,fun d os=>cell_regrown h.2.1 d os⟩
end Go.Proofs.YtahnbigkdfmpbaaGreatDoor.F
namespace Go.Proofs.YtahnbigkdfmpbaaGreatDoor.F
open Go.RowKit Go.Sort
theorem CellsC.regrown {w:World} {g off:Nat} {l:List C} (h:CellsC w g off l) {j:Nat} {c:C} (hj:l[j]? = some c):(∀ d os,(grow (redrawn w d) os).cell? ⟨g,off+j*2,none⟩=some (.int .u32 (c.1.val:Int)))∧∀ d os,(grow (redrawn w d) os).cell? ⟨g,off+j*2+1,none⟩=some (.int .u32 (c.2.val:Int)) :=
 ⟨fun d os=>cell_regrown (h j c hj).1 d os,fun d os=>cell_regrown (h j c hj).2 d os⟩
end Go.Proofs.YtahnbigkdfmpbaaGreatDoor.F
namespace Go.Proofs.YtahnbigkdfmpbaaGreatDoor.F
open Go.RowKit Go.Sort
end Go.Proofs.YtahnbigkdfmpbaaGreatDoor.F
namespace Go.Proofs.YtahnbigkdfmpbaaGreatDoor.F
open Go.RowKit Go.Sort
structure OutIs (l:List C) (k:Nat) (out:List C):Prop where
 rises:risesC out
 mem:∀ y,y∈out↔y∈l.take k∧neededB l y=true
 len:out.length≤k
theorem mem_take_step {l:List C} {k:Nat} {c y:C} (h:l[k]? = some c):y∈l.take (k+1)↔y∈l.take k∨y=c:=by
 have e:l.take (k+1)=l.take k ++ [c]:=by rw [List.take_add_one,h];rfl
 rw [e];simp
theorem OutIs.start (l:List C):OutIs l 0 []:=⟨List.Pairwise.nil,fun y=>by simp,Nat.le_refl _⟩
theorem OutIs.skip {l out:List C} {k:Nat} {c:C} (h:OutIs l k out) (hk:l[k]? = some c) (hn:neededB l c=false):OutIs l (k+1) out :=
 ⟨h.rises,fun y=>by
  rw [h.mem,mem_take_step hk]
  constructor
  ·rintro⟨h1,h2⟩;exact⟨.inl h1,h2⟩
  ·rintro⟨h1 | rfl,h2⟩
   ·exact⟨h1,h2⟩
   ·exact absurd h2 (by rw [hn];simp),Nat.le_succ_of_le h.len⟩
theorem OutIs.there {l out:List C} {k:Nat} {c:C} (h:OutIs l k out) (hk:l[k]? = some c) (hc:c∈out):OutIs l (k+1) out :=
 ⟨h.rises,fun y=>by
  rw [h.mem,mem_take_step hk]
  constructor
  ·rintro⟨h1,h2⟩;exact⟨.inl h1,h2⟩
  ·rintro⟨h1 | rfl,h2⟩
   ·exact⟨h1,h2⟩
   ·exact (h.mem y).1 hc,Nat.le_succ_of_le h.len⟩
theorem rises_insert {out:List C} {c:C} {j:Nat} (h:risesC out) (h1:∀ d∈out.take j,ltC d c=true) (h2:∀ d∈out.drop j,ltC c d=true):risesC (out.take j ++ [c] ++ out.drop j):=by
 unfold risesC at *
 have h0:=h
 rw [← List.take_append_drop j out,List.pairwise_append] at h0
 rw [List.pairwise_append,List.pairwise_append]
 refine⟨⟨h0.1,List.pairwise_singleton _ _,fun a ha b hb=>?_⟩,h0.2.1,fun a ha b hb=>?_⟩
 ·rw [List.mem_singleton.1 hb];exact h1 a ha
 ·rcases List.mem_append.1 ha with ha|ha
  ·exact h0.2.2 a ha b hb
  ·rw [List.mem_singleton.1 ha];exact h2 b hb
theorem OutIs.put {l out:List C} {k j:Nat} {c:C} (h:OutIs l k out) (hk:l[k]? = some c) (hn:neededB l c=true) (h1:∀ d∈out.take j,ltC d c=true) (h2:∀ d∈out.drop j,ltC c d=true):OutIs l (k+1) (out.take j ++ [c] ++ out.drop j) :=
 ⟨rises_insert h.rises h1 h2,fun y=>by
  have e:y∈out.take j ++ [c] ++ out.drop j↔y∈out∨y=c:=by
   have:=List.take_append_drop j out
   constructor
   ·intro hy
    rcases List.mem_append.1 hy with hy|hy
    ·rcases List.mem_append.1 hy with hy|hy
     ·exact .inl (List.mem_of_mem_take hy)
     ·exact .inr (List.mem_singleton.1 hy)
    ·exact .inl (List.mem_of_mem_drop hy)
   ·rintro (hy | rfl)
    ·rw [← this] at hy
     rcases List.mem_append.1 hy with hy|hy
     ·exact List.mem_append_left _ (List.mem_append_left _ hy)
     ·exact List.mem_append_right _ hy
    ·exact List.mem_append_left _ (List.mem_append_right _ (by simp))
  rw [e,h.mem,mem_take_step hk]
  constructor
  ·rintro (⟨a,b⟩ | rfl)
   ·exact⟨.inl a,b⟩
   ·exact⟨.inr rfl,hn⟩
  ·rintro⟨a | rfl,b⟩
   ·exact .inl ⟨a,b⟩
   ·exact .inr rfl,by
  have:=h.len
  simp
  omega⟩
theorem OutIs.least {l out:List C} (h:OutIs l l.length out):IsLeast l out:=⟨h.rises,fun c=>by rw [h.mem,List.take_length]⟩
theorem news_cells {W:World} {go o:Nat} {l':List C} (h:CellsC W go o l'):∀ t u,(flat l')[t]? = some u→W.cell? ((⟨go,o,none⟩:Addr).add t)=some u:=by
 intro t u hu
 rw [Addr.add_lit]
 have hlt:t<(flat l').length:=by
  rcases Nat.lt_or_ge t (flat l').length with h1|h1
  ·exact h1
  ·rw [List.getElem?_eq_none h1] at hu;exact absurd hu (by simp)
 rw [flat_length] at hlt
 have hj:t / 2<l'.length:=by omega
 have hg:=h (t / 2) _ (List.getElem?_eq_getElem hj)
 rcases Nat.mod_two_eq_zero_or_one t with hm|hm
 ·have e3:t=t / 2*2:=by omega
  rw [e3,flat_get0,List.getElem?_eq_getElem hj] at hu
  have hu:=Option.some.inj hu
  rw [e3,← hu]
  exact hg.1
 ·have e3:t=t / 2*2+1:=by omega
  rw [e3,flat_get1,List.getElem?_eq_getElem hj] at hu
  have hu:=Option.some.inj hu
  rw [e3,← hu,← Nat.add_assoc]
  exact hg.2
theorem CellsC.take {W:World} {go o:Nat} {l':List C} (h:CellsC W go o l') (s:Nat):CellsC W go o (l'.take s):=fun j c hj=>by
 rw [List.getElem?_take] at hj
 split at hj
 ·exact h j c hj
 ·cases hj
theorem CellsC.drop {W:World} {go:Nat} {l':List C} (h:CellsC W go 0 l') (s:Nat):CellsC W go (s*2) (l'.drop s):=fun j c hj=>by
 rw [List.getElem?_drop] at hj
 have:=h (s+j) c hj
 have e1:0+(s+j) * 2=s*2+j*2:=by omega
 rw [e1] at this
 exact this
end Go.Proofs.YtahnbigkdfmpbaaGreatDoor.F
