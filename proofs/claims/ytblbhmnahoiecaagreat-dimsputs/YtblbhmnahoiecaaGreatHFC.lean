/- A part of the proof. -/
import Derived.Test.YtblbhmnahoiecaaGreatCLayS
import Derived.Test.YtblbhmnahoiecaaGreatHG4
set_option linter.unusedVariables false
set_option linter.unusedSimpArgs false
set_option maxRecDepth 100000
set_option maxHeartbeats 2000000
namespace Go.Proofs.YtblbhmnahoiecaaGreat
open Go.RowKit
open Go.RowKit Go.Sort
open Go.RowKit Go.Shelf
open Go.RowKit Go.Shelf Go.Sort
open Go.RowKit Go.Maps
theorem isDim_any (i:Int) (w:World) :
  Calls Tryz.prog 153 #[.int .i64 i] w fun e w'=>e=.returned (.bool (isDimB i))/\w'=w:=by
 by_cases h0:0<=i
 ·by_cases h1:i<24
  ·go_enter Tryz.func153,Tryz.ntmps153
   go_wp2
   go_ret
   exact⟨ret_bool (by simp [isDimB,h0,h1]),rfl⟩
  ·go_enter Tryz.func153,Tryz.ntmps153
   go_wp2
   go_ret
   exact⟨ret_bool (by simp [isDimB,h1]),rfl⟩
 ·go_enter Tryz.func153,Tryz.ntmps153
  go_wp2
  go_ret
  exact⟨ret_bool (by simp [isDimB];omega),rfl⟩
theorem has_bits (s i:Nat) (hs:s<4294967296):(bits BinOp.and IntKind.u32 ((s:Int) / 2 ^ i) 1 == 1)=s.testBit i:=by
 have e:((s:Int) / 2 ^ i)=((s / 2 ^ i:Nat):Int):=by simp
 have h2:s / 2 ^ i<4294967296:=Nat.lt_of_le_of_lt (Nat.div_le_self _ _) hs
 have h3:=bits_and32 (s / 2 ^ i) 1 h2 (by omega)
 rw [e]
 have h4:bits BinOp.and IntKind.u32 (((s / 2 ^ i:Nat)):Int) 1=((s / 2 ^ i &&& 1:Nat):Int):=h3
 rw [h4,Nat.testBit_eq_decide_div_mod_eq,Nat.and_one_is_mod,Bool.eq_iff_iff]
 simp only [beq_iff_eq,decide_eq_true_eq]
 omega
theorem has_any (s:Nat) (i:Int) (w:World) (hs:s<4294967296) :
  Calls Tryz.prog 104 #[.int .u32 s,.int .i64 i] w fun e w'=>e=.returned (.bool (hasB s i))/\w'=w:=by
 by_cases hd:isDimB i=true
 ·have h':0<=i/\i<24:=by simpa [isDimB] using hd
  obtain⟨j,rfl⟩:=Int.eq_ofNat_of_zero_le h'.1
  have hj:j<24:=by omega
  have hb:=has_bits s j hs
  have H:Hid (hasB s (j:Int)=s.testBit j):=hasB_nat hj
  clear h'
  go_enter Tryz.func104,Tryz.ntmps104
  go_wp2_with (go_at_call 153;refine (isDim_any _ _).mono ?_;rintro e w' ⟨rfl,rfl⟩;rw [hd])
  go_ret
  exact⟨ret_bool (by rw [H.out,<- hb]),rfl⟩
 ·have hd:isDimB i=false:=by simpa using hd
  have H:Hid (hasB s i=false):=hasB_no hd
  go_enter Tryz.func104,Tryz.ntmps104
  go_wp2_with (go_at_call 153;refine (isDim_any _ _).mono ?_;rintro e w' ⟨rfl,rfl⟩;rw [hd])
  go_ret
  exact⟨ret_bool (by rw [H.out]),rfl⟩
theorem and_low (s:Nat) (hs:s<4294967296):bits BinOp.and IntKind.u32 (s:Int) 16777215=((s &&& 16777215:Nat):Int):=bits_and32 s 16777215 hs (by decide)
theorem with_bits (s j:Nat) (hs:s<4294967296) (hj:j<24):bits BinOp.or IntKind.u32 (bits BinOp.and IntKind.u32 (s:Int) 16777215) (2 ^ j % 4294967296)=((withN s (j:Int):Nat):Int):=by
 rw [and_low s hs,pow_mod32 j hj,bits_or32 _ _ (by have:=low_lt s;omega) (pow_lt j hj),withN,isDimB_nat hj]
 simp
theorem with_any (s:Nat) (i:Int) (w:World) (hs:s<4294967296) :
  Calls Tryz.prog 149 #[.int .u32 s,.int .i64 i] w fun e w'=>e=.returned (.int .u32 (withN s i:Nat))/\w'=w:=by
 by_cases hd:isDimB i=true
 ·have h':0<=i/\i<24:=by simpa [isDimB] using hd
  obtain⟨j,rfl⟩:=Int.eq_ofNat_of_zero_le h'.1
  have hj:j<24:=by omega
  have H:Hid (bits BinOp.or IntKind.u32 (bits BinOp.and IntKind.u32 (s:Int) 16777215) (2 ^ j % 4294967296)=((withN s (j:Int):Nat):Int)):=with_bits s j hs hj
  clear h'
  go_enter Tryz.func149,Tryz.ntmps149
  go_wp2_with (go_at_call 153;refine (isDim_any _ _).mono ?_;rintro e w' ⟨rfl,rfl⟩;rw [hd])
  go_ret
  exact⟨ret_int H.out,rfl⟩
 ·have hd:isDimB i=false:=by simpa using hd
  have H:Hid (bits BinOp.and IntKind.u32 (s:Int) 16777215=((withN s i:Nat):Int)):=(and_low s hs).trans (by rw [withN_no hd])
  go_enter Tryz.func149,Tryz.ntmps149
  go_wp2_with (go_at_call 153;refine (isDim_any _ _).mono ?_;rintro e w' ⟨rfl,rfl⟩;rw [hd])
  go_ret
  exact⟨ret_int H.out,rfl⟩
theorem pred_any (c:C) (B:Nat) (w:World) (hB:B<w.heap.size) (h0:w.cell? ⟨B,0,none⟩=some (.int .u32 (c.1.val:Int))) (h1:w.cell? ⟨B,1,none⟩=some (.int .u32 (c.2.val:Int))) :
  PredBelow Tryz.prog 212 #[.pointer (some ⟨B,0,none⟩)] (fun x=>.agg (encC x).toArray) (fun x=>belC c x) w:=fun W x hb=>by
 have g0:W.cell? ⟨B,0,none⟩=some (.int .u32 (c.1.val:Int)):=(hb.cell (p:=⟨B,0,none⟩) hB).trans h0
 have g1:W.cell? ⟨B,1,none⟩=some (.int .u32 (c.2.val:Int)):=(hb.cell (p:=⟨B,1,none⟩) hB).trans h1
 have hBW:B<W.heap.size:=Nat.lt_of_lt_of_le hB hb.size
 have hne:B≠W.heap.size:=by omega
 show Calls Tryz.prog 212 #[clV x,.pointer (some ⟨B,0,none⟩)] W _
 go_enter Tryz.func212,Tryz.ntmps212
 go_wp2_with (go_at_call 192;refine (bel_any c x _).mono ?_;rintro e w' ⟨rfl,hG⟩)
 go_ret
 exact⟨rfl,(hb.alloc hb.size _).trans (hG.below.mono (by have:=hb.size;simp;omega))⟩
theorem belowOne_any (c:C) (l:List C) (v:Value) (w:World) (hv:CRow w v l) (hl:l.length<=100000) :
  Calls Tryz.prog 170 #[clV c,v] w fun e w'=>e=.returned (.bool (l.any (fun b=>belC c b)))/\Below w.heap.size w w':=by
 have eg:∀ args w,(callFunc 212 args).run Tryz.prog w=.ok (.enter 212 args) w:=enters_of Tryz.func212 (by kernel_rfl) rfl
 by_cases hz:l=[]
 ·subst hz
  obtain⟨a,cap,rfl⟩:=hv.len
  clear hv
  go_enter Tryz.func170,Tryz.ntmps170
  go_wp2_with (go_at_call 143;refine (has_none _ _ _ _).mono ?_;rintro e w' ⟨rfl,rfl⟩)
  go_ret
  exact⟨rfl,below_alloc _ _⟩
 ·obtain⟨g,off,cap,rfl,hg,hc⟩:=hv.cons hz
  clear hv
  have hcon:=AnyQ.slices_ContainsFunc hasC 2 Tryz.isAgg38 Tryz.sizeOf38 encC (fun _=>rfl) (fun x=>belC c x) 212 #[.pointer (some ⟨w.heap.size,0,none⟩)] eg g off l.length cap l (w.alloc (.cells #[.int .u32 (c.1.val:Int),.int .u32 (c.2.val:Int)] 38))
   (pred_any c w.heap.size _ (by simp) (by simp [go_sem]) (by simp [go_sem])) (Nat.le_refl _) (by omega) (by simp;omega) (fun j hj i u hi=>by
    refine Lib.cell?_alloc_some _ ?_
    have h1:=hc j l[j] (List.getElem?_eq_getElem hj)
    have e:l[j]! = l[j]:=getElem!_pos l j hj
    rw [e] at hi
    match i,hi with
    | 0,hi=>simp [encC] at hi;rw [<- hi];exact h1.1
    | 1,hi=>simp [encC] at hi;rw [<- hi];exact h1.2
    | i+2,hi=>simp [encC] at hi)
  change Calls Tryz.prog 143 _ _ _ at hcon
  rw [List.take_of_length_le (Nat.le_refl _)] at hcon
  clear hc
  generalize l.any (fun b=>belC c b)=r at hcon ⊢
  go_enter Tryz.func170,Tryz.ntmps170
  go_wp2_with (go_at_call 143;refine hcon.mono ?_;rintro e w' ⟨rfl,hb'⟩)
  go_ret
  exact⟨rfl,(below_alloc w _).trans (hb'.mono (by simp))⟩
theorem ltOf_cmpC (a b:C):ltOf cmpC a b=ltC a b:=cmpC_lt a b
theorem swoC:SWO (ltOf cmpC) where
 irrefl x:=by rw [ltOf_cmpC,ltC_irrefl]
 trans x y z h1 h2:=by rw [ltOf_cmpC] at *; exact ltC_trans h1 h2
 ntrans x y z h1 h2:=by
  rw [ltOf_cmpC] at *
  cases h:ltC x z
  ·rfl
  ·simp only [ltC,Bool.or_eq_false_iff,Bool.and_eq_false_iff,Bool.or_eq_true,Bool.and_eq_true,decide_eq_true_eq,decide_eq_false_iff_not] at *
   omega
theorem cmpLays (blk off size:Nat) (w:World):CmpLays Tryz.prog 151 #[] encC 2 cmpC blk off size w:=fun _ _ _ _ x y=>cmp_any x y _
theorem holds_of {w:World} {base g cap:Nat} {u:List C} (h:OwnsC w base (.slice (some ⟨g,0,none⟩) u.length cap) u):HoldsK encC 2 w g 0 u.toArray:=by
 intro t ht
 rw [size_flatK] at ht
 have hlen:u.toArray.size=u.length:=by simp
 rw [hlen] at ht
 refine⟨?_,World.ownsRow.frozenAt h _⟩
 have e1:=World.ownsRow.cellAt h t ht
 rw [Nat.zero_add,e1,get_flatK _ _ _ _ (by rw [hlen];exact ht)]
 have hj:t / 2<u.length:=by omega
 have e2:u.toArray[t / 2]! = u[t / 2]:=by rw [getElem!_pos _ _ (by simpa using hj)];simp
 rw [e2]
 rcases Nat.mod_two_eq_zero_or_one t with hm|hm
 ·have e3:t=t / 2*2:=by omega
  have e4:(flat u)[t]? = (flat u)[t / 2*2]?:=by rw [<- e3]
  rw [e4,flat_get0,List.getElem?_eq_getElem hj,hm];rfl
 ·have e3:t=t / 2*2+1:=by omega
  have e4:(flat u)[t]? = (flat u)[t / 2*2+1]?:=by rw [<- e3]
  rw [e4,flat_get1,List.getElem?_eq_getElem hj,hm];rfl
theorem cells_of {w:World} {g:Nat} {d:Array C} (h:HoldsK encC 2 w g 0 d):CellsC w g 0 d.toList:=by
 intro j c hj
 have hlt:j<d.size:=by
  rcases Nat.lt_or_ge j d.size with h1|h1
  ·exact h1
  ·rw [List.getElem?_eq_none (by simpa using h1)] at hj;exact absurd hj (by simp)
 have e:d[j]! = c:=by
  rw [getElem!_pos d j hlt]
  rw [List.getElem?_eq_getElem (by simpa using hlt)] at hj
  simpa using hj
 have h0:=(h.cell hlt (c:=0) (by omega)).1
 have h1:=(h.cell hlt (c:=1) (by omega)).1
 rw [e] at h0 h1
 exact⟨h0,h1⟩
theorem perm_of {d d':Array C} (h:PermIn 0 d.size d d'):d'.toList.Perm d.toList:=by
 have h2:=h.2.2
 have e:d'.extract 0 d.size=d':=by rw [<- h.1];simp
 rw [e] at h2
 simpa using h2
theorem rises_of {d d':Array C} (h:SortedIn (ltOf cmpC) 0 d.size d') (hs:d'.size=d.size) (hn:d'.toList.Nodup):risesC d'.toList:=by
 unfold risesC
 rw [List.pairwise_iff_getElem]
 intro i j hi hj hij
 have hi':i<d'.size:=by simpa using hi
 have hj':j<d'.size:=by simpa using hj
 have h1:=h i j (by omega) hij (by omega)
 rw [ltOf_cmpC,getElem!_pos d' j hj',getElem!_pos d' i hi'] at h1
 simp only [Array.getElem_toList]
 cases h2:ltC d'[i] d'[j]
 ·have e:=ltC_total h2 h1
  have hne:=(List.pairwise_iff_getElem.1 hn) i j hi hj hij
  simp only [Array.getElem_toList] at hne
  exact absurd e hne
 ·rfl
theorem below_sort {w:World} {g n:Nat} {d:Array C} {os:Array Obj} {B:Nat} (hB:B<=g) (hg:g<w.heap.size):Below B w (sortWorldK encC 2 w g 0 n d os):=by
 unfold sortWorldK putRowK putRow mapBlock
 refine⟨rfl,rfl,rfl,by simp [grow,ahead],fun k hk=>?_⟩
 have hne:g≠k:=by omega
 have hk2:k<w.heap.size:=by omega
 simp [grow,ahead,Array.getElem?_append,Array.getElem_modify,hne,hk2]
theorem sort_any (u:List C) (base g cap:Nat) (w:World) (h:OwnsC w base (.slice (some ⟨g,0,none⟩) u.length cap) u) (hnd:u.Nodup) (hl:u.length<=100000) :
  Calls Tryz.prog 211 #[.slice (some ⟨g,0,none⟩) u.length cap,.func (.func 151) #[] #[]] w fun e w'=>e=.returned (.tuple #[])/\∃ o,risesC o/\o.Perm u/\CRow w' (.slice (some ⟨g,0,none⟩) u.length cap) o/\∀ B,B<=g->Below B w w':=by
 have eg:∀ args w,(callFunc 151 args).run Tryz.prog w=.ok (.enter 151 args) w:=enters_of Tryz.func151 (by kernel_rfl) rfl
 have hg:g<w.heap.size:=(World.ownsRow.lt h g rfl).2
 have hH:=holds_of h
 have hcon:=AnyQ.slices_SortFunc sortC 2 Tryz.isAgg38 Tryz.sizeOf38 encC (fun _=>rfl) (fun x v hv=>by simp [encC] at hv;rcases hv with rfl | rfl <;> rfl) cmpC swoC 151 #[] g 0 cap u.toArray w eg (cmpLays g 0 _ w) hH hg (by simp;omega)
 have hlen:u.toArray.size=u.length:=by simp
 rw [hlen] at hcon
 change Calls Tryz.prog 211 _ _ _ at hcon
 refine hcon.mono ?_
 rintro e w' ⟨rfl,d',n,os,hp,hs,rfl⟩
 have hp2:PermIn 0 u.toArray.size u.toArray d':=by rw [hlen];exact hp
 have hs2:SortedIn (ltOf cmpC) 0 u.toArray.size d':=by rw [hlen];exact hs
 have hperm:d'.toList.Perm u:=perm_of hp2
 have hsz:d'.size=u.toArray.size:=hp2.1
 refine⟨rfl,d'.toList,rises_of hs2 hsz (hperm.nodup_iff.2 hnd),hperm,.inr ⟨g,0,cap,?_,?_,?_⟩,fun B hB=>below_sort hB hg⟩
 ·rw [show d'.toList.length=u.length from hperm.length_eq]
 ·exact Nat.lt_of_lt_of_le hg (below_sort (Nat.le_refl g) hg (w:=w) (n:=n) (d:=d') (os:=os)).size
 ·refine cells_of ?_
  unfold sortWorldK
  apply holdsK_grow
  ·simpa [putRowK,putRow,mapBlock,ahead] using hg
  ·apply holdsK_putRowK (d0:=u.toArray)
   ·exact hH
   ·exact hsz
theorem Tryz.rowC:(38:TypeId) < Tryz.prog.types.size:=of_decide_eq_true (by kernel_rfl)
theorem Tryz.wideC:(match Tryz.prog.underlying 38 with | some (.array _ _) | some (.struct _)=>true | _=>false)=true:=by rw [Tryz.underlying38]
theorem lawC:Keyed Tryz.prog 38:=Keyed.of_law (deep_law_laid Tryz.laidOut (m:=2) (by omega) Tryz.rowC (by kernel_rfl) Tryz.wideC)
theorem zeroU (w:World):(zeroValue 187).run Tryz.prog w=.ok (.agg #[]) w:=by kernel_rfl
theorem makeC (n:Nat) (w:World):(Instr.makeMap 186 (some (.int .i64 (n:Int)))).run Tryz.prog w=.ok (.map (some w.heap.size)) (w.alloc (.map #[] 0)):=by
 simp [Instr.makeMap,underlying,Tryz.underlying186,Result.andThen]
 rfl
def keyS (c:C):Lit:=.string (keyBytes [.int .u32 (c.1.val:Int),.int .u32 (c.2.val:Int)])
theorem wf_u32 (x:Fin 4294967296):(Lit.int .u32 (x.val:Int)).wf=true:=by
 have:=x.isLt
 simp [Lit.wf,IntKind.min,IntKind.max,IntKind.bits,IntKind.signed]
 omega
theorem Tryz.keyTypeC:Tryz.prog.keyType 38=true:=by kernel_rfl
theorem keyC (c:C):keyOf Tryz.prog 38 (clV c)=some (keyS c):=by
 have h1:=wf_u32 c.1
 have h2:=wf_u32 c.2
 obtain⟨m,hm⟩:∃ m,Tryz.prog.types.size=m+1:=⟨Tryz.prog.types.size - 1,by kernel_rfl⟩
 unfold keyOf
 simp only [Tryz.underlying38]
 rw [if_pos (by simp [Tryz.keyTypeC,Value.formed,Tryz.underlying38,Tryz.cellsC]),hm]
 unfold Program.keyLits
 simp only [Tryz.underlying38,Value.cells]
 rw [if_pos ⟨by rw [Tryz.cellsC];rfl,by simp⟩]
 simp [Program.keyLits,Tryz.underlying36,Tryz.cellsU,h1,h2,keyS]
theorem keyS_inj {c d:C} (h:keyS c=keyS d):c=d:=by
 have h1:=keyC c
 rw [h] at h1
 have h2:=lawC.inj h1 (keyC d)
 simp at h2
 exact c_ext (by omega) (by omega)
def uniq (acc:List C) (c:C):List C:=if acc.contains c then acc else acc ++ [c]
def uniqAll (l:List C):List C:=l.foldl uniq []
theorem uniqAll_snoc (l:List C) (c:C):uniqAll (l ++ [c])=uniq (uniqAll l) c:=by simp [uniqAll]
theorem mem_uniq {acc:List C} {c x:C}:x∈uniq acc c↔x∈acc\/x=c:=by
 unfold uniq
 split
 ·rename_i h
  have h:c∈acc:=by simpa using h
  exact⟨.inl,fun h1=>h1.elim id (fun e=>e ▸ h)⟩
 ·simp
theorem mem_uniqAll {l:List C} {x:C}:x∈uniqAll l↔x∈l:=by
 induction l using snoc_ind with
 | nil=>simp [uniqAll]
 | snoc l c ih=>rw [uniqAll_snoc,mem_uniq,ih];simp
theorem uniqAll_nodup (l:List C):(uniqAll l).Nodup:=by
 induction l using snoc_ind with
 | nil=>simp [uniqAll]
 | snoc l c ih =>
  rw [uniqAll_snoc]
  unfold uniq
  split
  ·exact ih
  ·rename_i h
   have h:c ∉ uniqAll l:=by simpa using h
   rw [List.nodup_append]
   exact⟨ih,by simp,fun a ha b hb e=>h ((e.trans (List.mem_singleton.1 hb)) ▸ ha)⟩
theorem uniqAll_length_le (l:List C):(uniqAll l).length<=l.length:=by
 induction l using snoc_ind with
 | nil=>simp [uniqAll]
 | snoc l c ih =>
  rw [uniqAll_snoc]
  unfold uniq
  split <;> simp <;> omega
def setS (acc:List C):DataW Unit:=setOf (.agg []) (acc.map keyS)
theorem setS_snoc (acc:List C) (c:C):setS (acc ++ [c])=(setS acc).put (keyS c) (.agg []):=by rw [setS,List.map_append,List.map_cons,List.map_nil,setOf_snoc];rfl
theorem has_setS (acc:List C) (c:C):Maps.has (setS acc) (keyS c)=acc.contains c:=by
 rw [setS,has_setOf _ _ _ (fun x hx=>by obtain⟨y,_,rfl⟩:=List.mem_map.1 hx;trivial),Bool.eq_iff_iff,List.any_eq_true]
 simp only [List.mem_map,List.contains_iff_mem]
 constructor
 ·rintro⟨_,⟨y,hy,rfl⟩,hs⟩
  have:=keyS_inj (WideAt.sameKey_eq hs)
  exact this ▸ hy
 ·intro h
  exact⟨_,⟨c,h,rfl⟩,by simp [keyS,Lit.sameKey]⟩
theorem row_not_map {H:Type} {w:World} {base e size:Nat} {v:Value} {n:Nat} {xs:List Value} (h:w.ownsRow base e size v n xs) {P:Program} {k:TypeId} {R:Value->Option (DataW H × List MemPlace)} {b m:Nat} {D:DataW H} (hm:w.ownsMap P k R b m D):some b≠v.ownBlock:=by
 obtain⟨es,clock,hb,_⟩:=hm
 rcases h.2 with ⟨rfl,_⟩|⟨g,cap,cur,rfl,_,hg,_⟩
 ·simp [Value.ownBlock]
 ·intro e
  have e:b=g:=by simpa [Value.ownBlock] using e
  subst e
  rw [hb] at hg
  simp at hg
theorem ordered_any (l : List C) (v : Value) (w : World) (hv : CRow w v l) (hl : l.length <= 100000) :
    Calls Tryz.prog 169 #[v] w fun e w'=>∃ v' o,e=.returned v'/\CRow w' v' o/\risesC o/\(∀ c,c∈o↔c∈l)/\o.length<=l.length/\Below w.heap.size w w':=by
  have hmm:=makeC l.length
  obtain⟨i0,hi,hz0,hz1,hz2⟩:=info_parts Tryz.infoC
  have hbytes:i0.bytes*l.length<=281474976710656:=by rw [hz2];omega
  obtain⟨a0,cap,rfl⟩:∃ a0 cap,v=.slice a0 l.length cap:=hv.len
  have hcx:∀ k c,l[k]? = some c->∃ g off,a0=some ⟨g,off,none⟩/\g<w.heap.size/\w.cell? ⟨g,off+k*2,none⟩=some (.int .u32 (c.1.val:Int))/\w.cell? ⟨g,off+k*2+1,none⟩=some (.int .u32 (c.2.val:Int)):=fun k c hk=>by
    have hz:l≠[]:=by rintro rfl;simp at hk
    obtain⟨g,off,cap2,e,hg,hc⟩:=hv.cons hz
    have e2:a0=some ⟨g,off,none⟩:=by injection e
    exact⟨g,off,e2,hg,(hc k c hk).1,(hc k c hk).2⟩
  clear hv
  obtain⟨n,hn⟩:∃ n,n=l.length:=⟨_,rfl⟩
  have Hn:Hid (n=l.length):=hn
  rw [<- hn] at hl hmm hbytes ⊢
  clear hn
  go_enter Tryz.func169,Tryz.ntmps169
  go_wp2_with (at_make;refine wpList_make_own _ rfl _ _ 22 rfl (w.heap.size+1) 38 i0 (.agg #[.int .u32 0,.int .u32 0]) 2 Tryz.underlying22 hi hz0 hz1 .i64 .i64 _ n rfl rfl rfl hbytes (by unfold maxLen;omega) (by simp) ?_;intro w1 hown1 hgrow1)
  go_loopw [4, 17] (fun v i wr => ∃ k : Nat, k <= n /\ i = .int .i64 k /\ wr.ownsMap Tryz.prog 38 unitElem w.heap.size k (setS (uniqAll (l.take k))) /\ OwnsC wr (w.heap.size + 1) v (uniqAll (l.take k)) /\ (∃ g cap, v = .slice (some ⟨g, 0, none⟩) (uniqAll (l.take k)).length cap) /\
      Below w.heap.size w wr/\w.heap.size+1<=wr.heap.size) (fun _ i _=>n - (intOf i).toNat)
  case atStart =>
    have hB1:Below w.heap.size w w1:=(below_alloc w (.map #[] 0)).grown hgrow1 (by simp) (fun k h=>by cases h)
    have e1:(w.alloc (.map #[] 0)).heap.size=w.heap.size+1:=by simp
    rw [e1] at hown1
    exact⟨0,Nat.zero_le _,rfl,(World.ownsMap_made w _ _ _).kept hgrow1 (by simp),hown1,⟨_,_,rfl⟩,hB1,by have:=hgrow1.size;simp at this;omega⟩
  case round =>
    obtain⟨k,hk,rfl,hown,hrow,⟨g1,cap1,rfl⟩,hnx,hws⟩:=hrel
    have hul:(uniqAll (l.take k)).length<=k:=by
      have h1:=uniqAll_length_le (l.take k)
      have h2:=List.length_take_le k l
      omega
    clear hmm hgrow1 hown1
    by_cases hlt:k<n
    . obtain⟨c,hck⟩:=get_some (l:=l) (k:=k) (by rw [<- Hn.out];exact hlt)
      obtain⟨g,off,rfl,hg,x0,x1⟩:=hcx k c hck
      replace x0:=(hnx.cell (p:=⟨g,off+k*2,none⟩) hg).trans x0
      replace x1:=(hnx.cell (p:=⟨g,off+k*2+1,none⟩) hg).trans x1
      have htk:l.take (k+1)=l.take k ++ [c]:=by rw [List.take_add_one,hck];rfl
      have HU:Hid (uniqAll (l.take (k+1))=uniq (uniqAll (l.take k)) c):=by rw [htk];exact uniqAll_snoc _ _
      have hkey:=keyC c
      clear hck htk hcx
      by_cases hcon:(uniqAll (l.take k)).contains c=true
      . have HS:Hid (uniqAll (l.take (k+1))=uniqAll (l.take k)):=HU.out.trans (by unfold uniq;exact if_pos hcon)
        have hh:Maps.has (setS (uniqAll (l.take k))) (keyS c)=true:=by rw [has_setS];exact hcon
        clear hcon HU
        go_wp2_with (at_lookup;refine wpList_lookup_own_unit _ rfl _ _ 186 rfl 38 187 lawC Tryz.underlying186 (zeroU _) w.heap.size k _ rfl (hown.alloc _) _ _ rfl hkey ?_;rw [hh])
        go_roundw
        case rel =>
          refine⟨k+1,by omega,by go_num,?_,?_,⟨g1,cap1,by rw [HS.out]⟩,(hnx.alloc hnx.size _).alloc (by simp;omega) _,by simp;omega⟩
          . rw [HS.out]
            exact ((hown.alloc _).alloc _).mono (Nat.le_succ _)
          . rw [HS.out]
            exact (World.ownsRow.alloc hrow _).alloc _
        case measure=>simp [intOf];omega
      . have hcon:(uniqAll (l.take k)).contains c=false:=by simpa using hcon
        have HS:Hid (uniqAll (l.take (k+1))=uniqAll (l.take k) ++ [c]):=HU.out.trans (by unfold uniq;exact if_neg (by rw [hcon];simp))
        have hh:Maps.has (setS (uniqAll (l.take k))) (keyS c)=false:=by rw [has_setS];exact hcon
        clear hcon HU
        have hne:=row_not_map hrow hown
        go_wp2_with (first
          | (at_lookup;refine wpList_lookup_own_unit _ rfl _ _ 186 rfl 38 187 lawC Tryz.underlying186 (zeroU _) w.heap.size k _ rfl (hown.alloc _) _ _ rfl hkey ?_;rw [hh])
          | (at_mapUpdate;refine wpList_mapUpdate_own _ rfl _ _ _ 186 rfl 38 187 lawC Tryz.underlying186 (unitElem (H:=Unit)) w.heap.size k _ rfl ((hown.alloc _).alloc _) (by unfold maxLen;omega) _ _ _ rfl rfl hkey _ [] unitElem_mk ?_;intro w2 hown2 hgrow2;have y0:w2.cell? ⟨wr.heap.size,0,none⟩=some (.int .u32 (c.1.val:Int)):=(hgrow2.cell_far ⟨wr.heap.size,0,none⟩ (by simp;omega) (by simp;omega)).trans (by simp [go_sem]);have y1:w2.cell? ⟨wr.heap.size,1,none⟩=some (.int .u32 (c.2.val:Int)):=(hgrow2.cell_far ⟨wr.heap.size,1,none⟩ (by simp;omega) (by simp;omega)).trans (by simp [go_sem]))
          | (at_builtin;refine wpList_append_own _ rfl _ _ 22 rfl (w.heap.size+1) 38 i0 (.agg #[.int .u32 0,.int .u32 0]) 2 8 Tryz.underlying22 hi hz0 hz1 hz2 rfl (by decide) _ _ _ rfl ((((World.ownsRow.alloc hrow _).alloc _).kept hgrow2 (Or.inr hne.symm)).alloc _) ⟨w2.heap.size,0,none⟩ 1 1 (encC c) rfl rfl (new_two _ _ _ _) (flat_one c ▸ flat_oneCell [c]) (by unfold maxLen;omega) (by omega) (by have:=hgrow2.size;simp at this ⊢; omega) ?_;intro v' w3 hown3 hgrow3 hnil3))
        have hgrow3':(w2.alloc (.cells #[.int .u32 (c.1.val:Int),.int .u32 (c.2.val:Int)] 38)).grownBy w3 (some g1):=hgrow3
        have hne':some w.heap.size≠some g1:=hne
        have hg1:=(World.ownsRow.lt hrow g1 rfl).1
        have hrow3:OwnsC w3 (w.heap.size+1) v' (uniqAll (l.take k) ++ [c]):=by
          unfold OwnsC
          rw [flat_append,flat_one,List.length_append]
          exact hown3
        obtain⟨g4,cap4,hv4,_,_⟩:=World.ownsRow.form hown3 (Nat.succ_pos _)
        subst hv4
        have s2:=hgrow2.size
        have s3:=hgrow3'.size
        simp at s2 s3
        clear hgrow3 hnil3 hown3
        go_roundw
        case rel =>
          refine⟨k+1,by omega,by go_num,?_,?_,⟨g4,cap4,by rw [HS.out];simp⟩,?_,by omega⟩
          . rw [HS.out,setS_snoc]
            exact (hown2.alloc _).kept hgrow3' hne'
          . rw [HS.out];exact hrow3
          . exact (((((hnx.alloc hnx.size _).alloc (by simp;omega) _).grown hgrow2 (by simp;omega) (fun j hj=>by cases hj;exact Nat.le_refl _)).alloc (by omega) _).grown hgrow3' (by simp;omega) (fun j hj=>by cases hj;omega))
        case measure=>simp [intOf];omega
    . obtain rfl:k=n:=by omega
      have e:l.take k=l:=List.take_of_length_le (by rw [<- Hn.out];exact Nat.le_refl _)
      rw [e] at hrow hul ⊢
      have hg1:=(World.ownsRow.lt hrow g1 rfl).1
      have hS:=sort_any (uniqAll l) (w.heap.size+1) g1 cap1 wr hrow (uniqAll_nodup l) (by omega)
      clear hcx
      go_wp2_with (go_at_call 211;refine hS.mono ?_;rintro e w4 ⟨rfl,o,ho1,ho2,ho3,ho4⟩)
      go_ret
      exact⟨_,o,rfl,ho3,ho1,fun c=>by rw [ho2.mem_iff,mem_uniqAll],by rw [ho2.length_eq];exact hul,hnx.trans (ho4 _ (by omega))⟩
theorem keepAll_take_step {o:List C} {k:Nat} {c:C} (h1:o[k]? = some c):keepAll (o.take (k+1))=keep (keepAll (o.take k)) c:=by
 have e:o.take (k+1)=o.take k ++ [c]:=by rw [List.take_add_one,h1];rfl
 rw [e,keepAll_snoc]
theorem keepAll_take_le (o:List C) (k:Nat):(keepAll (o.take k)).length<=(keepAll o).length:=by
 have:=keepAll_length_mono (o.take k) (o.drop k)
 rwa [List.take_append_drop] at this
theorem least_any (l:List C) (v:Value) (w:World) (hv:CRow w v l) (hl:l.length<=100000) :
  Calls Tryz.prog 119 #[v] w fun e w'=>∃ v' M er,e=.returned (.tuple #[v',.int .i64 er])/\LeastIs l M er/\OwnsC w' w.heap.size v' M/\Below w.heap.size w w':=by
 obtain⟨i0,hi,hz0,hz1,hz2⟩:=info_parts Tryz.infoC
 have hv0:=hv
 obtain⟨a0,cap,rfl⟩:∃ a0 cap,v=.slice a0 l.length cap:=hv.len
 have hcx:∀ k c,l[k]? = some c->∃ g off,a0=some ⟨g,off,none⟩/\g<w.heap.size/\w.cell? ⟨g,off+k*2,none⟩=some (.int .u32 (c.1.val:Int))/\w.cell? ⟨g,off+k*2+1,none⟩=some (.int .u32 (c.2.val:Int)):=fun k c hk=>by
  have hz:l≠[]:=by rintro rfl;simp at hk
  obtain⟨g,off,cap2,e,hg,hc⟩:=hv.cons hz
  have e2:a0=some ⟨g,off,none⟩:=by injection e
  exact⟨g,off,e2,hg,(hc k c hk).1,(hc k c hk).2⟩
 clear hv
 have hO:∀ W,Below w.heap.size w W->Calls Tryz.prog 169 #[.slice a0 l.length cap] W fun e w'=>∃ v' o,e=.returned v'/\CRow w' v' o/\risesC o/\(∀ c,c∈o↔c∈l)/\o.length<=l.length/\Below W.heap.size W w' :=
  fun W hB=>ordered_any l _ W (hv0.below hB) hl
 clear hv0
 obtain⟨n,hn⟩:∃ n,n=l.length:=⟨_,rfl⟩
 have Hn:Hid (n=l.length):=hn
 rw [<- hn] at hl hO ⊢
 clear hn
 go_enter Tryz.func119,Tryz.ntmps119
 go_wp2
 go_loopw [11] (fun i wr=>∃ k:Nat,k<=n/\i=.int .i64 k/\(l.take k).all rightC=true/\Below w.heap.size w wr) (fun i _=>n - (intOf i).toNat)
 case atStart=>exact⟨0,Nat.zero_le _,rfl,rfl,Below.refl _ _⟩
 case round =>
  obtain⟨k,hk,rfl,hall,hnx⟩:=hrel
  have HA:Hid ((l.take k).all rightC=true):=hall
  clear hall
  by_cases hlt:k<n
  ·obtain⟨c,hck⟩:=get_some (l:=l) (k:=k) (by rw [<- Hn.out];exact hlt)
   obtain⟨g,off,rfl,hg,x0,x1⟩:=hcx k c hck
   replace x0:=(hnx.cell (p:=⟨g,off+k*2,none⟩) hg).trans x0
   replace x1:=(hnx.cell (p:=⟨g,off+k*2+1,none⟩) hg).trans x1
   have HC:Hid (l[k]? = some c):=hck
   clear hck hcx hO
   cases hrc:rightC c
   ·go_wp2_with (go_at_call 150;refine (cright_any c _).mono ?_;rintro e w2 ⟨rfl,hG⟩;rw [hrc])
    go_ret2
    exact⟨_,[],2,rfl,.inl ⟨not_all HC.out hrc,rfl,rfl⟩,World.ownsRow_nil _ _ _ _,(hnx.alloc hnx.size _).trans (hG.below.mono (by have:=hnx.size;simp;omega))⟩
   ·go_wp2_with (go_at_call 150;refine (cright_any c _).mono ?_;rintro e w2 ⟨rfl,hG⟩;rw [hrc])
    go_roundw
    case rel=>exact⟨k+1,by omega,by go_num,all_take_step HA.out HC.out hrc,(hnx.alloc hnx.size _).trans (hG.below.mono (by have:=hnx.size;simp;omega))⟩
    case measure=>simp [intOf];omega
  ·obtain rfl:k=n:=by omega
   have HR:Hid (l.all rightC=true):=by
    have h:=HA.out
    rwa [List.take_of_length_le (by rw [<- Hn.out];exact Nat.le_refl _)] at h
   clear hcx
   go_wp2_with (go_at_call 169;refine (hO _ hnx).mono ?_;rintro e w2 ⟨v2,o,rfl,ho1,ho2,ho3,ho4,ho5⟩;obtain⟨a2,cap2,rfl⟩:=ho1.len)
   have HLst:Hid (IsLeast l (keepAll o)):=isLeast_keepAll (fun c hc=>List.all_eq_true.1 HR.out c hc) ho2 ho3
   have hcy:∀ j c,o[j]? = some c->∃ g off,a2=some ⟨g,off,none⟩/\g<w2.heap.size/\w2.cell? ⟨g,off+j*2,none⟩=some (.int .u32 (c.1.val:Int))/\w2.cell? ⟨g,off+j*2+1,none⟩=some (.int .u32 (c.2.val:Int)):=fun j c hj=>by
    have hz:o≠[]:=by rintro rfl;simp at hj
    obtain⟨g,off,cap3,e,hg,hc⟩:=ho1.cons hz
    have e2:a2=some ⟨g,off,none⟩:=by injection e
    exact⟨g,off,e2,hg,(hc j c hj).1,(hc j c hj).2⟩
   have hB2:Below w.heap.size w w2:=chain hnx ho5
   clear ho1 ho2 ho3 ho5 hO
   obtain⟨m,hm⟩:∃ m,m=o.length:=⟨_,rfl⟩
   have Hm:Hid (m=o.length):=hm
   rw [<- hm] at ho4 ⊢
   clear hm
   go_loopw [6,22] (fun v i wr=>∃ j:Nat,j<=m/\i=.int .i64 j/\OwnsC wr w2.heap.size v (keepAll (o.take j))/\(∃ a cap,v=.slice a (keepAll (o.take j)).length cap)/\(keepAll (o.take j)).length<=64/\Below w2.heap.size w2 wr) (fun _ i _=>m - (intOf i).toNat)
   case atStart=>exact⟨0,Nat.zero_le _,rfl,World.ownsRow_nil _ _ _ _,⟨_,_,rfl⟩,by simp [keepAll],Below.refl _ _⟩
   case round =>
    obtain⟨j,hj,rfl,hrow,⟨a3,cap3,rfl⟩,h64,hny⟩:=hrel
    by_cases hlt2:j<m
    ·obtain⟨c,hcj⟩:=get_some (l:=o) (k:=j) (by rw [<- Hm.out];exact hlt2)
     obtain⟨g,off,rfl,hg,x0,x1⟩:=hcy j c hcj
     replace x0:=(hny.cell (p:=⟨g,off+j*2,none⟩) hg).trans x0
     replace x1:=(hny.cell (p:=⟨g,off+j*2+1,none⟩) hg).trans x1
     have HK:Hid (keepAll (o.take (j+1))=keep (keepAll (o.take j)) c):=keepAll_take_step hcj
     have HM:Hid ((keepAll (o.take (j+1))).length<=(keepAll o).length):=keepAll_take_le o (j+1)
     clear hcj hcy
     have hbo:∀ ob,Calls Tryz.prog 170 #[clV c,.slice a3 (keepAll (o.take j)).length cap3] (wr.alloc ob) fun e w'=>e=.returned (.bool ((keepAll (o.take j)).any (fun b=>belC c b)))/\Below (wr.alloc ob).heap.size (wr.alloc ob) w' :=
      fun ob=>belowOne_any c _ _ _ (OwnsC.row (World.ownsRow.alloc hrow ob)) (by omega)
     cases hany:(keepAll (o.take j)).any (fun b=>belC c b)
     ·rw [hany] at hbo
      have HS:Hid (keepAll (o.take (j+1))=keepAll (o.take j) ++ [c]):=HK.out.trans (by unfold keep;exact if_neg (by rw [hany];simp))
      clear hany HK
      obtain⟨q,hq⟩:∃ q,q=(keepAll (o.take j)).length:=⟨_,rfl⟩
      have Hq:Hid (q=(keepAll (o.take j)).length):=hq
      by_cases hfull:q=64
      ·have hbig:Hid (64<(keepAll o).length):=by
        have h:=HM.out
        rw [HS.out,List.length_append,<- hq,hfull] at h
        simp at h
        exact h
       rw [<- hq,hfull] at hbo ⊢
       clear hq
       go_wp2_with (go_at_call 170;refine (hbo _).mono ?_;rintro e w3 ⟨rfl,hb3⟩)
       go_ret2
       exact⟨_,[],3,rfl,.inr ⟨HR.out,_,HLst.out,.inr ⟨hbig.out,rfl,rfl⟩⟩,World.ownsRow_nil _ _ _ _,chain hB2 ((hny.alloc hny.size _).trans (hb3.mono (by have:=hny.size;simp;omega)))⟩
      ·have hq64:q<64:=by omega
       have hrow1:=fun ob w3 (hb3:Below (wr.alloc ob).heap.size (wr.alloc ob) w3)=>OwnsC.below (World.ownsRow.alloc hrow ob) hb3
       rw [<- hq] at hbo hrow1 ⊢
       clear hq
       go_wp2_with (first
        | (go_at_call 170;refine (hbo _).mono ?_;rintro e w3 ⟨rfl,hb3⟩;have y0:w3.cell? ⟨wr.heap.size,0,none⟩=some (.int .u32 (c.1.val:Int)):=(hb3.cell (p:=⟨wr.heap.size,0,none⟩) (by simp)).trans (by simp [go_sem]);have y1:w3.cell? ⟨wr.heap.size,1,none⟩=some (.int .u32 (c.2.val:Int)):=(hb3.cell (p:=⟨wr.heap.size,1,none⟩) (by simp)).trans (by simp [go_sem]))
        | (at_builtin;refine wpList_append_own _ rfl _ _ 22 rfl w2.heap.size 38 i0 (.agg #[.int .u32 0,.int .u32 0]) 2 8 Tryz.underlying22 hi hz0 hz1 hz2 rfl (by decide) _ _ _ rfl (World.ownsRow.alloc (hrow1 _ _ hb3) _) ⟨w3.heap.size,0,none⟩ 1 1 (encC c) rfl rfl (new_two _ _ _ _) (flat_one c ▸ flat_oneCell [c]) (by rw [<- Hq.out];unfold maxLen;omega) (by rw [<- Hq.out];omega) (by have:=hb3.size;have:=hny.size;simp at *; omega) ?_;intro v' w4 hown4 hgrow4 hnil4))
       have hB3:Below w2.heap.size w2 w3:=(hny.alloc hny.size _).trans (hb3.mono (by have:=hny.size;simp;omega))
       have hlow:=World.ownsRow.lt hrow
       rw [<- Hq.out] at hlow hown4
       have hrow4:OwnsC w4 w2.heap.size v' (keepAll (o.take j) ++ [c]):=by
        unfold OwnsC
        rw [flat_append,flat_one,List.length_append,<- Hq.out]
        exact hown4
       obtain⟨g4,cap4,hv4,_,_⟩:=World.ownsRow.form hown4 (Nat.succ_pos _)
       subst hv4
       go_roundw
       case rel=>exact⟨j+1,by omega,by go_num,by rw [HS.out];exact hrow4,⟨_,cap4,by rw [HS.out,List.length_append,<- Hq.out];rfl⟩,by rw [HS.out,List.length_append,<- Hq.out];simp;omega,(hB3.alloc hB3.size _).grown hgrow4 (by have:=hB3.size;simp;omega) (fun i hi=>(hlow i hi).1)⟩
       case measure=>simp [intOf];omega
     ·rw [hany] at hbo
      have HS:Hid (keepAll (o.take (j+1))=keepAll (o.take j)):=HK.out.trans (by unfold keep;exact if_pos hany)
      clear hany HK
      go_wp2_with (go_at_call 170;refine (hbo _).mono ?_;rintro e w3 ⟨rfl,hb3⟩)
      go_roundw
      case rel=>exact⟨j+1,by omega,by go_num,by rw [HS.out];exact OwnsC.below (World.ownsRow.alloc hrow _) hb3,⟨a3,cap3,by rw [HS.out]⟩,by rw [HS.out];exact h64,(hny.alloc hny.size _).trans (hb3.mono (by have:=hny.size;simp;omega))⟩
      case measure=>simp [intOf];omega
    ·obtain rfl:j=m:=by omega
     have e:o.take j=o:=List.take_of_length_le (by rw [<- Hm.out];exact Nat.le_refl _)
     rw [e] at hrow h64 ⊢
     have hrow':=OwnsC.mono hrow hB2.size
     go_wp2
     go_ret2
     exact⟨_,keepAll o,0,rfl,.inr ⟨HR.out,_,HLst.out,.inl ⟨h64,rfl,rfl⟩⟩,hrow',chain hB2 hny⟩
def cl00:C:=(⟨0,by decide⟩,⟨0,by decide⟩)
theorem row_lit (w:World) (l:List C) (cs:Array Value) (n:Nat) (h:cs.toList=flat l) (hn:l.length=n) (hm:n<=100000):CRow (w.alloc (.cells cs 38)) (.slice (some ⟨w.heap.size,0,none⟩) n n) l:=by
 have hs:cs.size=n*2:=by
  have:=congrArg List.length h
  rw [flat_length,hn] at this
  simpa using this
 have h1:=World.ownsRow_lit (base:=0) (e:=38) (size:=2) w cs n (Nat.zero_le _) (by unfold maxLen;omega) hs
 rw [h,<- hn] at h1
 rw [<- hn]
 exact OwnsC.row (base:=0) h1
theorem leastC (l:List C) (v:Value) (w:World) (hv:CRow w v l) (hl:l.length<=100000) :
  Calls Tryz.prog 119 #[v] w fun e w'=>∃ v',e=.returned (.tuple #[v',.int .i64 (leastF l).2])/\OwnsC w' w.heap.size v' (leastF l).1/\Below w.heap.size w w' :=
 (least_any l v w hv hl).mono fun e w'=>by
  rintro⟨v',M,er,rfl,hL,hO,hB⟩
  rw [leastF_of hL]
  exact⟨v',rfl,hO,hB⟩
theorem row_one (w:World) (c:C):CRow (w.alloc (.cells #[.int .u32 (c.1.val:Int),.int .u32 (c.2.val:Int)] 38)) (.slice (some ⟨w.heap.size,0,none⟩) 1 1) [c] :=
 row_lit w [c] _ 1 rfl rfl (by omega)
attribute [local go_sem] Oper.semAt_some
abbrev Dim:=Fin 24
abbrev encD (x:Dim):Array Value:=#[.int .i64 ((x.1:Nat):Int)]
def firstD (k:Nat):List Dim:=(List.range k).filterMap (fun j=>if h:j<24 then some ⟨j,h⟩ else none)
theorem firstD_succ {k:Nat} (h:k<24):firstD (k+1)=firstD k ++ [⟨k,h⟩]:=by simp [firstD,List.range_succ,h]
theorem firstD_vals {k:Nat} (h:k<=24):(firstD k).map Fin.val=List.range k:=by
 induction k with
 | zero=>rfl
 | succ k ih=>rw [firstD_succ (by omega),List.map_append,ih (by omega),List.range_succ];rfl
theorem firstD_length {k:Nat} (h:k<=24):(firstD k).length=k:=by
 have:=congrArg List.length (firstD_vals h)
 simpa using this
theorem dims_stops (n:Nat) (hn:1<=n) (n₀:Nat) (w:World) :
  SeqStopsK Fence.wide n Tryz.prog 171 #[] encD (Below n₀) (fun xs=>xs.map Fin.val=List.range 24) (fun pre=>∃ k,k<=24/\pre.map Fin.val=List.range k) 24 w:=fun l J Jx W _ _ _ hY h0=>by
 refine callsIn_of_wp Tryz.func171 rfl trivial ?_ rfl
 simp only [Tryz.ntmps171,List.size_toArray,List.length_cons,List.length_nil,Nat.reduceAdd,Nat.reduceSub,Array.replicate_succ,Array.replicate_zero,List.push_toArray,List.append_toArray,List.nil_append,List.cons_append]
 gi_wp2
 gi_loopw [2] (fun i wr=>∃ k:Nat,k<=24/\i=.int .i64 k/\J (firstD k) wr) (fun i _=>24 - (intOf i).toNat)
 case atStart=>exact⟨0,by omega,rfl,h0⟩
 case round =>
  obtain⟨k,hk,rfl,hJs⟩:=hrel
  by_cases hlt:k<24
  ·obtain⟨fn,tmps,assign,body,hy,hR⟩:=hY _ ⟨k,hlt⟩ wr hJs (by rw [firstD_length hk];exact hlt)
   rw [<- firstD_succ hlt] at hR
   dsimp only [encD] at hy
   have hv:=firstD_vals (k:=k+1) (by omega)
   have HV:Hid ((firstD (k+1)).map Fin.val=List.range (k+1)):=hv
   clear hv
   gi_wp2
   refine hR.mono ?_
   rintro e W3 (⟨rfl,hJ3,hk3⟩ | ⟨rfl,hJx3⟩)
   ·gi_wp2
    go_roundw
    case rel=>exact⟨k+1,by omega,by simp,hJ3⟩
    case measure=>simp [intOf];omega
   ·gi_wp2
    refine bodyPost_ret (results_none rfl _ _ _) rfl ?_
    exact⟨⟨_,rfl⟩,.inr ⟨_,⟨k+1,by omega,HV.out⟩,hJx3⟩⟩
  ·obtain rfl:k=24:=by omega
   gi_wp2
   go_end0
   exact⟨⟨_,rfl⟩,.inl ⟨_,firstD_vals (by omega),hJs⟩⟩
def inS (s:Nat) (pre:List Dim):List Nat:=(pre.map Fin.val).filter (fun k=>s.testBit k)
theorem inS_all {s:Nat} {xs:List Dim} (h:xs.map Fin.val=List.range 24):inS s xs=dimsOf s:=by rw [inS,h];rfl
theorem inS_hit {s:Nat} {pre:List Dim} {x:Dim} (h:s.testBit x.1=true):inS s (pre ++ [x])=inS s pre ++ [x.1]:=by simp [inS,h]
theorem inS_miss {s:Nat} {pre:List Dim} {x:Dim} (h:s.testBit x.1=false):inS s (pre ++ [x])=inS s pre:=by simp [inS,h]
theorem inS_lt (s:Nat) (pre:List Dim):∀ k∈inS s pre,k<24:=fun k hk=>by
 obtain⟨x,_,rfl⟩:=List.mem_map.1 (List.mem_filter.1 hk).1
 exact x.2
theorem foldCR_any (fid:Nat) (cap:Array Value) (eg:∀ args w,(callFunc fid args).run Tryz.prog w=.ok (.enter fid args) w) (l:List C) (vs first:Value) (wb w:World) (hv:CRow wb vs l) (hl:l.length<=100000)
  (I:Nat->Value->World->Prop) (Q:Int->Prop) (hI:∀ k v W W',I k v W->Below W.heap.size W W'->I k v W') (hB:Below wb.heap.size wb w) (h0:I 0 first w)
  (hn:∀ k c v W,l[k]? = some c->Below wb.heap.size wb W->I k v W->Calls Tryz.prog fid (#[v,clV c] ++ cap) W fun e w'=>Below wb.heap.size wb w'/\∃ v' er,e=.returned (.tuple #[v',.int .i64 er])/\((er=0/\I (k+1) v' w')\/(er≠0/\Q er))) :
  Calls Tryz.prog 116 #[vs,first,.func (.func fid) #[] cap] w fun e w'=>Below wb.heap.size wb w'/\∃ v' er,e=.returned (.tuple #[v',.int .i64 er])/\((er=0/\I l.length v' w')\/(er≠0/\v'=.slice none 0 0/\Q er)):=by
 obtain⟨pa,ca,rfl⟩:=hv.len
 have Ha:Hid (CRow wb (.slice pa l.length ca) l):=hv
 clear hv
 obtain⟨n,hn1⟩:∃ n,n=l.length:=⟨_,rfl⟩
 have Hn:Hid (n=l.length):=hn1
 rw [<- hn1] at hl Ha ⊢
 clear hn1
 have H0:Hid (I 0 first w):=h0
 have HI:Hid (∀ k v W W',I k v W->Below W.heap.size W W'->I k v W'):=hI
 have HN:Hid (∀ k c v W,l[k]? = some c->Below wb.heap.size wb W->I k v W->Calls Tryz.prog fid (#[v,clV c] ++ cap) W fun e w'=>Below wb.heap.size wb w'/\∃ v' er,e=.returned (.tuple #[v',.int .i64 er])/\((er=0/\I (k+1) v' w')\/(er≠0/\Q er))):=hn
 clear h0 hI hn
 go_enter Tryz.func116,Tryz.ntmps116
 go_wp2
 go_loopw [8,16] (fun v i wr=>∃ k:Nat,k<=n/\i=.int .i64 k/\Hid (I k v wr)/\Below wb.heap.size wb wr) (fun _ i _=>n - (intOf i).toNat)
 case atStart=>exact⟨0,Nat.zero_le _,rfl,H0,hB⟩
 case round =>
  obtain⟨k,hk,rfl,hIk,hny⟩:=hrel
  by_cases hlt:k<n
  ·obtain⟨c,hck⟩:=get_some (l:=l) (k:=k) (by rw [<- Hn.out];exact hlt)
   obtain⟨g,off,rfl,hg,x0,x1⟩:=(Ha.out.below hny).at hck
   have HC:=HN.out k c _ (wr.alloc (.cells #[.int .u32 (c.1.val:Int),.int .u32 (c.2.val:Int)] 38)) hck (chain hny (below_alloc _ _)) (HI.out _ _ _ _ hIk.out (below_alloc _ _))
   clear hck
   go_wp2_with fail
   refine HC.mono ?_
   rintro e w2 ⟨hB2,v2,er,rfl,⟨rfl,hI2⟩ | ⟨hne,hq⟩⟩
   ·have HI2:Hid (I (k+1) v2 w2):=hI2
    clear hI2 HC
    go_wp2
    go_roundw
    case rel=>exact⟨k+1,by omega,by go_num,HI2,hB2⟩
    case measure=>simp [intOf];omega
   ·have HQ:Hid (Q er):=hq
    clear hq HC
    go_wp2
    go_ret2
    exact⟨hB2,_,er,rfl,.inr ⟨hne,rfl,HQ.out⟩⟩
  ·obtain rfl:k=n:=by omega
   go_wp2
   go_ret2
   exact⟨hny,_,0,rfl,.inl ⟨rfl,hIk.out⟩⟩
theorem foldl_stuck {l:List C} {a:List C × Int} (step:List C × Int->C->List C × Int) (hs:∀ a c,a.2≠0->step a c=a) (h:a.2≠0):l.foldl step a=a:=by
 induction l with
 | nil=>rfl
 | cons c l ih=>rw [List.foldl_cons,hs a c h,ih]
def OwnsR (w:World) (base:Nat) (v:Value) (rs:List Value):Prop:=w.ownsRow base 22 1 v rs.length rs
theorem OwnsR.read {w:World} {base:Nat} {v:Value} {rs:List Value} (h:OwnsR w base v rs):∃ pa ca,v=.slice pa rs.length ca/\∀ k x,rs[k]? = some x->∃ g,pa=some ⟨g,0,none⟩/\g<w.heap.size/\w.cell? ⟨g,k,none⟩=some x:=by
 rcases h.2 with ⟨rfl,hz⟩|⟨g,cap,cur,rfl,hb,hg,hr⟩
 ·have e:rs=[]:=List.length_eq_zero_iff.1 hz
  subst e
  exact⟨none,0,rfl,fun k x hk=>by simp at hk⟩
 ·refine⟨_,cap,rfl,fun k x hk=>⟨g,rfl,(World.ownsRow.lt h g rfl).2,?_⟩⟩
  have hlt:k<rs.length:=by
   rcases Nat.lt_or_ge k rs.length with h1|h1
   ·exact h1
   ·rw [List.getElem?_eq_none h1] at hk;exact absurd hk (by simp)
  have:=World.ownsRow.cellAt h k (by omega)
  rw [this,hk]
theorem At.drew {w:World} {g:Nat} {c:C} (h:At w g c):At w.drew g c:=h
theorem OwnsR.below {w w':World} {base:Nat} {v:Value} {rs:List Value} (h:OwnsR w base v rs) (hb:Below w.heap.size w w'):OwnsR w' base v rs:=by
 have hlt:=World.ownsRow.lt h
 obtain⟨h1,h2⟩:=h
 refine⟨h1,h2.imp id ?_⟩
 rintro⟨g,cap,cur,rfl,hg,hh,r⟩
 exact⟨g,cap,cur,rfl,hg,(hb.block g (hlt g rfl).2).trans hh,r⟩
theorem boxed_below {W W':World} {B:Nat} {t:TypeId} {v:Value} (h:Boxed W B t v) (hb:Below W.heap.size W W'):Boxed W' B t v:=(hb.block B h.lt).trans h
attribute [local go_sem] Oper.semAt_some
theorem inS_mem {s:Nat} {pre:List Dim} {k:Nat} (h:k∈inS s pre):k∈dimsOf s :=
 mem_dimsOf.2 ⟨inS_lt s pre k h,by simpa using (List.mem_filter.1 h).2⟩
attribute [local go_sem] Oper.semAt_some
theorem up_hit {fr by_:Int} {s:Nat} {pre:List Dim} {x:Dim} (h:s.testBit x.1=true):(inS s (pre ++ [x])).map (upK fr by_)=(inS s pre).map (upK fr by_) ++ [upK fr by_ x.1]:=by rw [inS_hit h];simp
theorem bad_hit {fr by_:Int} {s:Nat} {pre:List Dim} {x:Dim} (h:s.testBit x.1=true):liftBad fr by_ (inS s (pre ++ [x]))=(liftBad fr by_ (inS s pre) || badK fr by_ x.1):=by rw [inS_hit h];simp [liftBad]
def upN (s:Nat) (fr by_:Int) (pre:List Dim):Nat:=orAll ((inS s pre).map (upK fr by_))
theorem lift_loop (s:Nat) (fr by_:Int) (w:World) (hs:s<4294967296) (h0:0<=fr) (h1:0<=by_) :
  Calls Tryz.prog 168 #[.int .u32 s,.int .i64 fr,.int .i64 by_] w fun e W'=>e=.returned (.tuple #[.int .u32 (liftN s fr by_:Nat),.int .i64 (liftE s fr by_)])/\Below w.heap.size w W':=by
 have ha:argB fr by_=false:=argB_no h0 h1
 have HBad:Hid (liftBad fr by_ (dimsOf s)=true->liftN s fr by_=0/\liftE s fr by_=10):=fun h=>lift_bad ha h
 have HOk:Hid (liftBad fr by_ (dimsOf s)=false->liftN s fr by_=orAll ((dimsOf s).map (upK fr by_))/\liftE s fr by_=0):=fun h=>lift_ok ha h
 clear ha
 refine (callsIn_wide (n:=4)).1 ?_
 refine callsIn_of_wp_marks Tryz.func168 rfl trivial ?_ rfl
 simp only [Tryz.ntmps168,List.size_toArray,List.length_cons,List.length_nil,Nat.reduceAdd,Nat.reduceSub,Array.replicate_succ,Array.replicate_zero,List.push_toArray,List.append_toArray,List.nil_append,List.cons_append]
 gi_wp2
 have b0:=Boxed.new w 36 (.int .u32 s)
 have b1:=Boxed.new (w.alloc (.cells #[.int .u32 s] 36)) 3 (.int .i64 fr)
 have b2:=Boxed.new ((w.alloc (.cells #[.int .u32 s] 36)).alloc (.cells #[.int .i64 fr] 3)) 3 (.int .i64 by_)
 have b3:=Boxed.new (((w.alloc (.cells #[.int .u32 s] 36)).alloc (.cells #[.int .i64 fr] 3)).alloc (.cells #[.int .i64 by_] 3)) 36 (.int .u32 0)
 have b4:=Boxed.new ((((w.alloc (.cells #[.int .u32 s] 36)).alloc (.cells #[.int .i64 fr] 3)).alloc (.cells #[.int .i64 by_] 3)).alloc (.cells #[.int .u32 0] 36)) 30 (.int .i64 0)
 have b5:=Boxed.new (((((w.alloc (.cells #[.int .u32 s] 36)).alloc (.cells #[.int .i64 fr] 3)).alloc (.cells #[.int .i64 by_] 3)).alloc (.cells #[.int .u32 0] 36)).alloc (.cells #[.int .i64 0] 30)) 36 (.int .u32 0)
 have hB0:Below w.heap.size w ((((((w.alloc (.cells #[.int .u32 s] 36)).alloc (.cells #[.int .i64 fr] 3)).alloc (.cells #[.int .i64 by_] 3)).alloc (.cells #[.int .u32 0] 36)).alloc (.cells #[.int .i64 0] 30)).alloc (.cells #[.int .u32 0] 36)):=((((((Below.refl _ w).alloc (Nat.le_refl _) _).alloc (by simp) _).alloc (by simp;omega) _).alloc (by simp;omega) _).alloc (by simp;omega) _).alloc (by simp;omega) _
 simp only [World.size_alloc] at b1 b2 b3 b4 b5
 refine wpIn_rangeFunc_ownG rfl (by omega) (gf:=171) (lb:=#[]) rfl trivial (enters_of Tryz.func171 (by kernel_rfl) rfl)
  (dims_stops 3 (by omega) w.heap.size _) belowK_t (belowK_b (by simp;omega)) (Below.refl _ _) (fun _=>rfl)
  (fun pre W=>(Hid (liftBad fr by_ (inS s pre)=false)/\Boxed W w.heap.size 36 (.int .u32 s)/\Boxed W (w.heap.size+1) 3 (.int .i64 fr)/\Boxed W (w.heap.size+1+1) 3 (.int .i64 by_)/\Boxed W (w.heap.size+1+1+1) 36 (.int .u32 0)/\Boxed W (w.heap.size+1+1+1+1) 30 (.int .i64 0)/\Boxed W (w.heap.size+1+1+1+1+1) 36 (.int .u32 (upN s fr by_ pre:Nat)))/\Below w.heap.size w W)
  (fun c pre W=>((c=.ret/\liftBad fr by_ (inS s pre)=true)/\Boxed W (w.heap.size+1+1+1) 36 (.int .u32 0)/\Boxed W (w.heap.size+1+1+1+1) 30 (.int .i64 10))/\Below w.heap.size w W)
  (OwnFrom.and (OwnFrom.and (ownFrom_pure _ _) (OwnFrom.and (Own.from (boxed_own _ _ _) _) (OwnFrom.and (Own.from (boxed_own _ _ _) _) (OwnFrom.and (Own.from (boxed_own _ _ _) _) (OwnFrom.and (Own.from (boxed_own _ _ _) _) (OwnFrom.and (Own.from (boxed_own _ _ _) _) (Own.from (boxed_own _ _ (fun pre=>.int .u32 (upN s fr by_ pre:Nat))) _))))))) (ownFrom_below (Nat.le_refl _) (by simp;omega)))
  (fun c=>OwnFrom.and (OwnFrom.and (ownFrom_pure _ _) (OwnFrom.and (Own.from (boxed_own _ _ _) _) (Own.from (boxed_own _ _ _) _))) (ownFrom_below (Nat.le_refl _) (by simp;omega)))
  ⟨⟨rfl,((((b0.alloc _).alloc _).alloc _).alloc _).alloc _,(((b1.alloc _).alloc _).alloc _).alloc _,((b2.alloc _).alloc _).alloc _,(b3.alloc _).alloc _,b4.alloc _,b5⟩,hB0⟩
  (fun x=>{ tmps:=#[.int .u32 s,.int .i64 fr,.int .i64 by_,.pointer (some ⟨w.heap.size,0,none⟩),.pointer (some ⟨w.heap.size+1,0,none⟩),.pointer (some ⟨w.heap.size+1+1,0,none⟩),.pointer (some ⟨w.heap.size+1+1+1,0,none⟩),.pointer (some ⟨w.heap.size+1+1+1+1,0,none⟩),.pointer (some ⟨w.heap.size+1+1+1+1+1,0,none⟩),.int .i64 ((x.1:Nat):Int),.int .i64 fr,.bool (decide (fr<0)),.bool (decide (fr<0)),.int .i64 by_,.bool (decide (by_<0)),.bool (decide (fr<0) || decide (by_<0)),.int .i64 ((x.1:Nat):Int),undef,undef,undef,undef,undef,undef,undef,undef,undef,undef,undef,undef,undef,undef,undef,undef,undef,undef,undef,undef,undef,undef,undef],defers:=[] }) ?assign ?body ?done ?stop
 case assign =>
  intro l x W K hK
  gi_wp2
  exact hK
 case body =>
  rintro l pre x W ⟨⟨HA,hb0,hb1,hb2,hb3,hb4,hb5⟩,hB⟩ hlt
  have hc0:=hb0.cell
  have hc1:=hb1.cell
  have hc2:=hb2.cell
  have hc3:=hb3.cell
  have hf3:=hb3.frozen
  have hc4:=hb4.cell
  have hf4:=hb4.frozen
  have hc5:=hb5.cell
  have hf5:=hb5.frozen
  have hx:=x.2
  have hup24:∀ k∈(inS s pre).map (upK fr by_),k<24:=up_bd h1 (inS_lt s pre) HA.out
  have hy:upN s fr by_ pre<16777216:=orAll_lt hup24
  have hy':upN s fr by_ pre<4294967296:=by omega
  have HUP:Hid (∀ k∈(inS s pre).map (upK fr by_),k<24):=hup24
  clear hup24
  by_cases hb:s.testBit x.1=true
  ·have hh:hasB s ((x.1:Nat):Int)=true:=by rw [hasB_nat hx];exact hb
   by_cases hlo:((x.1:Nat):Int) < fr
   ·have hnb:badK fr by_ x.1=false:=by simp [badK];omega
    have HU:Hid (liftBad fr by_ (inS s (pre ++ [x]))=false):=by show liftBad fr by_ _=false;rw [bad_hit hb,HA.out,hnb];rfl
    have HW:Hid (withN (upN s fr by_ pre) ((x.1:Nat):Int)=upN s fr by_ (pre ++ [x])):=by
     show withN (upN s fr by_ pre) _=_
     unfold upN
     have e:upK fr by_ x.1=x.1:=by simp [upK,hlo]
     rw [up_hit hb,e]
     exact withN_orAll HUP.out hx
    clear hb hnb
    gi_wp2_with (first
     | (refine⟨trivial,?_⟩;gi_at_call 104;refine (CallsIn.inRound l (callsIn_wide.2 (has_any _ _ _ hs))).mono ?_;rintro e w' ⟨rfl,rfl⟩;rw [hh])
     | (refine⟨trivial,?_⟩;gi_at_call 149;refine (CallsIn.inRound l (callsIn_wide.2 (with_any _ _ _ hy'))).mono ?_;rintro e w' ⟨rfl,rfl⟩))
    refine⟨(KeepsOthers.setCell _ _ _).from _,(Below.refl _ _).setCell (p:=⟨w.heap.size+1+1+1+1+1,0,none⟩) (by simp;omega) _,⟨HU,hb0.other (by omega) _,hb1.other (by omega) _,hb2.other (by omega) _,hb3.other (by omega) _,hb4.other (by omega) _,?_⟩,hB.setCell (p:=⟨w.heap.size+1+1+1+1+1,0,none⟩) (by simp;omega) _⟩
    rw [<- HW.out];exact hb5.set _
   ·by_cases hbig:24 - ((x.1:Nat):Int)<=by_
    ·have hnb:badK fr by_ x.1=true:=by simp [badK];omega
     have HU:Hid (liftBad fr by_ (inS s (pre ++ [x]))=true):=by show liftBad fr by_ _=true;rw [bad_hit hb,hnb];simp
     clear hb hnb
     gi_wp2_with (refine⟨trivial,?_⟩;gi_at_call 104;refine (CallsIn.inRound l (callsIn_wide.2 (has_any _ _ _ hs))).mono ?_;rintro e w' ⟨rfl,rfl⟩;rw [hh])
     refine⟨((KeepsOthers.setCell _ _ _).trans (KeepsOthers.setCell _ _ _)).from _,⟨⟨rfl,HU.out⟩,(hb3.set _).other (by omega) _,(hb4.other (by omega) _).set _⟩,(hB.setCell (p:=⟨w.heap.size+1+1+1,0,none⟩) (by simp;omega) _).setCell (p:=⟨w.heap.size+1+1+1+1,0,none⟩) (by simp;omega) _⟩
    ·have hnb:badK fr by_ x.1=false:=by simp [badK];omega
     have HU:Hid (liftBad fr by_ (inS s (pre ++ [x]))=false):=by show liftBad fr by_ _=false;rw [bad_hit hb,HA.out,hnb];rfl
     have HW:Hid (withN (upN s fr by_ pre) (((x.1:Nat):Int) + by_)=upN s fr by_ (pre ++ [x])):=by
      show withN (upN s fr by_ pre) _=_
      unfold upN
      have e:upK fr by_ x.1=x.1+by_.toNat:=by simp [upK,hlo]
      have e2:((x.1:Nat):Int) + by_=((x.1+by_.toNat:Nat):Int):=by omega
      rw [up_hit hb,e,e2]
      exact withN_orAll HUP.out (by omega)
     clear hb hnb
     gi_wp2_with (first
      | (refine⟨trivial,?_⟩;gi_at_call 104;refine (CallsIn.inRound l (callsIn_wide.2 (has_any _ _ _ hs))).mono ?_;rintro e w' ⟨rfl,rfl⟩;rw [hh])
      | (refine⟨trivial,?_⟩;gi_at_call 149;refine (CallsIn.inRound l (callsIn_wide.2 (with_any _ _ _ hy'))).mono ?_;rintro e w' ⟨rfl,rfl⟩))
     refine⟨(KeepsOthers.setCell _ _ _).from _,(Below.refl _ _).setCell (p:=⟨w.heap.size+1+1+1+1+1,0,none⟩) (by simp;omega) _,⟨HU,hb0.other (by omega) _,hb1.other (by omega) _,hb2.other (by omega) _,hb3.other (by omega) _,hb4.other (by omega) _,?_⟩,hB.setCell (p:=⟨w.heap.size+1+1+1+1+1,0,none⟩) (by simp;omega) _⟩
     rw [<- HW.out];exact hb5.set _
  ·have hb:s.testBit x.1=false:=by simpa using hb
   have hh:hasB s ((x.1:Nat):Int)=false:=by rw [hasB_nat hx];exact hb
   have HI:Hid (inS s (pre ++ [x])=inS s pre):=inS_miss hb
   clear hb
   gi_wp2_with (refine⟨trivial,?_⟩;gi_at_call 104;refine (CallsIn.inRound l (callsIn_wide.2 (has_any _ _ _ hs))).mono ?_;rintro e w' ⟨rfl,rfl⟩;rw [hh])
   exact⟨KeepsFrom.refl _ _,Below.refl _ _,⟨by rw [HI.out];exact HA,hb0,hb1,hb2,hb3,hb4,by unfold upN;rw [HI.out];exact hb5⟩,hB⟩
 case done =>
  rintro D ys W hD hys ⟨⟨HA,hb0,hb1,hb2,hb3,hb4,hb5⟩,hB⟩ hK
  rw [inS_all hys] at HA
  have hE:=HOk.out HA.out
  have HN:Hid (liftN s fr by_=upN s fr by_ ys):=by show liftN s fr by_=_;unfold upN;rw [inS_all hys];exact hE.1
  have HE:Hid (liftE s fr by_=0):=hE.2
  clear hE
  have hc3:=hb3.cell
  have hf3:=hb3.frozen
  have hc4:=hb4.cell
  have hf4:=hb4.frozen
  have hc5:=hb5.cell
  gi_wp2
  have hK1:=(KeepsOthers.setCell W ⟨w.heap.size+1+1+1,0,none⟩ (.int .u32 (upN s fr by_ ys:Nat))).same D _ hK rfl
  have hK':=(KeepsOthers.setCell (W.setCell ⟨w.heap.size+1+1+1,0,none⟩ (.int .u32 (upN s fr by_ ys:Nat))) ⟨w.heap.size+1+1+1+1,0,none⟩ (.int .i64 0)).same D _ hK1 rfl
  refine⟨by simp,.inl ⟨_,_,rfl,run_takeDeferred hK',?_⟩⟩
  have hr3:=cell_kept ((hb3.set (.int .u32 (upN s fr by_ ys:Nat))).other (B':=w.heap.size+1+1+1+1) (by omega) (.int .i64 0)).cell (grownBy_putObj' _ D (.deferred none)) (fun r e=>by cases e;exact⟨_,hK',rfl⟩)
  have hr4:=cell_kept ((hb4.other (B':=w.heap.size+1+1+1) (by omega) (.int .u32 (upN s fr by_ ys:Nat))).set (.int .i64 0)).cell (grownBy_putObj' _ D (.deferred none)) (fun r e=>by cases e;exact⟨_,hK',rfl⟩)
  refine⟨.tuple #[.int .u32 (upN s fr by_ ys:Nat),.int .i64 0],?_,by rw [HN.out,HE.out],((hB.setCell (p:=⟨w.heap.size+1+1+1,0,none⟩) (by simp;omega) _).setCell (p:=⟨w.heap.size+1+1+1+1,0,none⟩) (by simp;omega) _).trans (belowK_b (w:=w) (Nat.le_refl _) _ D _ _ (by simp at hD;omega) hK' rfl rfl)⟩
  simp [results,Tryz.f168,go_sem,hr3,hr4]
 case stop =>
  rintro D c pre W hD _ ⟨⟨⟨rfl,hbad⟩,hb3,hb4⟩,hB⟩ hK
  have hbd:liftBad fr by_ (dimsOf s)=true:=by
   simp only [liftBad,List.any_eq_true] at hbad
   obtain⟨k,hk,hkb⟩:=hbad
   exact liftBad_mem (inS_mem hk) hkb
  have hE:=HBad.out hbd
  have HN:Hid (liftN s fr by_=0):=hE.1
  have HE:Hid (liftE s fr by_=10):=hE.2
  clear hE hbad hbd
  gi_wp2
  refine⟨by simp,.inl ⟨_,_,rfl,run_takeDeferred hK,?_⟩⟩
  have hr3:=cell_kept hb3.cell (grownBy_putObj' _ D (.deferred none)) (fun r e=>by cases e;exact⟨_,hK,rfl⟩)
  have hr4:=cell_kept hb4.cell (grownBy_putObj' _ D (.deferred none)) (fun r e=>by cases e;exact⟨_,hK,rfl⟩)
  refine⟨.tuple #[.int .u32 0,.int .i64 10],?_,by rw [HN.out,HE.out];rfl,hB.trans (belowK_b (w:=w) (Nat.le_refl _) W D _ _ (by simp at hD;omega) hK rfl rfl)⟩
  simp [results,Tryz.f168,go_sem,hr3,hr4]
theorem lift_any (s:Nat) (fr by_:Int) (w:World) (hs:s<4294967296) :
  Calls Tryz.prog 168 #[.int .u32 s,.int .i64 fr,.int .i64 by_] w fun e W'=>e=.returned (.tuple #[.int .u32 (liftN s fr by_:Nat),.int .i64 (liftE s fr by_)])/\Below w.heap.size w W':=by
 by_cases h0:0<=fr
 ·by_cases h1:0<=by_
  ·exact lift_loop s fr by_ w hs h0 h1
  ·have HE:=lift_arg (s:=s) (argB_by (from_:=fr) (by_:=by_) (by omega))
   have HN:Hid (liftN s fr by_=0):=HE.1
   have HE2:Hid (liftE s fr by_=2):=HE.2
   clear HE
   go_enter Tryz.func168,Tryz.ntmps168
   go_wp2
   refine bodyPost_ret (v:=.tuple #[.int .u32 0,.int .i64 2]) (by simp [results,Tryz.results168,go_sem]) rfl ⟨by rw [HN.out,HE2.out];rfl,?_⟩
   exact (((((Below.refl _ w).alloc (Nat.le_refl _) _).alloc (by simp) _).alloc (by simp;omega) _).alloc (by simp;omega) _).alloc (by simp;omega) _
 ·have HE:=lift_arg (s:=s) (argB_from (from_:=fr) (by_:=by_) (by omega))
  have HN:Hid (liftN s fr by_=0):=HE.1
  have HE2:Hid (liftE s fr by_=2):=HE.2
  clear HE
  go_enter Tryz.func168,Tryz.ntmps168
  go_wp2
  refine bodyPost_ret (v:=.tuple #[.int .u32 0,.int .i64 2]) (by simp [results,Tryz.results168,go_sem]) rfl ⟨by rw [HN.out,HE2.out];rfl,?_⟩
  exact (((((Below.refl _ w).alloc (Nat.le_refl _) _).alloc (by simp) _).alloc (by simp;omega) _).alloc (by simp;omega) _).alloc (by simp;omega) _
theorem liftN_lt32 (s:Nat) (fr by_:Int):liftN s fr by_<4294967296:=Nat.lt_trans (liftN_lt s fr by_) (by decide)
def liftC (c:C) (fr by_:Int):C:=if rightC c=true/\liftE c.1.val fr by_=0/\liftE c.2.val fr by_=0 then (⟨liftN c.1.val fr by_,liftN_lt32 _ _ _⟩,⟨liftN c.2.val fr by_,liftN_lt32 _ _ _⟩) else cl00
def liftCE (c:C) (fr by_:Int):Int:=if rightC c=true then (if liftE c.1.val fr by_=0 then liftE c.2.val fr by_ else liftE c.1.val fr by_) else 2
structure Kept (w W:World) (c:C):Prop where
 below:Below w.heap.size w W
 size:w.heap.size+2<=W.heap.size
 c0:W.cell? ⟨w.heap.size,0,none⟩=some (.int .u32 (c.1.val:Int))
 c1:W.cell? ⟨w.heap.size,1,none⟩=some (.int .u32 (c.2.val:Int))
 y0:W.cell? ⟨w.heap.size+1,0,none⟩=some (.int .u32 0)
 y1:W.cell? ⟨w.heap.size+1,1,none⟩=some (.int .u32 0)
 z0:W.frozen? ⟨w.heap.size+1,0,none⟩=false
 z1:W.frozen? ⟨w.heap.size+1,1,none⟩=false
theorem Kept.next {w W W':World} {c:C} (h:Kept w W c) (hb:Below W.heap.size W W'):Kept w W' c:=by
 have hs:=h.size
 exact⟨chain h.below hb,Nat.le_trans h.size hb.size,(hb.cell (p:=⟨w.heap.size,0,none⟩) (by show w.heap.size<_;omega)).trans h.c0,(hb.cell (p:=⟨w.heap.size,1,none⟩) (by show w.heap.size<_;omega)).trans h.c1,
  (hb.cell (p:=⟨w.heap.size+1,0,none⟩) (by show w.heap.size+1<_;omega)).trans h.y0,(hb.cell (p:=⟨w.heap.size+1,1,none⟩) (by show w.heap.size+1<_;omega)).trans h.y1,
  (hb.frozen (p:=⟨w.heap.size+1,0,none⟩) (by show w.heap.size+1<_;omega)).trans h.z0,(hb.frozen (p:=⟨w.heap.size+1,1,none⟩) (by show w.heap.size+1<_;omega)).trans h.z1⟩
theorem Kept.start (w:World) (c:C):Kept w ((w.alloc (.cells #[.int .u32 (c.1.val:Int),.int .u32 (c.2.val:Int)] 38)).alloc (.cells #[.int .u32 0,.int .u32 0] 38)) c :=
 ⟨(below_alloc w _).alloc (by simp) _,by simp,by simp [go_sem],by simp [go_sem],by simp [go_sem],by simp [go_sem],by simp [go_sem],by simp [go_sem]⟩
theorem ret_lift {a b:C} {x y:Int} (h1:a=b) (h2:x=y):Ending.returned (.tuple #[clV a,.int .i64 x])=.returned (.tuple #[clV b,.int .i64 y]):=by rw [h1,h2]
theorem clift_any (c:C) (fr by_:Int) (w:World) :
  Calls Tryz.prog 118 #[clV c,.int .i64 fr,.int .i64 by_] w fun e w'=>e=.returned (.tuple #[clV (liftC c fr by_),.int .i64 (liftCE c fr by_)])/\Below w.heap.size w w':=by
 have h1:=c.1.isLt
 have h2:=c.2.isLt
 have hK:=Kept.start w c
 have hK0:∀ {W:World},Kept w W c->Kept w W c:=fun h=>h
 cases hr:rightC c
 ·have H1:Hid (liftC c fr by_=cl00):=if_neg (by simp [hr])
  have H2:Hid (liftCE c fr by_=2):=if_neg (by simp [hr])
  go_enter Tryz.func118,Tryz.ntmps118
  go_wp2_with (first
   | (go_at_call 150;refine (cright_any _ _).mono ?_;rintro e w2 ⟨rfl,hG⟩;replace hK:=hK.next hG.below;obtain⟨hB,hs,c0,c1,y0,y1,z0,z1⟩:=hK0 hK)
   | (go_at_call 168;refine (lift_any _ _ _ _ (by assumption)).mono ?_;rintro e w3 ⟨rfl,hB3⟩;replace hK:=hK.next hB3;obtain⟨hB,hs,c0,c1,y0,y1,z0,z1⟩:=hK0 hK))
  exact bodyPost_ret (v:=.tuple #[.agg #[.int .u32 0,.int .u32 0],.int .i64 2]) (by simp [results,Tryz.results118,go_sem, *]) rfl ⟨ret_lift H1.out.symm H2.out.symm,(hK.below.setCell (by simp) _).setCell (by simp) _⟩
 ·by_cases g1:liftE c.1.val fr by_=0
  ·by_cases g2:liftE c.2.val fr by_=0
   ·have H1:Hid (liftC c fr by_=(⟨liftN c.1.val fr by_,liftN_lt32 _ _ _⟩,⟨liftN c.2.val fr by_,liftN_lt32 _ _ _⟩)):=if_pos ⟨hr,g1,g2⟩
    have H2:Hid (liftCE c fr by_=0):=(if_pos hr).trans ((if_pos g1).trans g2)
    go_enter Tryz.func118,Tryz.ntmps118
    go_wp2_with (first
   | (go_at_call 150;refine (cright_any _ _).mono ?_;rintro e w2 ⟨rfl,hG⟩;replace hK:=hK.next hG.below;obtain⟨hB,hs,c0,c1,y0,y1,z0,z1⟩:=hK0 hK)
   | (go_at_call 168;refine (lift_any _ _ _ _ (by assumption)).mono ?_;rintro e w3 ⟨rfl,hB3⟩;replace hK:=hK.next hB3;obtain⟨hB,hs,c0,c1,y0,y1,z0,z1⟩:=hK0 hK))
    exact bodyPost_ret (v:=.tuple #[.agg #[.int .u32 (liftN c.1.val fr by_:Nat),.int .u32 (liftN c.2.val fr by_:Nat)],.int .i64 0]) (by simp [results,Tryz.results118,go_sem, *]) rfl ⟨ret_lift H1.out.symm H2.out.symm,(hK.below.setCell (by simp) _).setCell (by simp) _⟩
   ·have H1:Hid (liftC c fr by_=cl00):=if_neg (fun h=>g2 h.2.2)
    have H2:Hid (liftCE c fr by_=liftE c.2.val fr by_):=(if_pos hr).trans (if_pos g1)
    go_enter Tryz.func118,Tryz.ntmps118
    go_wp2_with (first
   | (go_at_call 150;refine (cright_any _ _).mono ?_;rintro e w2 ⟨rfl,hG⟩;replace hK:=hK.next hG.below;obtain⟨hB,hs,c0,c1,y0,y1,z0,z1⟩:=hK0 hK)
   | (go_at_call 168;refine (lift_any _ _ _ _ (by assumption)).mono ?_;rintro e w3 ⟨rfl,hB3⟩;replace hK:=hK.next hB3;obtain⟨hB,hs,c0,c1,y0,y1,z0,z1⟩:=hK0 hK))
    exact bodyPost_ret (v:=.tuple #[.agg #[.int .u32 0,.int .u32 0],.int .i64 (liftE c.2.val fr by_)]) (by simp [results,Tryz.results118,go_sem, *]) rfl ⟨ret_lift H1.out.symm H2.out.symm,(hK.below.setCell (by simp) _).setCell (by simp) _⟩
  ·have H1:Hid (liftC c fr by_=cl00):=if_neg (fun h=>g1 h.2.1)
   have H2:Hid (liftCE c fr by_=liftE c.1.val fr by_):=(if_pos hr).trans (if_neg g1)
   go_enter Tryz.func118,Tryz.ntmps118
   go_wp2_with (first
   | (go_at_call 150;refine (cright_any _ _).mono ?_;rintro e w2 ⟨rfl,hG⟩;replace hK:=hK.next hG.below;obtain⟨hB,hs,c0,c1,y0,y1,z0,z1⟩:=hK0 hK)
   | (go_at_call 168;refine (lift_any _ _ _ _ (by assumption)).mono ?_;rintro e w3 ⟨rfl,hB3⟩;replace hK:=hK.next hB3;obtain⟨hB,hs,c0,c1,y0,y1,z0,z1⟩:=hK0 hK))
   exact bodyPost_ret (v:=.tuple #[.agg #[.int .u32 0,.int .u32 0],.int .i64 (liftE c.1.val fr by_)]) (by simp [results,Tryz.results118,go_sem, *]) rfl ⟨ret_lift H1.out.symm H2.out.symm,(hK.below.setCell (by simp) _).setCell (by simp) _⟩
def stepL (fr by_:Int) (a:List C × Int) (c:C):List C × Int:=if a.2=0 then (if liftCE c fr by_=0 then (a.1 ++ [liftC c fr by_],0) else ([],liftCE c fr by_)) else a
def liftS (l:List C) (fr by_:Int):List C × Int:=l.foldl (stepL fr by_) ([],0)
def liftFF (l:List C) (fr by_:Int):List C × Int:=if rightF l then (if (liftS l fr by_).2=0 then leastF (liftS l fr by_).1 else ([],(liftS l fr by_).2)) else ([],2)
theorem liftS_snoc (l:List C) (c:C) (fr by_:Int):liftS (l ++ [c]) fr by_=stepL fr by_ (liftS l fr by_) c:=by simp [liftS]
theorem liftS_len (l:List C) (fr by_:Int):(liftS l fr by_).1.length<=l.length:=by
 induction l using snoc_ind with
 | nil=>simp [liftS]
 | snoc l c ih =>
  rw [liftS_snoc]
  unfold stepL
  split
  ·split
   ·simp;omega
   ·simp
  ·simp;omega
theorem liftS_take_step {l:List C} {fr by_:Int} {k:Nat} {c:C} (h:l[k]? = some c) (h0:(liftS (l.take k) fr by_).2=0):liftS (l.take (k+1)) fr by_=if liftCE c fr by_=0 then ((liftS (l.take k) fr by_).1 ++ [liftC c fr by_],0) else ([],liftCE c fr by_):=by
 have e:l.take (k+1)=l.take k ++ [c]:=by rw [List.take_add_one,h];rfl
 rw [e,liftS_snoc,stepL,if_pos h0]
theorem liftS_stuck {l:List C} {fr by_:Int} (k:Nat) (h:(liftS (l.take k) fr by_).2≠0):liftS l fr by_=liftS (l.take k) fr by_:=by
 have e:liftS l fr by_=(l.drop k).foldl (stepL fr by_) (liftS (l.take k) fr by_):=by
  unfold liftS
  rw [<- List.foldl_append,List.take_append_drop]
 rw [e,foldl_stuck (stepL fr by_) (fun a c ha=>by unfold stepL;rw [if_neg ha]) h]
theorem row_one1 (w:World) (o:Obj) (c:C):CRow ((w.alloc o).alloc (.cells #[.int .u32 (c.1.val:Int),.int .u32 (c.2.val:Int)] 38)) (.slice (some ⟨w.heap.size+1,0,none⟩) 1 1) [c]:=by
 have h:=row_one (w.alloc o) c
 rw [World.size_alloc] at h
 exact h
theorem lift1_any (M:List C) (v:Value) (c:C) (fr by_:Int) (B1 B2 base:Nat) (w:World) (h1:Boxed w B1 3 (.int .i64 fr)) (h2:Boxed w B2 3 (.int .i64 by_)) (hO:OwnsC w base v M) (hb:base<=w.heap.size) (hM:M.length<=100000) :
  Calls Tryz.prog 117 #[v,clV c,.pointer (some ⟨B1,0,none⟩),.pointer (some ⟨B2,0,none⟩)] w
   fun e w'=>∃ v',e=.returned (.tuple #[v',.int .i64 (liftCE c fr by_)])/\OwnsC w' base v' (M ++ [liftC c fr by_])/\Below base w w':=by
 have hB0:=below_alloc w (.cells #[.int .u32 (c.1.val:Int),.int .u32 (c.2.val:Int)] 38)
 have y1:=(boxed_below h1 hB0).cell
 have y2:=(boxed_below h2 hB0).cell
 have n1:B1≠w.heap.size:=by have:=h1.lt;omega
 have n2:B2≠w.heap.size:=by have:=h2.lt;omega
 have hO0:=OwnsC.below hO hB0
 clear h1 h2
 obtain⟨pv,cv,rfl⟩:=OwnsC.len hO
 have HM:Hid (M.length + [liftC c fr by_].length<=200000):=by show M.length+1<=200000;omega
 go_enter Tryz.func117,Tryz.ntmps117
 go_wp2_with fail
 generalize w.alloc (.cells #[.int .u32 (c.1.val:Int),.int .u32 (c.2.val:Int)] 38)=wb at hB0 y1 y2 hO0 ⊢
 refine (clift_any c fr by_ wb).mono ?_
 rintro e w1 ⟨rfl,hB1⟩
 clear y1 y2
 have hO1:=OwnsC.below hO0 hB1
 have hb1:base<=w1.heap.size:=Nat.le_trans hb (chain hB0 hB1).size
 go_wp2_with (at_builtin;refine wpList_append_row rfl _ _ rfl base _ _ M [liftC c fr by_] rfl rfl (OwnsC.below (OwnsC.below hO1 (below_alloc w1 (.cells #[.int .u32 ((liftC c fr by_).1.val:Int),.int .u32 ((liftC c fr by_).2.val:Int)] 38))) (below_alloc _ _)) (row_one1 _ _ _) HM.out (Nat.le_trans hb1 (by simp;omega)) ?_;intro v4 w4 hO4 hg4 hv4)
 have bX:=chain (chain hB0 hB1) (chain (below_alloc w1 (.cells #[.int .u32 ((liftC c fr by_).1.val:Int),.int .u32 ((liftC c fr by_).2.val:Int)] 38)) (below_alloc _ (.cells #[.int .u32 ((liftC c fr by_).1.val:Int),.int .u32 ((liftC c fr by_).2.val:Int)] 38)))
 have hOX:=OwnsC.below (OwnsC.below hO1 (below_alloc w1 (.cells #[.int .u32 ((liftC c fr by_).1.val:Int),.int .u32 ((liftC c fr by_).2.val:Int)] 38))) (below_alloc _ (.cells #[.int .u32 ((liftC c fr by_).1.val:Int),.int .u32 ((liftC c fr by_).2.val:Int)] 38))
 have hBB:=(bX.mono hb).trans (own_grown hOX hg4 (Nat.le_trans hb bX.size))
 obtain⟨p4,q4,rfl⟩:=OwnsC.len hO4
 go_ret2
 exact⟨_,rfl,hO4,hBB⟩
theorem fold_lift (l:List C) (vl:Value) (fr by_:Int) (B1 B2:Nat) (w:World) (hl:CRow w vl l) (hll:l.length<=40000) (h1:Boxed w B1 3 (.int .i64 fr)) (h2:Boxed w B2 3 (.int .i64 by_)) :
  Calls Tryz.prog 116 #[vl,.slice none 0 0,.func (.func 117) #[] #[.pointer (some ⟨B1,0,none⟩),.pointer (some ⟨B2,0,none⟩)]] w
   fun e w'=>∃ v',e=.returned (.tuple #[v',.int .i64 (liftS l fr by_).2])/\OwnsC w' w.heap.size v' (liftS l fr by_).1/\Below w.heap.size w w':=by
 have eg:∀ args w,(callFunc 117 args).run Tryz.prog w=.ok (.enter 117 args) w:=enters_of Tryz.func117 (by kernel_rfl) rfl
 refine (foldCR_any 117 _ eg l vl _ w w hl (by omega) (fun k v W=>OwnsC W w.heap.size v (liftS (l.take k) fr by_).1/\(liftS (l.take k) fr by_).2=0) (fun er=>liftS l fr by_=([],er)) (fun k v W W' h hb=>⟨OwnsC.below h.1 hb,h.2⟩) (Below.refl _ _) ⟨World.ownsRow_nil _ _ _ _,rfl⟩ (fun k c v W hk hW hI=>?_)).mono ?_
 ·have hlen:(liftS (l.take k) fr by_).1.length<=100000:=by
   have h1:=liftS_len (l.take k) fr by_
   have h2:(l.take k).length<=l.length:=by rw [List.length_take];omega
   omega
  refine (lift1_any _ v c fr by_ B1 B2 w.heap.size W (boxed_below h1 hW) (boxed_below h2 hW) hI.1 hW.size hlen).mono ?_
  rintro e w' ⟨v',rfl,hO,hB'⟩
  refine⟨hW.trans hB',v',_,rfl,?_⟩
  have hst:=liftS_take_step (fr:=fr) (by_:=by_) hk hI.2
  by_cases h0:liftCE c fr by_=0
  ·rw [if_pos h0] at hst
   exact .inl ⟨h0,by rw [hst];exact hO,by rw [hst]⟩
  ·rw [if_neg h0] at hst
   refine .inr ⟨h0,?_⟩
   rw [liftS_stuck (k+1) (by rw [hst];exact h0),hst]
 ·rintro e w' ⟨hB',v',er,rfl,⟨rfl,hO,hz⟩ | ⟨hne,rfl,hq⟩⟩
  ·rw [List.take_length] at hO hz
   exact⟨v',by rw [hz],hO,hB'⟩
  ·rw [hq]
   exact⟨_,rfl,World.ownsRow_nil _ _ _ _,hB'⟩
theorem Lift_any (l:List C) (fr by_:Int) (vl:Value) (w:World) (hl:FRow w vl l) (hll:l.length<=40000) :
  Calls Tryz.prog 45 #[vl,.int .i64 fr,.int .i64 by_] w fun e w'=>∃ v,e=.returned (.tuple #[v,.int .i64 (liftFF l fr by_).2])/\OwnsC w' w.heap.size v (liftFF l fr by_).1/\Below w.heap.size w w':=by
 have HJ:Hid (liftFF l fr by_=if rightF l then (if (liftS l fr by_).2=0 then leastF (liftS l fr by_).1 else ([],(liftS l fr by_).2)) else ([],2)):=rfl
 have hB:Below w.heap.size w ((w.alloc (.cells #[.int .i64 fr] 3)).alloc (.cells #[.int .i64 by_] 3)):=(below_alloc w _).alloc (by simp) _
 have b1:Boxed ((w.alloc (.cells #[.int .i64 fr] 3)).alloc (.cells #[.int .i64 by_] 3)) w.heap.size 3 (.int .i64 fr):=(Boxed.new w _ _).alloc _
 have b2:Boxed ((w.alloc (.cells #[.int .i64 fr] 3)).alloc (.cells #[.int .i64 by_] 3)) (w.heap.size+1) 3 (.int .i64 by_):=by
  have h:=Boxed.new (w.alloc (.cells #[.int .i64 fr] 3)) 3 (.int .i64 by_)
  rw [World.size_alloc] at h
  exact h
 have c1:=fun W (h:Below w.heap.size w W)=>fright_any l vl W (hl.below h) (by omega)
 have c2:=fun W (h:Below w.heap.size w W) (b1:Boxed W w.heap.size 3 (.int .i64 fr)) (b2:Boxed W (w.heap.size+1) 3 (.int .i64 by_))=>fold_lift l vl fr by_ w.heap.size (w.heap.size+1) W (hl.row.below h) hll b1 b2
 have hlen:=liftS_len l fr by_
 obtain⟨pl,cl,rfl⟩:=hl.len
 clear hl
 generalize liftS l fr by_=P at c2 HJ hlen
 obtain⟨M,er⟩:=P
 dsimp only at c2 HJ hlen
 have HLen:Hid (M.length<=100000):=by show M.length<=100000;omega
 clear hlen
 cases hf:rightF l
 ·rw [hf] at HJ
  go_enter Tryz.func45,Tryz.ntmps45
  go_wp2_with fail
  generalize ((w.alloc (.cells #[.int .i64 fr] 3)).alloc (.cells #[.int .i64 by_] 3))=wb at hB b1 b2 ⊢
  refine (c1 wb hB).mono ?_
  rintro e w1 ⟨rfl,hB1⟩
  rw [hf]
  clear c1
  replace hB:=chain hB hB1
  go_wp2
  go_ret2
  rw [HJ.out]
  exact⟨_,rfl,World.ownsRow_nil _ _ _ _,hB⟩
 ·rw [hf] at HJ
  go_enter Tryz.func45,Tryz.ntmps45
  go_wp2_with fail
  generalize ((w.alloc (.cells #[.int .i64 fr] 3)).alloc (.cells #[.int .i64 by_] 3))=wb at hB b1 b2 ⊢
  refine (c1 wb hB).mono ?_
  rintro e w1 ⟨rfl,hB1⟩
  rw [hf]
  clear c1
  replace b1:=boxed_below b1 hB1
  replace b2:=boxed_below b2 hB1
  replace hB:=chain hB hB1
  replace c2:=c2 w1 hB b1 b2
  clear b1 b2
  go_wp2_with fail
  refine c2.mono ?_
  rintro e w2 ⟨v2,rfl,hO2,hB2⟩
  clear c2
  by_cases h0:er=0
  ·subst h0
   have HE:Hid (liftFF l fr by_=leastF M):=HJ.out
   have c3:=leastC M v2 w2 (OwnsC.row hO2) HLen.out
   obtain⟨p2,q2,rfl⟩:=OwnsC.len hO2
   go_wp2_with fail
   refine c3.mono ?_
   rintro e w3 ⟨v3,rfl,hO3,hB3⟩
   clear c3
   go_wp2
   go_ret2
   rw [HE.out]
   exact⟨_,rfl,OwnsC.mono hO3 (chain hB hB2).size,chain (chain hB hB2) hB3⟩
  ·have HE:Hid (liftFF l fr by_=([],er)):=HJ.out.trans (by simp [h0])
   obtain⟨p2,q2,rfl⟩:=OwnsC.len hO2
   go_wp2
   go_ret2
   rw [HE.out]
   exact⟨_,rfl,World.ownsRow_nil _ _ _ _,chain hB hB2⟩
end Go.Proofs.YtblbhmnahoiecaaGreat
