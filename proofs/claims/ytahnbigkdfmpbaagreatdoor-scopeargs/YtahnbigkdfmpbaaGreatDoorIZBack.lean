/- The names of a list, the last one first; the names that are given. -/
import Derived.RangeFuncNested
import Derived.RangeFuncBound
import Derived.RangeFuncCalls
import Derived.RangeFuncLeaves
import Derived.RangeFuncFrom
import Derived.RangeFuncWrites
import Derived.RangeFuncBox
import Derived.OwnWalkIn
import Derived.TacticsInMore
import Derived.LoopNIn
import Derived.LoopIn
import Derived.Test.YtahnbigkdfmpbaaGreatDoorIZB
set_option linter.unusedVariables false
set_option linter.unusedSimpArgs false
namespace Go.Proofs.YtahnbigkdfmpbaaGreatDoor
open Go.RowKit Go.Maps Go.WideMaps
attribute [local go_sem] Oper.semAt_some
def bkR (ns:List Bs):List (Nat × Bs):=(ns.zipIdx.map fun p=>(p.2,p.1)).reverse
theorem bk_len (ns:List Bs):(bkR ns).length=ns.length:=by simp [bkR]
theorem bk_snd (ns:List Bs):(bkR ns).map Prod.snd=ns.reverse:=by
 have e:(Prod.snd ∘ fun p:Bs × Nat=>(p.2,p.1))=Prod.fst:=rfl
 simp [bkR,List.map_reverse,e,List.zipIdx_map_fst]
theorem bk_at {ns:List Bs} {k:Nat} {x:Bs} (hk:k<ns.length) (hx:ns[ns.length - 1 - k]? = some x):(bkR ns)[k]? = some (ns.length - 1 - k,x):=by
 unfold bkR
 rw [List.getElem?_reverse (by simpa using hk)]
 simp [hx]
def clipB (x:Bs):Bs:=x.take 1000000
theorem clip_len (x:Bs):(clipB x).length≤1000000:=by unfold clipB;rw [List.length_take];omega
theorem clip_of {x:Bs} (h:x.length≤1000000):clipB x=x:=List.take_of_length_le h
theorem bk_clip {ns:List Bs} (h:∀ x∈ns,x.length≤1000000):(bkR ns).map (fun x=>clipB x.2)=ns.reverse:=by
 rw [← bk_snd]
 refine List.map_congr_left fun p hp=>clip_of (h p.2 ?_)
 have:p.2∈(bkR ns).map Prod.snd:=List.mem_map_of_mem hp
 rw [bk_snd] at this
 simpa using this
abbrev encB (x:Nat × Bs):Array Value:=#[.int .i64 ((x.1:Nat):Int),.string (bs (clipB x.2))]
set_option maxRecDepth 100000 in
set_option maxHeartbeats 2000000 in
theorem back_stops (n:Nat) (hn:1≤n) (No:Nat→Prop) (ns:List Bs) (v:Value) (x:Nat) (w:World) (hv:NmK No w ns v) (hx:No x) (hb:w.heap[x]? = some (.cells #[v] 23 (0,0))) (hl:ns.length≤100000000) (hc:∀ x∈ns,x.length≤1000000) :
  SeqStopsK Fence.wide n Tryz.prog 65 #[.pointer (some ⟨x,0,none⟩)] encB (Kn No) (fun xs=>xs=bkR ns) (fun _=>True) ns.length w:=fun l J Jx W hW _ _ hY h0=>by
 obtain⟨a,cap,rfl,hv⟩:=hv
 obtain⟨m,hm⟩:∃ m,m=ns.length:=⟨_,rfl⟩
 have Hm:Hid (m=ns.length):=hm
 rw [← hm] at hl hY
 clear hm
 have hxl:x<w.heap.size:=(Array.getElem?_eq_some_iff.1 hb).1
 have hbW:W.heap[x]? = some (.cells #[.slice a m cap] 23 (0,0)):=by rw [Hm.out];exact (hW.block x hxl).trans hb
 have cv:W.cell? ⟨x,0,none⟩=some (.slice a m cap):=by unfold World.cell?; simp [hbW]
 refine callsIn_of_wp Tryz.func65 rfl trivial ?_ rfl
 simp only [Tryz.ntmps65,List.size_toArray,List.length_cons,List.length_nil,Nat.reduceAdd,Nat.reduceSub,Array.replicate_succ,Array.replicate_zero,List.push_toArray,List.append_toArray,List.nil_append,List.cons_append]
 gi_wp2
 gi_loopw [3] (fun i wr=>∃ k:Nat,k≤m∧i=.int .i64 ((m:Int) - 1 - k)∧J ((bkR ns).take k) wr∧Kn No W wr) (fun i _=>(intOf i+1).toNat)
 case atStart=>exact⟨0,Nat.zero_le _,by simp,by simpa using h0,Kn.refl _ _⟩
 case round =>
  obtain⟨k,hk,rfl,hJs,hKn⟩:=hrel
  by_cases hlt:k<m
  ·obtain⟨y,hy⟩:=someS (l:=ns) (k:=m - 1 - k) (by rw [← Hm.out];omega)
   have hat:(bkR ns)[k]? = some (m - 1 - k,y):=by rw [Hm.out];exact bk_at (by rw [← Hm.out];exact hlt) (by rw [← Hm.out];exact hy)
   have htk:Hid ((bkR ns).take (k+1)=(bkR ns).take k ++ [(m - 1 - k,y)]):=by
    obtain⟨h1,e⟩:=List.getElem?_eq_some_iff.1 hat
    show _=_
    rw [List.take_succ_eq_append_getElem h1,e]
   obtain⟨g,off,rfl,hNg,hg,cy⟩:=hv _ y hy
   have hgW:g<W.heap.size:=Nat.lt_of_lt_of_le hg hW.size
   have cyr:wr.cell? ⟨g,off+(m - 1 - k),none⟩=some (.string (bs y)):=(hKn.cell (p:=⟨g,off+(m - 1 - k),none⟩) hNg hgW).trans ((hW.cell (p:=⟨g,off+(m - 1 - k),none⟩) hg).trans cy)
   have cvr:wr.cell? ⟨x,0,none⟩=some (.slice (some ⟨g,off,none⟩) m cap):=(hKn.cell (p:=⟨x,0,none⟩) hx (Nat.lt_of_lt_of_le hxl hW.size)).trans cv
   obtain⟨fn,tmps,assign,body,hyl,hR⟩:=hY _ (m - 1 - k,y) wr hJs (by rw [List.length_take,bk_len,← Hm.out];omega)
   rw [← htk.out] at hR
   obtain⟨j,hj⟩:∃ j,j=m - 1 - k:=⟨_,rfl⟩
   have hji:(m:Int) - 1 - k=(j:Int):=by omega
   rw [← hj] at cyr hyl
   dsimp only [encB] at hyl
   rw [clip_of (hc y (List.mem_of_getElem? hy))] at hyl
   rw [hji]
   have hjm:j<m:=by omega
   have Hj:Hid (j=m - 1 - k):=hj
   clear hj hji hat
   gi_wp2
   refine hR.mono ?_
   rintro e W3 (⟨rfl,hJ3,hk3⟩ | ⟨rfl,hJx3⟩)
   ·gi_wp2
    go_roundw
    case rel=>exact⟨k+1,by omega,by have:=Hj.out;congr 1;omega,hJ3,hKn.trans hk3⟩
    case measure=>simp only [intOf];omega
   ·gi_wp2
    refine bodyPost_ret (results_none rfl _ _ _) rfl ?_
    exact⟨⟨_,rfl⟩,.inr ⟨_,trivial,hJx3⟩⟩
  ·obtain rfl:k=m:=by omega
   have e:(bkR ns).take k=bkR ns:=List.take_of_length_le (by rw [bk_len,← Hm.out];exact Nat.le_refl _)
   rw [e] at hJs
   have ek:(k:Int) - 1 - k = -1:=by omega
   rw [ek]
   gi_wp2
   go_end0
   exact⟨⟨_,rfl⟩,.inl ⟨_,rfl,hJs⟩⟩
set_option maxRecDepth 100000 in
set_option maxHeartbeats 1000000 in
theorem backward_any (a:Option Addr) (n cap:Nat) (w:World):Calls Tryz.prog 39 #[.slice a n cap] w fun e w'=>e=.returned (.func (.func 65) #[] #[.pointer (some ⟨w.heap.size,0,none⟩)])∧w'=w.alloc (.cells #[.slice a n cap] 23):=by
 go_enter Tryz.func39,Tryz.ntmps39
 go_wp2
 go_ret
 exact⟨rfl,rfl⟩
theorem kn_putObj {No:Nat→Prop} {W:World} {l:Nat} {o':Obj} (h:∀ g,No g→g≠l):Kn No W (W.putObj l o'):=by
 have hg:=grownBy_putObj' W l o'
 exact⟨hg.os,hg.tape,hg.output,hg.size,fun k hk hb=>hg.block k hb fun e=>h k hk (by injection e)⟩
theorem kn_grown {W W':World} {row:Option Nat} (hg:W.grownBy W' row):Kn (fun g=>some g≠row) W W':=⟨hg.os,hg.tape,hg.output,hg.size,fun k hk hb=>hg.block k hb hk⟩
theorem NmMem.rows {w:World} {b base n:Nat} {U:List Bs} (h:NmMem w b base n U) {es:Array MapEntry} {clock:Nat} (hb:w.heap[b]? = some (.map es clock)) {x:MapEntry} (hx:x∈es.toList) {g:Nat} (hg:x.val.ownBlock=some g):base≤g∧∃ cs t f,w.heap[g]? = some (.cells cs t f):=by
 obtain⟨D,⟨es',clock',hb',F,_⟩,_⟩:=h
 obtain⟨rfl,rfl⟩:es'=es∧clock'=clock:=by rw [hb'] at hb;simpa using hb
 obtain⟨y,hy⟩:=F.reads x hx
 obtain⟨z,hz,_⟩:=Go.WideElems.rd_val hy
 obtain⟨zs,ho,_⟩:=rowElem_inv hz
 obtain⟨h1,h3⟩:=ho.1
 rcases h3 with h3|⟨g',cap,cur,e,hg',hh,r⟩
 ·rw [h3.1] at hg
  cases hg
 ·rw [e] at hg
  cases hg
  exact⟨hg',_,_,_,hh⟩
structure FirstW (w:World) (s:Nat) (a:Option Addr) (n cap:Nat) (w4:World):Prop where
 size:w4.heap.size=s+4
 old:Below s w w4
 res:w4.heap[s]? = some (.cells #[.int .i64 0,.map none] 77 (0,0))
 map:w4.heap[s+1]? = some (.map #[] 0)
 var:w4.heap[s+2]? = some (.cells #[.int .i64 0,.map (some (s+1))] 77 (0,0))
 box:w4.heap[s+3]? = some (.cells #[.slice a n cap] 23 (0,0))
 mem:NmMem w4 (s+1) (s+2) 0 []
theorem FirstW.made {w:World} {s:Nat} {a:Option Addr} {n cap:Nat} {w4:World} (hs:s=w.heap.size) (e:w4=((((w.alloc (.cells #[.int .i64 0,.map none] 77)).alloc (.map #[] 0)).alloc (.cells #[.int .i64 0,.map (some (s+1))] 77)).alloc (.cells #[.slice a n cap] 23))):FirstW w s a n cap w4:=by
 obtain⟨w1,h1⟩:∃ w1,w1=w.alloc (.cells #[.int .i64 0,.map none] 77):=⟨_,rfl⟩
 obtain⟨w2,h2⟩:∃ w2,w2=w1.alloc (.map #[] 0):=⟨_,rfl⟩
 obtain⟨w3,h3⟩:∃ w3,w3=w2.alloc (.cells #[.int .i64 0,.map (some (s+1))] 77):=⟨_,rfl⟩
 rw [← h1,← h2,← h3] at e
 have s1:w1.heap.size=s+1:=by rw [h1,hs];simp
 have s2:w2.heap.size=s+2:=by rw [h2];simp [s1]
 have s3:w3.heap.size=s+3:=by rw [h3];simp [s2]
 have s4:w4.heap.size=s+4:=by rw [e];simp [s3]
 have b1:Below w.heap.size w w1:=by rw [h1];exact below_alloc _ _
 have b2:Below w1.heap.size w1 w2:=by rw [h2];exact below_alloc _ _
 have b3:Below w2.heap.size w2 w3:=by rw [h3];exact below_alloc _ _
 have b4:Below w3.heap.size w3 w4:=by rw [e];exact below_alloc _ _
 have n1:w1.heap[s]? = some (.cells #[.int .i64 0,.map none] 77 (0,0)):=by rw [h1,hs];exact heap_alloc_new w _
 have n2:w2.heap[s+1]? = some (.map #[] 0):=by rw [h2,← s1];exact heap_alloc_new w1 _
 have n3:w3.heap[s+2]? = some (.cells #[.int .i64 0,.map (some (s+1))] 77 (0,0)):=by rw [h3,← s2];exact heap_alloc_new w2 _
 have n4:w4.heap[s+3]? = some (.cells #[.slice a n cap] 23 (0,0)):=by rw [e,← s3];exact heap_alloc_new w3 _
 have b24:Below w2.heap.size w2 w4:=b3.trans (b4.mono b3.size)
 have hM:NmMem w2 (s+1) (s+2) 0 []:=by
  have:=NmMem.made w1
  rw [s1] at this
  rw [h2];exact this
 refine⟨s4,?_,?_,?_,?_,n4,?_⟩
 ·rw [hs];exact (b1.trans (b2.mono b1.size)).trans (b24.mono (Nat.le_trans b1.size b2.size))
 ·exact (b24.block s (by omega)).trans ((b2.block s (by omega)).trans n1)
 ·exact (b24.block (s+1) (by omega)).trans n2
 ·exact (b4.block (s+2) (by omega)).trans n3
 ·exact hM.kn (No:=fun _=>True) (Kn.of_below b24) trivial (fun _ _ _ _ _ _ _=>trivial)
structure FirstJ (w:World) (s:Nat) (U:List Bs) (W:World):Prop where
 nb:NmB W (s+2) 0 (s+1) U.length #[.int .i64 0,.map (some (s+1))] 77
 mem:NmMem W (s+1) (s+2) U.length U
 sh:W.Shuns (s+1) (fun g=>g<s+4)
 res:W.heap[s]? = some (.cells #[.int .i64 0,.map none] 77 (0,0))
 old:Below s w W
 size:s+4≤W.heap.size
def FirstI (w:World) (s:Nat) (pre:List (Nat × Bs)) (W:World):Prop:=FirstJ w s (pre.map fun x=>clipB x.2) W
theorem FirstW.start {w:World} {s:Nat} {a:Option Addr} {n cap:Nat} {w4:World} (h:FirstW w s a n cap w4):FirstI w s [] w4:=by
 refine⟨⟨?_,rfl,Nat.zero_lt_succ _⟩,h.mem,?_,h.res,h.old,by rw [h.size];exact Nat.le_refl _⟩
 ·rw [h.var];rfl
 ·intro es clock hb x hx
  rw [h.map] at hb
  injection hb with hb
  injection hb with h1 h2
  rw [← h1] at hx
  simp at hx
theorem FirstJ.kn {w:World} {s:Nat} {U:List Bs} {W W':World} (h:FirstJ w s U W) {No:Nat→Prop} (hk:Kn No W W') (hN:∀ g,g<s+4→No g) (hr:∀ es clock,W.heap[s+1]? = some (.map es clock)→∀ x∈es.toList,∀ g,x.val.ownBlock=some g→No g) (hs:s≤W.heap.size):FirstJ w s U W' :=
 ⟨h.nb.kn hk (hN _ (by omega)),h.mem.kn hk (hN _ (by omega)) hr,fun es clock e=>h.sh es clock ((hk.block (s+1) (hN _ (by omega)) h.mem.lt).symm.trans e),(hk.block s (hN _ (by omega)) (by have:=h.size;omega)).trans h.res,h.old.trans (hk.below (fun g hg=>hN g (by omega)) hs),Nat.le_trans h.size hk.size⟩
theorem cell_new0 (w:World) (v:Value) (t:TypeId):(w.alloc (.cells #[v] t)).cell? ⟨w.heap.size,0,none⟩=some v:=by
 have e:=heap_alloc_new w (.cells #[v] t)
 unfold World.cell?
 simp only [e]
 rfl
theorem FirstJ.bind {w:World} {s:Nat} {U:List Bs} {W:World} (h:FirstJ w s U W) (c:Bs) (hc:c.length≤1000000) (hU:U.length≤50000000) {W1:World} (e:W1=W.alloc (.cells #[.string (bs c)] 9)) :
  Calls Tryz.prog 40 #[.pointer (some ⟨s+2,0,none⟩),.slice (some ⟨W.heap.size,0,none⟩) 1 1] W1 fun en W'=>en=.returned (.tuple #[])∧KeepsFrom (s+4) W W'∧Kn (fun g=>g<s+4∧g≠s+1∧g≠s+2) W W'∧FirstJ w s (U ++ [c]) W':=by
 have hb:Below W.heap.size W W1:=by rw [e];exact below_alloc _ _
 have hs1:W1.heap.size=W.heap.size+1:=by rw [e];simp
 have hz:=h.size
 have h1:=h.kn (No:=fun _=>True) (Kn.of_below hb) (fun _ _=>trivial) (fun _ _ _ _ _ _ _=>trivial) (by omega)
 have hrow:∀ g,RB W1 (s+1) g→s+4≤g∧g<W.heap.size∧∃ cs t f,W.heap[g]? = some (.cells cs t f):=by
  rintro g ⟨es,clock,x,hm,hx,hg⟩
  have hm0:W.heap[s+1]? = some (.map es clock):=(hb.block (s+1) (by omega)).symm.trans hm
  obtain⟨_,cs,t,f,hcs⟩:=h.mem.rows hm0 hx hg
  exact⟨Nat.le_of_not_lt fun hl=>h.sh es clock hm0 x hx g hg hl,(Array.getElem?_eq_some_iff.1 hcs).1,cs,t,f,hcs⟩
 have cc:W1.cell? ⟨W.heap.size,0+0,none⟩=some (.string (bs c)):=by rw [e];exact cell_new0 W _ _
 refine (bind_any (s+2) 0 (s+1) (s+2) U.length (fun g=>g<W1.heap.size∧g≠s+1∧¬ RB W1 (s+1) g) _ _ U [c] (.slice (some ⟨W.heap.size,0,none⟩) 1 1) W1 h1.nb h1.mem ?_ ⟨by omega,by omega,fun hR=>?_⟩ (fun hN=>hN.2.1 rfl) ?_ (by simp;omega) (by simp;omega) (by simpa using hc) (by omega) (fun g hg=>hg.1)).mono ?_
 ·exact fun es clock hm x hx g hg hN=>hN.2.2 ⟨es,clock,x,hm,hx,hg⟩
 ·have:=(hrow _ hR).1;omega
 ·refine⟨_,_,rfl,fun j x hx=>?_⟩
  obtain⟨rfl,rfl⟩:j=0∧c=x:=by
   cases j with
   | zero=>simpa using hx
   | succ j=>simp at hx
  exact⟨_,_,rfl,⟨⟨by omega,by omega,fun hR=>by have:=(hrow _ hR).2.1;omega⟩,by omega⟩,by omega,cc⟩
 ·rintro en W' ⟨rfl,k1,k2,k3,k4⟩
  have hN:∀ g,g<s+4→g≠s+1→g≠s+2→(g<W1.heap.size∧g≠s+1∧¬ RB W1 (s+1) g)∧g≠s+2:=fun g h1 h2 h3=>⟨⟨by omega,h2,fun hR=>by have:=(hrow _ hR).1;omega⟩,h3⟩
  have hkn:Kn (fun g=>g<s+4∧g≠s+1∧g≠s+2) W W':=(Kn.of_below hb).trans (k4.sub fun g hg=>hN g hg.1 hg.2.1 hg.2.2)
  refine⟨rfl,⟨hkn.size,fun k o hk ho hoc=>?_⟩,hkn,?_⟩
  ·have hkl:k<W.heap.size:=(Array.getElem?_eq_some_iff.1 ho).1
   refine (k4.block k ⟨⟨by omega,by omega,fun hR=>?_⟩,by omega⟩ (by omega)).trans ((hb.block k hkl).trans ho)
   obtain⟨_,_,cs,t,f,hcs⟩:=hrow _ hR
   rw [hcs] at ho
   injection ho with ho
   subst ho
   cases hoc
  ·refine⟨by rw [List.length_append];exact k1,by rw [List.length_append];exact k2,fun es clock hm x hx g hg hl=>?_,(hkn.block s ⟨by omega,by omega,by omega⟩ (by omega)).trans h.res,h.old.trans (hkn.below (fun g hg=>⟨by omega,by omega,by omega⟩) (by omega)),Nat.le_trans h.size hkn.size⟩
   have hg2:=(k2.rows hm hx hg).1
   refine k3 es clock hm x hx g hg ⟨by omega,by omega,fun hR=>?_⟩
   have:=(hrow _ hR).1;omega
theorem FirstJ.cells {w:World} {s:Nat} {U:List Bs} {W:World} (h:FirstJ w s U W):W.cell? ⟨s+2,0,none⟩=some (.int .i64 (U.length:Nat))∧W.cell? ⟨s+2,1,none⟩=some (.map (some (s+1)))∧W.cell? ⟨s,0,none⟩=some (.int .i64 0)∧W.cell? ⟨s,1,none⟩=some (.map none)∧∀ i,W.frozen? ⟨s,i,none⟩=false:=by
 refine⟨h.nb.c0,h.nb.c1,?_,?_,fun i=>?_⟩
 ·simp [World.cell?,h.res]
 ·simp [World.cell?,h.res]
 ·simp [World.frozen?,h.res]
theorem FirstJ.out {w:World} {s D m:Nat} {ns:List Bs} {W:World} (h:FirstJ w s ns.reverse W) (hD:m≤D) (hK:W.heap[D]? = some (.deferred (some []))) (hm:m=s+4) :
  let w5:=(W.setCell ⟨s,0,none⟩ (.int .i64 (ns.length:Nat))).setCell ⟨s,1,none⟩ (.map (some (s+1)))
  w5.heap[D]? = some (.deferred (some []))∧(∀ o,(w5.putObj D o).cell? ⟨s,0,none⟩=some (.int .i64 (ns.length:Nat)))∧(∀ o,(w5.putObj D o).cell? ⟨s,1,none⟩=some (.map (some (s+1))))∧(∀ o,NmMem (w5.putObj D o) (s+1) (s+2) ns.length ns.reverse)∧∀ o,Below s w (w5.putObj D o):=by
 intro w5
 have hz:=h.size
 have hk:Kn (fun g=>g≠s) W w5:=((Kn.refl _ W).setCell (p:=⟨s,0,none⟩) (.inl fun h=>h rfl) _).setCell (p:=⟨s,1,none⟩) (.inl fun h=>h rfl) _
 have hDl:D<W.heap.size:=(Array.getElem?_eq_some_iff.1 hK).1
 have e5:w5.heap[s]? = some (.cells #[.int .i64 (ns.length:Nat),.map (some (s+1))] 77 (0,0)):=by
  have e:=h.res
  show (World.setCell _ _ _).heap[s]? = _
  simp [World.setCell,Array.getElem?_modify,e]
 have kp:∀ o,Kn (fun g=>g≠D) w5 (w5.putObj D o):=fun o=>kn_putObj fun g h=>h
 have e6:∀ o,(w5.putObj D o).heap[s]? = some (.cells #[.int .i64 (ns.length:Nat),.map (some (s+1))] 77 (0,0)):=fun o=>((kp o).block s (by omega) (Array.getElem?_eq_some_iff.1 e5).1).trans e5
 have kk:∀ o,Kn (fun g=>g≠D∧g≠s) W (w5.putObj D o):=fun o=>(hk.sub fun g h=>h.2).trans ((kp o).sub fun g h=>h.1)
 refine⟨(hk.block D (by omega) hDl).trans hK,fun o=>?_,fun o=>?_,fun o=>?_,fun o=>?_⟩
 ·simp [World.cell?,e6 o]
 ·simp [World.cell?,e6 o]
 ·have hM:=h.mem
  rw [List.length_reverse] at hM
  refine hM.kn (kk o) ⟨by omega,by omega⟩ fun es clock hb x hx g hg=>?_
  obtain⟨hg1,cs,t,f,hcs⟩:=hM.rows hb hx hg
  refine⟨fun e=>?_,by omega⟩
  rw [e,hK] at hcs
  cases hcs
 ·exact h.old.trans ((kk o).below (fun g hg=>⟨by omega,by omega⟩) (by omega))
theorem FirstI.own (w:World) (s:Nat):OwnFrom (s+4) (FirstI w s):=by
 intro pre W W' row h hg hr
 unfold FirstI at h ⊢
 refine h.kn (kn_grown hg) (fun g hg2 e=>?_) (fun es clock hb x hx g hxg e=>?_) (by have:=h.size;omega)
 ·have:=(hr g e.symm).1
  omega
 ·obtain⟨_,cs,t,f,hc⟩:=h.mem.rows hb hx hxg
  obtain⟨_,o,ho,hoc⟩:=hr g e.symm
  rw [hc] at ho
  injection ho with ho
  subst ho
  cases hoc
set_option maxRecDepth 100000 in
set_option maxHeartbeats 4000000 in
theorem firstN_any (ns:List Bs) (v:Value) (w:World) (hv:NmK (fun g=>g<w.heap.size) w ns v) (hl:ns.length≤50000000) (hc:∀ x∈ns,x.length≤1000000) :
  Calls Tryz.prog 22 #[v] w fun e w'=>∃ b,e=.returned (.agg #[.int .i64 (ns.length:Nat),.map (some b)])∧w.heap.size≤b∧NmMem w' b (b+1) ns.length ns.reverse∧Below w.heap.size w w':=by
 obtain⟨a,cap,rfl,hv⟩:=hv
 refine (callsIn_wide (n:=4)).1 ?_
 refine callsIn_of_wp_marks Tryz.func22 rfl trivial ?_ rfl
 simp only [Tryz.ntmps22,List.size_toArray,List.length_cons,List.length_nil,Nat.reduceAdd,Nat.reduceSub,Array.replicate_succ,Array.replicate_zero,List.push_toArray,List.append_toArray,List.nil_append,List.cons_append]
 have hmk:=makeH ns.length (w.alloc (.cells #[.int .i64 0,.map none] 77))
 rw [World.size_alloc] at hmk
 gi_wp2_with (refine⟨trivial,?_⟩;gi_at_call 39;refine (callsIn_wide.2 (backward_any _ _ _ _)).mono ?_;rintro e w' ⟨rfl,rfl⟩)
 obtain⟨s,hs⟩:∃ s,s=w.heap.size:=⟨_,rfl⟩
 clear hmk
 have e4:∀ w4,w4=((((w.alloc (.cells #[.int .i64 0,.map none] 77)).alloc (.map #[] 0)).alloc (.cells #[.int .i64 0,.map (some (s+1))] 77)).alloc (.cells #[.slice a ns.length cap] 23))→FirstW w s a ns.length cap w4:=fun w4 e=>FirstW.made hs e
 simp only [← hs] at e4 hv ⊢
 obtain⟨w4,hw4⟩:∃ w4,w4=((((w.alloc (.cells #[.int .i64 0,.map none] 77)).alloc (.map #[] 0)).alloc (.cells #[.int .i64 0,.map (some (s+1))] 77)).alloc (.cells #[.slice a ns.length cap] 23)):=⟨_,rfl⟩
 have h4:=e4 w4 hw4
 clear e4
 rw [← hw4]
 clear hw4
 simp only [Nat.add_assoc,Nat.reduceAdd]
 have Hs:Hid (s=w.heap.size):=hs
 clear hs
 have hv4:NmK (fun g=>g<s+4∧g≠s+1∧g≠s+2) w4 ns (.slice a ns.length cap):=⟨a,cap,rfl,fun j x hx=>by
  obtain⟨g,off,e1,e2,e3,e4⟩:=hv j x hx
  exact⟨g,off,e1,⟨by omega,by omega,by omega⟩,by rw [h4.size];omega,(h4.old.cell (p:=⟨g,off+j,none⟩) e2).trans e4⟩⟩
 refine wpIn_rangeFunc_ownG rfl (by omega) (gf:=65) (lb:=#[.pointer (some ⟨s+3,0,none⟩)]) rfl trivial (enters_of Tryz.func65 (by kernel_rfl) rfl)
  (back_stops 3 (by omega) _ ns _ (s+3) w4 hv4 ⟨by omega,by omega,by omega⟩ h4.box (by omega) hc) (fun h k=>h.trans k) ?kb (Below.refl _ _) (fun _=>rfl)
  (FirstI w s) (fun _ _ _=>False) ?own (fun _ _ _ _ _ hs _ _=>hs) h4.start
  (fun x=>{ tmps:=#[.slice a ns.length cap,undef,.pointer (some ⟨s,0,none⟩),.pointer (some ⟨s+2,0,none⟩),undef,.string (bs (clipB x.2)),.slice a ns.length cap,.int .i64 (ns.length:Nat),.map (some (s+1)),.agg #[.int .i64 0,.map (some (s+1))],.slice a ns.length cap,.func (.func 65) #[] #[.pointer (some ⟨s+3,0,none⟩)],.int .i64 ((x.1:Nat):Int),.string (bs (clipB x.2)),undef,undef,undef,undef],defers:=[] }) ?assign ?body ?done ?stop
 case kb=>exact fun W l o o' h _ _ _=>kn_putObj (fun g hg=>by rw [h4.size] at h;omega)
 case own=>rw [h4.size];exact FirstI.own w s
 case assign =>
  intro l x W K hK
  gi_wp2
  exact hK
 case body =>
  intro l pre x W hI hlt
  have hx:=clip_len x.2
  obtain⟨c,hcx⟩:∃ c,c=clipB x.2:=⟨_,rfl⟩
  rw [← hcx] at hx
  simp only [← hcx]
  obtain⟨W1,hW1⟩:∃ W1,W1=W.alloc (.cells #[.string (bs c)] 9):=⟨_,rfl⟩
  have hb:=FirstJ.bind hI c hx (by rw [List.length_map];omega) hW1
  rw [hW1] at hb
  clear hW1
  have Hc:Hid (c=clipB x.2):=hcx
  clear hcx
  gi_wp2_with (refine⟨trivial,?_⟩;gi_at_call 40;refine (CallsIn.inRound l (callsIn_wide.2 hb)).mono ?_;rintro e w' ⟨rfl,hk,hk2,hI2⟩)
  rw [h4.size]
  refine⟨hk,hk2,?_⟩
  have:=hI2
  unfold FirstI
  rw [List.map_append]
  simpa [Hc.out] using this
 case done =>
  rintro D ys W hD rfl hI hK
  obtain⟨c0,c1,d0,d1,df⟩:=FirstJ.cells hI
  have f0:=df 0
  have f1:=df 1
  have eU:(bkR ns).map (fun x=>clipB x.2)=ns.reverse:=bk_clip hc
  rw [eU,List.length_reverse] at c0
  have hI2:FirstJ w s ns.reverse W:=by rw [← eU];exact hI
  clear hI df
  have h5:=hI2.out hD hK h4.size
  gi_wp2
  obtain⟨w5,hw5⟩:∃ w5,w5=(W.setCell ⟨s,0,none⟩ (.int .i64 (ns.length:Nat))).setCell ⟨s,1,none⟩ (.map (some (s+1))):=⟨_,rfl⟩
  rw [← hw5] at h5 ⊢
  obtain⟨hK5,r0,r1,hM,hB⟩:=h5
  clear hw5
  rw [Hs.out] at hB
  refine⟨by simp,.inl ⟨_,_,rfl,run_takeDeferred hK5,?_⟩⟩
  have r0:=r0 (.deferred none)
  have r1:=r1 (.deferred none)
  refine⟨.agg #[.int .i64 (ns.length:Nat),.map (some (s+1))],by simp only [results,Tryz.results22];simp [go_sem,r0,r1],s+1,rfl,by rw [← Hs.out];omega,hM _,hB _⟩
 case stop =>
  rintro D c pre W _ _ h _
  exact h.elim
end Go.Proofs.YtahnbigkdfmpbaaGreatDoor
