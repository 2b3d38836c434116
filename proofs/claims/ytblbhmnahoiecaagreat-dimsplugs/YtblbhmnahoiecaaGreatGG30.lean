/- Formulas in the places of dimensions: how a dimension is taken out. -/
import Derived.Laws.MakeOwn
import Derived.Test.YtblbhmnahoiecaaGreatGYDmP
set_option linter.unusedVariables false
set_option linter.unusedSimpArgs false
set_option maxRecDepth 100000
set_option maxHeartbeats 4000000
namespace Go.Proofs.YtblbhmnahoiecaaGreat
open Go.RowKit
def drC (i:Int) (c:C):C:=(⟨dropN c.1.val i,Nat.lt_trans (dropN_lt _ _) (by decide)⟩,⟨dropN c.2.val i,Nat.lt_trans (dropN_lt _ _) (by decide)⟩)
def dropRow (i:Int) (l:List C) (bd:Nat):List C × Int:=(l.map (drC (i+bd)),0)
def dropOp (i:Int):DOp:=⟨dropRow i,dropRow i⟩
def nilC:C:=(⟨0,by decide⟩,⟨0,by decide⟩)
def drK (i:Int) (l:List C) (k:Nat):List C:=(l.take k).map (drC i) ++ List.replicate (l.length - k) nilC
theorem drK_zero (i:Int) (l:List C):drK i l 0=List.replicate l.length nilC:=by simp [drK]
theorem drK_all (i:Int) (l:List C):drK i l l.length=l.map (drC i):=by simp [drK]
theorem drK_len (i:Int) (l:List C) (k:Nat) (h:k≤l.length):(drK i l k).length=l.length:=by simp [drK];omega
theorem drK_step {i:Int} {l:List C} {k:Nat} {c:C} (h:l[k]? = some c):(drK i l k).set k (drC i c)=drK i l (k+1):=by
 have hk:=(List.getElem?_eq_some_iff.1 h).1
 have e:l.length - k=(l.length - (k+1)) + 1:=by omega
 unfold drK
 rw [List.take_add_one,h,e,List.replicate_succ]
 simp only [Option.toList_some,List.map_append,List.map_cons,List.map_nil,List.append_assoc,List.cons_append,List.nil_append]
 rw [List.set_append_right _ _ (by simp;omega)]
 have e2:k - (List.map (drC i) (List.take k l)).length=0:=by simp;omega
 rw [e2];rfl
theorem flat_repl:∀ n:Nat,flat (List.replicate n nilC)=List.replicate (n*2) (.int .u32 0)
 | 0=>rfl
 | n+1=>by
  have e:(n+1) * 2=n*2+1+1:=by omega
  rw [List.replicate_succ,e,List.replicate_succ,List.replicate_succ,← flat_repl n]
  rfl
theorem made_repl (n:Nat):(madeCells #[.int .u32 0,.int .u32 0] n).toList=List.replicate n (.int .u32 0):=by
 refine List.eq_replicate_iff.2 ⟨by simp [madeCells],fun x hx=>?_⟩
 rw [Array.mem_toList_iff] at hx
 unfold madeCells at hx
 obtain⟨j,_,rfl⟩:=Array.mem_map.1 hx
 have hj:j % 2=0∨j % 2=1:=by omega
 rcases hj with h|h <;> simp [h]
theorem makeCl (n:Nat) (w:World) (hn:n≤1000000):∃ W,(Instr.makeSlice 22 (.int .i64 (n:Int)) (.int .i64 (n:Int))).run Tryz.prog w=.ok (.slice (some ⟨w.heap.size,0,none⟩) n n) W∧OwnsC W w.heap.size (.slice (some ⟨w.heap.size,0,none⟩) n n) (List.replicate n nilC)∧Below w.heap.size w W∧W.heap.size=w.heap.size+1:=by
 obtain⟨i0,hi,hz0,hz1,hz2⟩:=info_parts Tryz.infoC
 have hr:=run_make (P:=Tryz.prog) w 22 38 i0 _ Tryz.underlying22 hi hz0 .i64 .i64 n n (by omega) (Int.le_refl _) (by rw [hz2];omega) (by omega)
 simp only [Int.toNat_natCast] at hr
 refine⟨_,hr,?_,belowA _ _,by simp⟩
 unfold OwnsC
 rw [List.length_replicate,flat_repl]
 refine⟨by simp,.inr ⟨_,_,_,rfl,Nat.le_refl _,heapNew w _,Nat.le_refl _,by unfold maxLen;omega,by rw [size_madeCells,hz1],?_⟩⟩
 rw [hz1]
 have e:(Value.agg #[Value.int .u32 0,Value.int .u32 0]).cells=#[Value.int .u32 0,Value.int .u32 0]:=rfl
 rw [List.take_of_length_le (by simp [madeCells])]
 exact made_repl _
theorem own_set2 {W:World} {base g n cap:Nat} {L:List C} {k:Nat} {d:C} (hn:n=L.length) (h:OwnsC W base (.slice (some ⟨g,0,none⟩) n cap) L) (hlt:k<L.length) (hb:base≤W.heap.size) :
  OwnsC ((W.setCell ⟨g,k*2,none⟩ (.int .u32 (d.1.val:Int))).setCell ⟨g,k*2+1,none⟩ (.int .u32 (d.2.val:Int))) base (.slice (some ⟨g,0,none⟩) n cap) (L.set k d) ∧
  Below base W ((W.setCell ⟨g,k*2,none⟩ (.int .u32 (d.1.val:Int))).setCell ⟨g,k*2+1,none⟩ (.int .u32 (d.2.val:Int))):=by
 have h2:W.ownsRow base 38 2 (.slice (some ⟨g,0,none⟩) n cap) n (flat L):=by
  have:=h;unfold OwnsC at this;rw [← hn] at this;exact this
 have s1:=World.ownsRow.stored h2 (k*2) (.int .u32 (d.1.val:Int))
 have s2:=World.ownsRow.stored s1.1 (k*2+1) (.int .u32 (d.2.val:Int))
 refine⟨?_,?_⟩
 ·unfold OwnsC
  rw [List.length_set,← hn,flat_set _ _ _ hlt]
  exact s2.1
 ·have hg:=(World.ownsRow.lt h g rfl).1
  have b1:=(Below.refl base W).grown s1.2 hb (fun k hk=>by injection hk with hk;omega)
  exact b1.grown s2.2 (Nat.le_trans hb b1.size) (fun k hk=>by injection hk with hk;omega)
theorem own_at2 {W:World} {base g n cap:Nat} {L:List C} {k:Nat} (hn:n=L.length) (h:OwnsC W base (.slice (some ⟨g,0,none⟩) n cap) L) (hlt:k<L.length) :
  (∃ u,W.cell? ⟨g,k*2,none⟩=some u)∧(∃ u,W.cell? ⟨g,k*2+1,none⟩=some u)∧W.frozen? ⟨g,k*2,none⟩=false∧W.frozen? ⟨g,k*2+1,none⟩=false:=by
 have h2:W.ownsRow base 38 2 (.slice (some ⟨g,0,none⟩) n cap) n (flat L):=by
  have:=h;unfold OwnsC at this;rw [← hn] at this;exact this
 obtain⟨d,hd⟩:∃ d,L[k]? = some d:=⟨_,List.getElem?_eq_getElem hlt⟩
 refine⟨?_,?_,World.ownsRow.frozenAt h2 _,World.ownsRow.frozenAt h2 _⟩
 ·rw [World.ownsRow.cellAt h2 (k*2) (by omega),flat_get0,hd];exact⟨_,rfl⟩
 ·rw [World.ownsRow.cellAt h2 (k*2+1) (by omega),flat_get1,hd];exact⟨_,rfl⟩
theorem crow_at {w:World} {a:Option Addr} {n cap:Nat} {l:List C} {k:Nat} {c:C} (h:CRow w (.slice a n cap) l) (hk:l[k]? = some c):∃ g off,a=some ⟨g,off,none⟩∧g<w.heap.size∧w.cell? ⟨g,off+k*2,none⟩=some (.int .u32 (c.1.val:Int))∧w.cell? ⟨g,off+k*2+1,none⟩=some (.int .u32 (c.2.val:Int)):=by
 rcases h with ⟨a',cap',e,rfl⟩|⟨g,off,cap',e,hg,hc⟩
 ·simp at hk
 ·injection e with e1 e2 e3
  exact⟨g,off,e1,hg,(hc k c hk).1,(hc k c hk).2⟩
theorem drow_any (i:Int) (xi:Nat) (w:World) (hi:w.heap[xi]? = some (.cells #[.int .i64 i] 3 (0,0))) (hi0:0≤i∧i≤1000000) :
  RowC (dropRow i) (.func (.func 120) #[] #[.pointer (some ⟨xi,0,none⟩)]) w:=by
 refine⟨_,_,rfl,enters_of Tryz.func120 (by kernel_rfl) rfl,?_⟩
 intro l bd v W hW hl hll hbd
 have li:=(Array.getElem?_eq_some_iff.1 hi).1
 have lW:xi<W.heap.size:=Nat.lt_of_lt_of_le li hW.size
 obtain⟨W1,hmk,hO0,bW1,sW1⟩:=makeCl l.length W (by omega)
 obtain⟨n1,hn1⟩:∃ n,n=W.heap.size:=⟨_,rfl⟩
 have ci:Hid (∀ V,Below n1 W V→V.cell? ⟨xi,0,none⟩=some (.int .i64 i)):=fun V q=>((bchain hW (by rw [← hn1];exact q)).cell (p:=⟨xi,0,none⟩) li).trans (by simp [World.cell?,hi])
 have Hr:Hid (∀ V,Below n1 W V→CRow V v l):=fun V q=>(hl.blw (w':=V) (by rw [← hn1];exact q)).row
 have wr2:IntKind.i64.wrap (i+(bd:Int))=i+(bd:Int):=by simp [IntKind.wrap,IntKind.bits,IntKind.signed];omega
 obtain⟨J,hJ⟩:∃ J,J=i+(bd:Int):=⟨_,rfl⟩
 rw [← hJ] at wr2
 have HJ:Hid (dropRow i l bd=(drK J l l.length,0)):=(by unfold dropRow;rw [drK_all,hJ]:_=_)
 obtain⟨va,vc,rfl,_⟩:=id hl
 obtain⟨L,hL⟩:∃ L,L=l.length:=⟨_,rfl⟩
 have HL:Hid (L=l.length):=hL
 rw [HJ.out,← hL]
 rw [← hL] at hmk hO0 Hr hll
 rw [← hn1] at hmk hO0 bW1 sW1 ⊢
 have Hn1:Hid (n1=W.heap.size):=hn1
 have wrJ:IntKind.i64.wrap (i+(bd:Int))=J:=by rw [← hJ,wr2]
 clear hn1 hL hl hW hi li HJ wr2 hJ
 show Calls Tryz.prog 120 #[.slice va L vc,.int .i64 (bd:Int),.pointer (some ⟨xi,0,none⟩)] W _
 go_enter Tryz.func120,Tryz.ntmps120
 go_wp2_with fail
 go_loopw [14] (fun s wr=>∃ k:Nat,k≤L∧s=.int .i64 k∧OwnsC wr n1 (.slice (some ⟨n1,0,none⟩) L L) (drK J l k)∧Below n1 W wr) (fun s _=>L - (intOf s).toNat)
 case atStart=>exact⟨0,Nat.zero_le _,rfl,by rw [drK_zero,← HL.out];exact hO0,bW1⟩
 case round =>
  obtain⟨wo,hwo⟩:∃ wo,wo=wr:=⟨_,rfl⟩
  subst hwo
  clear hO0 bW1 sW1 hmk
  obtain⟨k,hk,rfl,hO,hSo⟩:=hrel
  have hso:n1≤wo.heap.size:=by rw [Hn1.out];exact hSo.size
  by_cases hlt:k<L
  ·have hkI:(k:Int) < (L:Int):=by omega
   obtain⟨c,hc⟩:=someL (l:=l) (k:=k) (by rw [← HL.out];exact hlt)
   have hlen:=drK_len J l k (by rw [← HL.out];exact hk)
   have hc1:=c.1.isLt
   have hc2:=c.2.isLt
   obtain⟨g1,o1,hva,hgl,d0,d1⟩:=crow_at (Hr.out wo hSo) hc
   subst hva
   obtain⟨wb,hwb⟩:∃ V,V=wo.alloc (.cells #[.int .u32 (c.1.val:Int),.int .u32 (c.2.val:Int)] 38):=⟨_,rfl⟩
   have bb:Below wo.heap.size wo wb:=by rw [hwb];exact belowA _ _
   have mb:wb.heap[wo.heap.size]? = some (.cells #[.int .u32 (c.1.val:Int),.int .u32 (c.2.val:Int)] 38 (0,0)):=by rw [hwb];exact heapNew _ _
   obtain⟨p,hp⟩:∃ p,p=wo.heap.size:=⟨_,rfl⟩
   have sb:wb.heap.size=p+1:=by rw [hwb,hp];simp
   rw [← hp] at mb
   have hSb:Below n1 W wb:=hSo.trans (bb.mono (by omega))
   have hpn:p≠n1:=by have:=(World.ownsRow.lt hO n1 rfl).2;omega
   have HC:Hid (∀ V,(Below n1 W V∧V.heap[p]? = some (.cells #[.int .u32 (c.1.val:Int),.int .u32 (c.2.val:Int)] 38 (0,0)))→V.cell? ⟨p,0,none⟩=some (.int .u32 (c.1.val:Int))∧V.cell? ⟨p,1,none⟩=some (.int .u32 (c.2.val:Int))∧V.cell? ⟨xi,0,none⟩=some (.int .i64 i)):=fun V q =>
    ⟨by simp [World.cell?,q.2],by simp [World.cell?,q.2],ci.out V q.1⟩
   have hmb:wb.heap[p]? = some (.cells #[.int .u32 (c.1.val:Int),.int .u32 (c.2.val:Int)] 38 (0,0)):=mb
   have Hmb:Hid (_=_):=hmb
   have Hwb:Hid (_=_):=hwb
   have Hp:Hid (p=wo.heap.size):=hp
   have hpl:n1≤p:=by omega
   have HO:Hid (∀ V,Below wb.heap.size wb V→OwnsC V n1 (.slice (some ⟨n1,0,none⟩) L L) (drK J l k)):=fun V q=>oc_blw2 hO (bchain bb q)
   have HSt:Hid ((drK J l k).set k (drC J c)=drK J l (k+1)):=drK_step hc
   have Hlen:Hid (L=(drK J l k).length):=(by rw [hlen];exact HL.out:_=_)
   clear hwb mb hmb hO hc hlen hp
   go_upto_region 5 with fail
   rw [← Hwb.out]
   simp only [← Hp.out]
   clear d0 d1
   refine wp_region_held_drew (S:=fun V=>Below n1 W V∧V.heap[p]? = some (.cells #[.int .u32 (c.1.val:Int),.int .u32 (c.2.val:Int)] 38 (0,0))) (by kernel_rfl) ⟨hSb.drew,Hmb.out⟩ (fun hS=>?_)
   obtain⟨wd,hwd⟩:∃ V,V=wb.drew:=⟨_,rfl⟩
   have hbd:Below wb.heap.size wb wd:=by rw [hwd];exact (Below.refl _ _).drew
   rw [← hwd] at hS ⊢
   clear hwd
   refine wpAnyH_take (i:=0) (v:=.slice (some ⟨n1,0,none⟩) L L) rfl (by kernel_rfl) (by kernel_rfl) (by kernel_rfl) (fun _ _ _ h=>h) (Or.inl ⟨by rfl,fun w hS=>by go_simp⟩) hS ?_
   try simp only [Act.put,List.getElem_toArray,List.getElem_cons_zero,List.getElem_cons_succ,List.setIfInBounds_toArray,List.set_cons_zero,List.set_cons_succ]
   refine wpAnyH_take (i:=1) (v:=.int .i64 k) rfl (by kernel_rfl) (by kernel_rfl) (by kernel_rfl) (fun _ _ _ h=>h) (Or.inl ⟨by rfl,fun w hS=>by go_simp⟩) hS ?_
   try simp only [Act.put,List.getElem_toArray,List.getElem_cons_zero,List.getElem_cons_succ,List.setIfInBounds_toArray,List.set_cons_zero,List.set_cons_succ]
   refine wpAnyH_take (i:=2) (v:=.pointer (some ⟨p,0,none⟩)) rfl (by kernel_rfl) (by kernel_rfl) (by kernel_rfl) (fun _ _ _ h=>h) (Or.inl ⟨by rfl,fun w hS=>by go_simp⟩) hS ?_
   try simp only [Act.put,List.getElem_toArray,List.getElem_cons_zero,List.getElem_cons_succ,List.setIfInBounds_toArray,List.set_cons_zero,List.set_cons_succ]
   refine wpAnyH_take (i:=3) (v:=.int .u32 (c.1.val:Int)) rfl (by kernel_rfl) (by kernel_rfl) (by kernel_rfl) (fun _ _ _ h=>h) (Or.inl ⟨by rfl,fun w hS=>by have e:=(HC.out w hS).1;go_simp⟩) hS ?_
   try simp only [Act.put,List.getElem_toArray,List.getElem_cons_zero,List.getElem_cons_succ,List.setIfInBounds_toArray,List.set_cons_zero,List.set_cons_succ]
   refine wpAnyH_take (i:=4) (v:=.int .i64 i) rfl (by kernel_rfl) (by kernel_rfl) (by kernel_rfl) (fun _ _ _ h=>h) (Or.inl ⟨by rfl,fun w hS=>by have e:=(HC.out w hS).2.2;go_simp⟩) hS ?_
   try simp only [Act.put,List.getElem_toArray,List.getElem_cons_zero,List.getElem_cons_succ,List.setIfInBounds_toArray,List.set_cons_zero,List.set_cons_succ]
   refine wpAnyH_take (i:=5) (v:=.int .i64 (bd:Int)) rfl (by kernel_rfl) (by kernel_rfl) (by kernel_rfl) (fun _ _ _ h=>h) (Or.inl ⟨by rfl,fun w hS=>by go_simp⟩) hS ?_
   try simp only [Act.put,List.getElem_toArray,List.getElem_cons_zero,List.getElem_cons_succ,List.setIfInBounds_toArray,List.set_cons_zero,List.set_cons_succ]
   refine wpAnyH_take (i:=6) (v:=.int .i64 J) rfl (by kernel_rfl) (by kernel_rfl) (by kernel_rfl) (fun _ _ _ h=>h) (Or.inl ⟨by rfl,fun w hS=>by have e2:=wrJ;go_simp⟩) hS ?_
   try simp only [Act.put,List.getElem_toArray,List.getElem_cons_zero,List.getElem_cons_succ,List.setIfInBounds_toArray,List.set_cons_zero,List.set_cons_succ]
   refine wpAnyH_take (i:=8) (v:=.pointer (some ⟨p,1,none⟩)) rfl (by kernel_rfl) (by kernel_rfl) (by kernel_rfl) (fun _ _ _ h=>h) (Or.inl ⟨by rfl,fun w hS=>by go_simp⟩) hS ?_
   try simp only [Act.put,List.getElem_toArray,List.getElem_cons_zero,List.getElem_cons_succ,List.setIfInBounds_toArray,List.set_cons_zero,List.set_cons_succ]
   refine wpAnyH_take (i:=9) (v:=.int .u32 (c.2.val:Int)) rfl (by kernel_rfl) (by kernel_rfl) (by kernel_rfl) (fun _ _ _ h=>h) (Or.inl ⟨by rfl,fun w hS=>by have e:=(HC.out w hS).2.1;go_simp⟩) hS ?_
   try simp only [Act.put,List.getElem_toArray,List.getElem_cons_zero,List.getElem_cons_succ,List.setIfInBounds_toArray,List.set_cons_zero,List.set_cons_succ]
   refine wpAnyH_take (i:=10) (v:=.int .i64 i) rfl (by kernel_rfl) (by kernel_rfl) (by kernel_rfl) (fun _ _ _ h=>h) (Or.inl ⟨by rfl,fun w hS=>by have e:=(HC.out w hS).2.2;go_simp⟩) hS ?_
   try simp only [Act.put,List.getElem_toArray,List.getElem_cons_zero,List.getElem_cons_succ,List.setIfInBounds_toArray,List.set_cons_zero,List.set_cons_succ]
   refine wpAnyH_take (i:=11) (v:=.int .i64 (bd:Int)) rfl (by kernel_rfl) (by kernel_rfl) (by kernel_rfl) (fun _ _ _ h=>h) (Or.inl ⟨by rfl,fun w hS=>by go_simp⟩) hS ?_
   try simp only [Act.put,List.getElem_toArray,List.getElem_cons_zero,List.getElem_cons_succ,List.setIfInBounds_toArray,List.set_cons_zero,List.set_cons_succ]
   refine wpAnyH_take (i:=12) (v:=.int .i64 J) rfl (by kernel_rfl) (by kernel_rfl) (by kernel_rfl) (fun _ _ _ h=>h) (Or.inl ⟨by rfl,fun w hS=>by have e2:=wrJ;go_simp⟩) hS ?_
   try simp only [Act.put,List.getElem_toArray,List.getElem_cons_zero,List.getElem_cons_succ,List.setIfInBounds_toArray,List.set_cons_zero,List.set_cons_succ]
   refine wpAnyH_ready (rs:=[7]) (by kernel_rfl) (by simp) ?_
   refine ready_cons rfl (fun KK hKK=>?_) AllReadyH.nil
   refine⟨?_⟩
   have cc:=drop_any c.1.val J wd (by omega)
   go_simp
   refine cc.mono ?_
   rintro e w2 ⟨rfl,hbw2⟩
   have hbd:Below wb.heap.size wb w2:=hbd.trans (hbw2.mono hbd.size)
   have hSw2:Below n1 W w2∧w2.heap[p]? = some (.cells #[.int .u32 (c.1.val:Int),.int .u32 (c.2.val:Int)] 38 (0,0)):=⟨hSb.trans (hbd.mono (by omega)),(hbd.block p (by omega)).trans Hmb.out⟩
   clear cc hbw2
   refine hKK.out _ _ hSw2 (fun hS=>?_)
   clear hKK KK
   try simp only [Act.put,List.getElem_toArray,List.getElem_cons_zero,List.getElem_cons_succ,List.setIfInBounds_toArray,List.set_cons_zero,List.set_cons_succ]
   refine wpAnyH_ready (rs:=[13]) (by kernel_rfl) (by simp) ?_
   refine ready_cons rfl (fun KK hKK=>?_) AllReadyH.nil
   refine⟨?_⟩
   have cc:=drop_any c.2.val J w2 (by omega)
   go_simp
   refine cc.mono ?_
   rintro e w3 ⟨rfl,hbw3⟩
   have hbd:Below wb.heap.size wb w3:=hbd.trans (hbw3.mono hbd.size)
   have hSw3:Below n1 W w3∧w3.heap[p]? = some (.cells #[.int .u32 (c.1.val:Int),.int .u32 (c.2.val:Int)] 38 (0,0)):=⟨hSb.trans (hbd.mono (by omega)),(hbd.block p (by omega)).trans Hmb.out⟩
   clear cc hbw3
   refine hKK.out _ _ hSw3 (fun hS=>?_)
   clear hKK KK
   try simp only [Act.put,List.getElem_toArray,List.getElem_cons_zero,List.getElem_cons_succ,List.setIfInBounds_toArray,List.set_cons_zero,List.set_cons_succ]
   refine wpAnyH_take (i:=14) (v:=.agg #[.int .u32 ((dropN c.1.val J:Nat):Int),.int .u32 ((dropN c.2.val J:Nat):Int)]) rfl (by kernel_rfl) (by kernel_rfl) (by kernel_rfl) (fun _ _ _ h=>h) (Or.inl ⟨by rfl,fun w hS=>by go_simp⟩) hS ?_
   try simp only [Act.put,List.getElem_toArray,List.getElem_cons_zero,List.getElem_cons_succ,List.setIfInBounds_toArray,List.set_cons_zero,List.set_cons_succ]
   refine wpAnyH_take (i:=15) (v:=.pointer (some ⟨n1,k*2,none⟩)) rfl (by kernel_rfl) (by kernel_rfl) (by kernel_rfl) (fun _ _ _ h=>h) (Or.inl ⟨by rfl,fun w hS=>by go_simp⟩) hS ?_
   try simp only [Act.put,List.getElem_toArray,List.getElem_cons_zero,List.getElem_cons_succ,List.setIfInBounds_toArray,List.set_cons_zero,List.set_cons_succ]
   have hO3:=HO.out w3 hbd
   obtain⟨⟨u0,q0⟩,⟨u1,q1⟩,f0,f1⟩:=own_at2 Hlen.out hO3 (k:=k) (by rw [← Hlen.out];exact hlt)
   have hs3:n1≤w3.heap.size:=by have:=hbd.size;omega
   have hst:=own_set2 (d:=drC J c) Hlen.out hO3 (k:=k) (by rw [← Hlen.out];exact hlt) hs3
   rw [HSt.out] at hst
   obtain⟨w4,hw4⟩:∃ V,V=(w3.setCell ⟨n1,k*2,none⟩ (.int .u32 ((dropN c.1.val J:Nat):Int))).setCell ⟨n1,k*2+1,none⟩ (.int .u32 ((dropN c.2.val J:Nat):Int)):=⟨_,rfl⟩
   have hst2:OwnsC w4 n1 (.slice (some ⟨n1,0,none⟩) L L) (drK J l (k+1))∧Below n1 w3 w4:=by rw [hw4];exact hst
   have hS4:Below n1 W w4:=hS.1.trans hst2.2
   have hk4:Kn (fun q=>q≠n1) w3 w4:=by rw [hw4];exact (kn_set _ _ _ _).trans (kn_set _ _ _ _)
   have hS5:Below n1 W w4∧w4.heap[p]? = some (.cells #[.int .u32 (c.1.val:Int),.int .u32 (c.2.val:Int)] 38 (0,0)):=⟨hS4,(hk4.block p hpn (by have:=hbd.size;omega)).trans hS.2⟩
   have hO4:=hst2.1
   have H4:Hid (_=_):=hw4
   clear hw4 hst hst2 hO3 hk4
   refine wpAnyH_ready (rs:=[16]) (by kernel_rfl) (by simp) ?_
   refine ready_cons rfl (fun KK hKK=>?_) AllReadyH.nil
   refine⟨?_⟩
   go_simp
   rw [← H4.out]
   refine hKK.out _ _ hS5 (fun hS=>?_)
   clear hKK KK
   try simp only [Act.put,List.getElem_toArray,List.getElem_cons_zero,List.getElem_cons_succ,List.setIfInBounds_toArray,List.set_cons_zero,List.set_cons_succ]
   refine wpAnyH_done (by kernel_rfl) ?_ _
   go_wp2_with fail
   go_roundw
   case rel=>exact⟨k+1,by omega,by go_num,hO4,hS4⟩
   case measure=>simp [intOf];omega
  ·have hkI:¬ (k:Int) < (L:Int):=by omega
   obtain rfl:k=L:=by omega
   go_wp2_with fail
   go_ret
   exact⟨.ok rfl hO,hSo⟩
theorem dropping_any (i:Int) (w:World) (hi0:0≤i∧i≤1000000) :
  Calls Tryz.prog 46 #[.int .i64 i] w fun e w'=>∃ fV cV,e=.returned (.agg #[fV,cV])∧RowC (dropOp i).fn fV w'∧RowC (dropOp i).fc cV w'∧Below w.heap.size w w':=by
 obtain⟨X,hX⟩:∃ X,X=w.heap.size:=⟨_,rfl⟩
 obtain⟨w1,hw1⟩:∃ W,W=(w.alloc (.cells #[.int .i64 i] 3)).alloc (.cells #[.func (.func 120) #[] #[.pointer (some ⟨w.heap.size,0,none⟩)],.func (.func 120) #[] #[.pointer (some ⟨w.heap.size,0,none⟩)]] 68):=⟨_,rfl⟩
 have b1:Below w.heap.size w w1:=by rw [hw1];exact bchain (belowA _ _) (belowA _ _)
 have m0:w1.heap[X]? = some (.cells #[.int .i64 i] 3 (0,0)):=by rw [hw1,hX];exact (Below.heap_alloc _ _ _ (by simp)).trans (heapNew w _)
 have m1:w1.heap[X+1]? = some (.cells #[.func (.func 120) #[] #[.pointer (some ⟨X,0,none⟩)],.func (.func 120) #[] #[.pointer (some ⟨X,0,none⟩)]] 68 (0,0)):=by
  rw [hw1,hX]
  have:=heapNew (w.alloc (.cells #[.int .i64 i] 3)) (.cells #[.func (.func 120) #[] #[.pointer (some ⟨w.heap.size,0,none⟩)],.func (.func 120) #[] #[.pointer (some ⟨w.heap.size,0,none⟩)]] 68);rwa [World.size_alloc] at this
 have HA:Hid (RowC (dropRow i) (.func (.func 120) #[] #[.pointer (some ⟨X,0,none⟩)]) w1):=drow_any i X w1 m0 hi0
 have y0:w1.cell? ⟨X+1,0,none⟩=some (.func (.func 120) #[] #[.pointer (some ⟨X,0,none⟩)]):=by simp [World.cell?,m1]
 have y1:w1.cell? ⟨X+1,1,none⟩=some (.func (.func 120) #[] #[.pointer (some ⟨X,0,none⟩)]):=by simp [World.cell?,m1]
 have HX:Hid (X=w.heap.size):=hX
 have H1:Hid (_=_):=hw1
 have hmk:=mkfd
 clear hw1 hX m0 m1
 go_enter Tryz.func46,Tryz.ntmps46
 go_wp2_with fail
 rw [← H1.out]
 simp only [← HX.out]
 exact bodyPost_ret (v:=.agg #[.func (.func 120) #[] #[.pointer (some ⟨X,0,none⟩)],.func (.func 120) #[] #[.pointer (some ⟨X,0,none⟩)]]) (by simp only [results,Tryz.results46];simp [go_sem,y0,y1]) rfl ⟨_,_,rfl,HA.out,HA.out,by rw [HX.out];exact b1⟩
theorem right_lts {c:C} (h:rightC c=true):c.1.val<16777216∧c.2.val<16777216:=by
 have:=rightC_iff.1 h
 exact⟨by first | exact this.1 | (have:=this.1;omega),by first | exact this.2 | (have:=this.2;omega)⟩
end Go.Proofs.YtblbhmnahoiecaaGreat
