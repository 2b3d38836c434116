/- A part of the proof. -/
import Derived.Test.YtblbhmnahoiecaaGreatHG25
import Derived.Test.YtblbhmnahoiecaaGreatHG18
set_option linter.unusedVariables false
set_option linter.unusedSimpArgs false
set_option maxRecDepth 100000
set_option maxHeartbeats 4000000
namespace Go.Proofs.YtblbhmnahoiecaaGreat
open Go.RowKit
def drC (i:Int) (c:C):C:=(⟨dropN c.1.val i,Nat.lt_trans (dropN_lt _ _) (by decide)⟩,⟨dropN c.2.val i,Nat.lt_trans (dropN_lt _ _) (by decide)⟩)
def dropRow (i:Int) (l:List C) (bd:Nat):List C × Int:=(l.map (drC (i+bd)),0)
def dropOp (i:Int):DOp:=⟨dropRow i,dropRow i⟩
def nilC:C:=(⟨0,by decide⟩,⟨0,by decide⟩)
def drK (i:Int) (l:List C) (k:Nat):List C:=(l.take k).map (drC i) ++ List.replicate (l.length - k) nilC
theorem drK_zero (i:Int) (l:List C):drK i l 0=List.replicate l.length nilC:=by simp [drK]
theorem drK_all (i:Int) (l:List C):drK i l l.length=l.map (drC i):=by simp [drK]
theorem drK_len (i:Int) (l:List C) (k:Nat) (h:k<=l.length):(drK i l k).length=l.length:=by simp [drK];omega
theorem drK_step {i:Int} {l:List C} {k:Nat} {c:C} (h:l[k]? = some c):(drK i l k).set k (drC i c)=drK i l (k+1):=by
 have hk:=(List.getElem?_eq_some_iff.1 h).1
 have e:l.length - k=(l.length - (k+1)) + 1:=by omega
 unfold drK
 rw [List.take_add_one,h,e,List.replicate_succ]
 simp only [Option.toList_some,List.map_append,List.map_cons,List.map_nil,List.append_assoc,List.cons_append,List.nil_append]
 rw [List.set_append_right _ _ (by simp;omega)]
 have e2:k - (List.map (drC i) (List.take k l)).length=0:=by simp;omega
 rw [e2];rfl
theorem flat_repl:∀ n:Nat,flat (List.replicate n nilC)=List.replicate (n*2) (.int .u32 0)
 | 0=>rfl
 | n+1=>by
  have e:(n+1) * 2=n*2+1+1:=by omega
  rw [List.replicate_succ,e,List.replicate_succ,List.replicate_succ,<- flat_repl n]
  rfl
theorem made_repl (n:Nat):(madeCells #[.int .u32 0,.int .u32 0] n).toList=List.replicate n (.int .u32 0):=by
 refine List.eq_replicate_iff.2 ⟨by simp [madeCells],fun x hx=>?_⟩
 rw [Array.mem_toList_iff] at hx
 unfold madeCells at hx
 obtain⟨j,_,rfl⟩:=Array.mem_map.1 hx
 have hj:j % 2=0\/j % 2=1:=by omega
 rcases hj with h|h <;> simp [h]
theorem makeCl (n:Nat) (w:World) (hn:n<=1000000):∃ W,(Instr.makeSlice 22 (.int .i64 (n:Int)) (.int .i64 (n:Int))).run Tryz.prog w=.ok (.slice (some ⟨w.heap.size,0,none⟩) n n) W/\OwnsC W w.heap.size (.slice (some ⟨w.heap.size,0,none⟩) n n) (List.replicate n nilC)/\Below w.heap.size w W/\W.heap.size=w.heap.size+1:=by
 obtain⟨i0,hi,hz0,hz1,hz2⟩:=info_parts Tryz.infoC
 have hr:=run_make (P:=Tryz.prog) w 22 38 i0 _ Tryz.underlying22 hi hz0 .i64 .i64 n n (by omega) (Int.le_refl _) (by rw [hz2];omega) (by omega)
 simp only [Int.toNat_natCast] at hr
 refine⟨_,hr,?_,belowA _ _,by simp⟩
 unfold OwnsC
 rw [List.length_replicate,flat_repl]
 refine⟨by simp,.inr ⟨_,_,_,rfl,Nat.le_refl _,heapNew w _,Nat.le_refl _,by unfold maxLen;omega,by rw [size_madeCells,hz1],?_⟩⟩
 rw [hz1]
 have e:(Value.agg #[Value.int .u32 0,Value.int .u32 0]).cells=#[Value.int .u32 0,Value.int .u32 0]:=rfl
 rw [List.take_of_length_le (by simp [madeCells])]
 exact made_repl _
theorem own_set2 {W:World} {base g n cap:Nat} {L:List C} {k:Nat} {d:C} (hn:n=L.length) (h:OwnsC W base (.slice (some ⟨g,0,none⟩) n cap) L) (hlt:k<L.length) (hb:base<=W.heap.size) :
  OwnsC ((W.setCell ⟨g,k*2,none⟩ (.int .u32 (d.1.val:Int))).setCell ⟨g,k*2+1,none⟩ (.int .u32 (d.2.val:Int))) base (.slice (some ⟨g,0,none⟩) n cap) (L.set k d) /\
  Below base W ((W.setCell ⟨g,k*2,none⟩ (.int .u32 (d.1.val:Int))).setCell ⟨g,k*2+1,none⟩ (.int .u32 (d.2.val:Int))):=by
 have h2:W.ownsRow base 38 2 (.slice (some ⟨g,0,none⟩) n cap) n (flat L):=by
  have:=h;unfold OwnsC at this;rw [<- hn] at this;exact this
 have s1:=World.ownsRow.stored h2 (k*2) (.int .u32 (d.1.val:Int))
 have s2:=World.ownsRow.stored s1.1 (k*2+1) (.int .u32 (d.2.val:Int))
 refine⟨?_,?_⟩
 ·unfold OwnsC
  rw [List.length_set,<- hn,flat_set _ _ _ hlt]
  exact s2.1
 ·have hg:=(World.ownsRow.lt h g rfl).1
  have b1:=(Below.refl base W).grown s1.2 hb (fun k hk=>by injection hk with hk;omega)
  exact b1.grown s2.2 (Nat.le_trans hb b1.size) (fun k hk=>by injection hk with hk;omega)
theorem own_at2 {W:World} {base g n cap:Nat} {L:List C} {k:Nat} (hn:n=L.length) (h:OwnsC W base (.slice (some ⟨g,0,none⟩) n cap) L) (hlt:k<L.length) :
  (∃ u,W.cell? ⟨g,k*2,none⟩=some u)/\(∃ u,W.cell? ⟨g,k*2+1,none⟩=some u)/\W.frozen? ⟨g,k*2,none⟩=false/\W.frozen? ⟨g,k*2+1,none⟩=false:=by
 have h2:W.ownsRow base 38 2 (.slice (some ⟨g,0,none⟩) n cap) n (flat L):=by
  have:=h;unfold OwnsC at this;rw [<- hn] at this;exact this
 obtain⟨d,hd⟩:∃ d,L[k]? = some d:=⟨_,List.getElem?_eq_getElem hlt⟩
 refine⟨?_,?_,World.ownsRow.frozenAt h2 _,World.ownsRow.frozenAt h2 _⟩
 ·rw [World.ownsRow.cellAt h2 (k*2) (by omega),flat_get0,hd];exact⟨_,rfl⟩
 ·rw [World.ownsRow.cellAt h2 (k*2+1) (by omega),flat_get1,hd];exact⟨_,rfl⟩
theorem crow_at {w:World} {a:Option Addr} {n cap:Nat} {l:List C} {k:Nat} {c:C} (h:CRow w (.slice a n cap) l) (hk:l[k]? = some c):∃ g off,a=some ⟨g,off,none⟩/\g<w.heap.size/\w.cell? ⟨g,off+k*2,none⟩=some (.int .u32 (c.1.val:Int))/\w.cell? ⟨g,off+k*2+1,none⟩=some (.int .u32 (c.2.val:Int)):=by
 rcases h with ⟨a',cap',e,rfl⟩|⟨g,off,cap',e,hg,hc⟩
 ·simp at hk
 ·injection e with e1 e2 e3
  exact⟨g,off,e1,hg,(hc k c hk).1,(hc k c hk).2⟩
theorem drow_any (i:Int) (xi:Nat) (w:World) (hi:w.heap[xi]? = some (.cells #[.int .i64 i] 3 (0,0))) (hi0:0<=i/\i<=1000000) :
  RowC (dropRow i) (.func (.func 120) #[] #[.pointer (some ⟨xi,0,none⟩)]) w:=by
 refine⟨_,_,rfl,enters_of Tryz.func120 (by kernel_rfl) rfl,?_⟩
 intro l bd v W hW hl hll hbd
 have li:=(Array.getElem?_eq_some_iff.1 hi).1
 have lW:xi<W.heap.size:=Nat.lt_of_lt_of_le li hW.size
 obtain⟨W1,hmk,hO0,bW1,sW1⟩:=makeCl l.length W (by omega)
 obtain⟨n1,hn1⟩:∃ n,n=W.heap.size:=⟨_,rfl⟩
 have ci:Hid (∀ V,Below n1 W V->V.cell? ⟨xi,0,none⟩=some (.int .i64 i)):=fun V q=>((bchain hW (by rw [<- hn1];exact q)).cell (p:=⟨xi,0,none⟩) li).trans (by simp [World.cell?,hi])
 have Hr:Hid (∀ V,Below n1 W V->CRow V v l):=fun V q=>(hl.blw (w':=V) (by rw [<- hn1];exact q)).row
 have wr2:IntKind.i64.wrap (i+(bd:Int))=i+(bd:Int):=by simp [IntKind.wrap,IntKind.bits,IntKind.signed];omega
 obtain⟨J,hJ⟩:∃ J,J=i+(bd:Int):=⟨_,rfl⟩
 rw [<- hJ] at wr2
 have HJ:Hid (dropRow i l bd=(drK J l l.length,0)):=(by unfold dropRow;rw [drK_all,hJ]:_=_)
 obtain⟨va,vc,rfl,_⟩:=id hl
 obtain⟨L,hL⟩:∃ L,L=l.length:=⟨_,rfl⟩
 have HL:Hid (L=l.length):=hL
 rw [HJ.out,<- hL]
 rw [<- hL] at hmk hO0 Hr hll
 rw [<- hn1] at hmk hO0 bW1 sW1 ⊢
 have Hn1:Hid (n1=W.heap.size):=hn1
 have wrJ:IntKind.i64.wrap (i+(bd:Int))=J:=by rw [<- hJ,wr2]
 clear hn1 hL hl hW hi li HJ wr2 hJ
 show Calls Tryz.prog 120 #[.slice va L vc,.int .i64 (bd:Int),.pointer (some ⟨xi,0,none⟩)] W _
 go_enter Tryz.func120,Tryz.ntmps120
 go_wp2_with fail
 go_loopw [14] (fun s wr=>∃ k:Nat,k<=L/\s=.int .i64 k/\OwnsC wr n1 (.slice (some ⟨n1,0,none⟩) L L) (drK J l k)/\Below n1 W wr) (fun s _=>L - (intOf s).toNat)
 case atStart=>exact⟨0,Nat.zero_le _,rfl,by rw [drK_zero,<- HL.out];exact hO0,bW1⟩
 case round =>
  obtain⟨wo,hwo⟩:∃ wo,wo=wr:=⟨_,rfl⟩
  subst hwo
  clear hO0 bW1 sW1 hmk
  obtain⟨k,hk,rfl,hO,hSo⟩:=hrel
  have hso:n1<=wo.heap.size:=by rw [Hn1.out];exact hSo.size
  by_cases hlt:k<L
  ·have hkI:(k:Int) < (L:Int):=by omega
   obtain⟨c,hc⟩:=someL (l:=l) (k:=k) (by rw [<- HL.out];exact hlt)
   have hlen:=drK_len J l k (by rw [<- HL.out];exact hk)
   have hc1:=c.1.isLt
   have hc2:=c.2.isLt
   obtain⟨g1,o1,hva,hgl,d0,d1⟩:=crow_at (Hr.out wo hSo) hc
   subst hva
   obtain⟨wb,hwb⟩:∃ V,V=wo.alloc (.cells #[.int .u32 (c.1.val:Int),.int .u32 (c.2.val:Int)] 38):=⟨_,rfl⟩
   have bb:Below wo.heap.size wo wb:=by rw [hwb];exact belowA _ _
   have mb:wb.heap[wo.heap.size]? = some (.cells #[.int .u32 (c.1.val:Int),.int .u32 (c.2.val:Int)] 38 (0,0)):=by rw [hwb];exact heapNew _ _
   obtain⟨p,hp⟩:∃ p,p=wo.heap.size:=⟨_,rfl⟩
   have sb:wb.heap.size=p+1:=by rw [hwb,hp];simp
   rw [<- hp] at mb
   have hSb:Below n1 W wb:=hSo.trans (bb.mono (by omega))
   have hpn:p≠n1:=by have:=(World.ownsRow.lt hO n1 rfl).2;omega
   have HC:Hid (∀ V,(Below n1 W V/\V.heap[p]? = some (.cells #[.int .u32 (c.1.val:Int),.int .u32 (c.2.val:Int)] 38 (0,0)))->V.cell? ⟨p,0,none⟩=some (.int .u32 (c.1.val:Int))/\V.cell? ⟨p,1,none⟩=some (.int .u32 (c.2.val:Int))/\V.cell? ⟨xi,0,none⟩=some (.int .i64 i)):=fun V q =>
    ⟨by simp [World.cell?,q.2],by simp [World.cell?,q.2],ci.out V q.1⟩
   have hmb:wb.heap[p]? = some (.cells #[.int .u32 (c.1.val:Int),.int .u32 (c.2.val:Int)] 38 (0,0)):=mb
   have Hmb:Hid (_=_):=hmb
   have Hwb:Hid (_=_):=hwb
   have Hp:Hid (p=wo.heap.size):=hp
   have hpl:n1<=p:=by omega
   have HO:Hid (∀ V,Below wb.heap.size wb V->OwnsC V n1 (.slice (some ⟨n1,0,none⟩) L L) (drK J l k)):=fun V q=>oc_blw2 hO (bchain bb q)
   have HSt:Hid ((drK J l k).set k (drC J c)=drK J l (k+1)):=drK_step hc
   have Hlen:Hid (L=(drK J l k).length):=(by rw [hlen];exact HL.out:_=_)
   clear hwb mb hmb hO hc hlen hp
   go_upto_region 5 with fail
   rw [<- Hwb.out]
   simp only [<- Hp.out]
   clear d0 d1
   refine wp_region_held_drew (S:=fun V=>Below n1 W V/\V.heap[p]? = some (.cells #[.int .u32 (c.1.val:Int),.int .u32 (c.2.val:Int)] 38 (0,0))) (by kernel_rfl) ⟨hSb.drew,Hmb.out⟩ (fun hS=>?_)
   obtain⟨wd,hwd⟩:∃ V,V=wb.drew:=⟨_,rfl⟩
   have hbd:Below wb.heap.size wb wd:=by rw [hwd];exact (Below.refl _ _).drew
   rw [<- hwd] at hS ⊢
   clear hwd
   refine zk 0 (.slice (some ⟨n1,0,none⟩) L L) rfl (by rfl) (fun w hS=>by go_simp) hS ?_
   try simp only [Act.put,zg1,zg2,zg3,zs1,zs2,zs3]
   refine zk 1 (.int .i64 k) rfl (by rfl) (fun w hS=>by go_simp) hS ?_
   try simp only [Act.put,zg1,zg2,zg3,zs1,zs2,zs3]
   refine zk 2 (.pointer (some ⟨p,0,none⟩)) rfl (by rfl) (fun w hS=>by go_simp) hS ?_
   try simp only [Act.put,zg1,zg2,zg3,zs1,zs2,zs3]
   refine zk 3 (.int .u32 (c.1.val:Int)) rfl (by rfl) (fun w hS=>by have e:=(HC.out w hS).1;go_simp) hS ?_
   try simp only [Act.put,zg1,zg2,zg3,zs1,zs2,zs3]
   refine zk 4 (.int .i64 i) rfl (by rfl) (fun w hS=>by have e:=(HC.out w hS).2.2;go_simp) hS ?_
   try simp only [Act.put,zg1,zg2,zg3,zs1,zs2,zs3]
   refine zk 5 (.int .i64 (bd:Int)) rfl (by rfl) (fun w hS=>by go_simp) hS ?_
   try simp only [Act.put,zg1,zg2,zg3,zs1,zs2,zs3]
   refine zk 6 (.int .i64 J) rfl (by rfl) (fun w hS=>by have e2:=wrJ;go_simp) hS ?_
   try simp only [Act.put,zg1,zg2,zg3,zs1,zs2,zs3]
   refine zk 8 (.pointer (some ⟨p,1,none⟩)) rfl (by rfl) (fun w hS=>by go_simp) hS ?_
   try simp only [Act.put,zg1,zg2,zg3,zs1,zs2,zs3]
   refine zk 9 (.int .u32 (c.2.val:Int)) rfl (by rfl) (fun w hS=>by have e:=(HC.out w hS).2.1;go_simp) hS ?_
   try simp only [Act.put,zg1,zg2,zg3,zs1,zs2,zs3]
   refine zk 10 (.int .i64 i) rfl (by rfl) (fun w hS=>by have e:=(HC.out w hS).2.2;go_simp) hS ?_
   try simp only [Act.put,zg1,zg2,zg3,zs1,zs2,zs3]
   refine zk 11 (.int .i64 (bd:Int)) rfl (by rfl) (fun w hS=>by go_simp) hS ?_
   try simp only [Act.put,zg1,zg2,zg3,zs1,zs2,zs3]
   refine zk 12 (.int .i64 J) rfl (by rfl) (fun w hS=>by have e2:=wrJ;go_simp) hS ?_
   try simp only [Act.put,zg1,zg2,zg3,zs1,zs2,zs3]
   refine zr 7 rfl (fun KK hKK=>?_)
   refine⟨?_⟩
   have cc:=drop_any c.1.val J wd (by omega)
   go_simp
   refine cc.mono ?_
   rintro e w2 ⟨rfl,hbw2⟩
   have hbd:Below wb.heap.size wb w2:=hbd.trans (hbw2.mono hbd.size)
   have hSw2:Below n1 W w2/\w2.heap[p]? = some (.cells #[.int .u32 (c.1.val:Int),.int .u32 (c.2.val:Int)] 38 (0,0)):=⟨hSb.trans (hbd.mono (by omega)),(hbd.block p (by omega)).trans Hmb.out⟩
   clear cc hbw2
   refine hKK.out _ _ hSw2 (fun hS=>?_)
   clear hKK KK
   try simp only [Act.put,zg1,zg2,zg3,zs1,zs2,zs3]
   refine zr 13 rfl (fun KK hKK=>?_)
   refine⟨?_⟩
   have cc:=drop_any c.2.val J w2 (by omega)
   go_simp
   refine cc.mono ?_
   rintro e w3 ⟨rfl,hbw3⟩
   have hbd:Below wb.heap.size wb w3:=hbd.trans (hbw3.mono hbd.size)
   have hSw3:Below n1 W w3/\w3.heap[p]? = some (.cells #[.int .u32 (c.1.val:Int),.int .u32 (c.2.val:Int)] 38 (0,0)):=⟨hSb.trans (hbd.mono (by omega)),(hbd.block p (by omega)).trans Hmb.out⟩
   clear cc hbw3
   refine hKK.out _ _ hSw3 (fun hS=>?_)
   clear hKK KK
   try simp only [Act.put,zg1,zg2,zg3,zs1,zs2,zs3]
   refine zk 14 (.agg #[.int .u32 ((dropN c.1.val J:Nat):Int),.int .u32 ((dropN c.2.val J:Nat):Int)]) rfl (by rfl) (fun w hS=>by go_simp) hS ?_
   try simp only [Act.put,zg1,zg2,zg3,zs1,zs2,zs3]
   refine zk 15 (.pointer (some ⟨n1,k*2,none⟩)) rfl (by rfl) (fun w hS=>by go_simp) hS ?_
   try simp only [Act.put,zg1,zg2,zg3,zs1,zs2,zs3]
   have hO3:=HO.out w3 hbd
   obtain⟨⟨u0,q0⟩,⟨u1,q1⟩,f0,f1⟩:=own_at2 Hlen.out hO3 (k:=k) (by rw [<- Hlen.out];exact hlt)
   have hs3:n1<=w3.heap.size:=by have:=hbd.size;omega
   have hst:=own_set2 (d:=drC J c) Hlen.out hO3 (k:=k) (by rw [<- Hlen.out];exact hlt) hs3
   rw [HSt.out] at hst
   obtain⟨w4,hw4⟩:∃ V,V=(w3.setCell ⟨n1,k*2,none⟩ (.int .u32 ((dropN c.1.val J:Nat):Int))).setCell ⟨n1,k*2+1,none⟩ (.int .u32 ((dropN c.2.val J:Nat):Int)):=⟨_,rfl⟩
   have hst2:OwnsC w4 n1 (.slice (some ⟨n1,0,none⟩) L L) (drK J l (k+1))/\Below n1 w3 w4:=by rw [hw4];exact hst
   have hS4:Below n1 W w4:=hS.1.trans hst2.2
   have hk4:Kn (fun q=>q≠n1) w3 w4:=by rw [hw4];exact (kn_set _ _ _ _).trans (kn_set _ _ _ _)
   have hS5:Below n1 W w4/\w4.heap[p]? = some (.cells #[.int .u32 (c.1.val:Int),.int .u32 (c.2.val:Int)] 38 (0,0)):=⟨hS4,(hk4.block p hpn (by have:=hbd.size;omega)).trans hS.2⟩
   have hO4:=hst2.1
   have H4:Hid (_=_):=hw4
   clear hw4 hst hst2 hO3 hk4
   refine zr 16 rfl (fun KK hKK=>?_)
   refine⟨?_⟩
   go_simp
   rw [<- H4.out]
   refine hKK.out _ _ hS5 (fun hS=>?_)
   clear hKK KK
   try simp only [Act.put,zg1,zg2,zg3,zs1,zs2,zs3]
   refine wpAnyH_done (by kernel_rfl) ?_ _
   go_wp2_with fail
   go_roundw
   case rel=>exact⟨k+1,by omega,by go_num,hO4,hS4⟩
   case measure=>simp [intOf];omega
  ·have hkI:¬ (k:Int) < (L:Int):=by omega
   obtain rfl:k=L:=by omega
   go_wp2_with fail
   go_ret
   exact⟨.ok rfl hO,hSo⟩
theorem dropping_any (i:Int) (w:World) (hi0:0<=i/\i<=1000000) :
  Calls Tryz.prog 46 #[.int .i64 i] w fun e w'=>∃ fV cV,e=.returned (.agg #[fV,cV])/\RowC (dropOp i).fn fV w'/\RowC (dropOp i).fc cV w'/\Below w.heap.size w w':=by
 obtain⟨X,hX⟩:∃ X,X=w.heap.size:=⟨_,rfl⟩
 obtain⟨w1,hw1⟩:∃ W,W=(w.alloc (.cells #[.int .i64 i] 3)).alloc (.cells #[.func (.func 120) #[] #[.pointer (some ⟨w.heap.size,0,none⟩)],.func (.func 120) #[] #[.pointer (some ⟨w.heap.size,0,none⟩)]] 68):=⟨_,rfl⟩
 have b1:Below w.heap.size w w1:=by rw [hw1];exact bchain (belowA _ _) (belowA _ _)
 have m0:w1.heap[X]? = some (.cells #[.int .i64 i] 3 (0,0)):=by rw [hw1,hX];exact (Below.heap_alloc _ _ _ (by simp)).trans (heapNew w _)
 have m1:w1.heap[X+1]? = some (.cells #[.func (.func 120) #[] #[.pointer (some ⟨X,0,none⟩)],.func (.func 120) #[] #[.pointer (some ⟨X,0,none⟩)]] 68 (0,0)):=by
  rw [hw1,hX]
  have:=heapNew (w.alloc (.cells #[.int .i64 i] 3)) (.cells #[.func (.func 120) #[] #[.pointer (some ⟨w.heap.size,0,none⟩)],.func (.func 120) #[] #[.pointer (some ⟨w.heap.size,0,none⟩)]] 68);rwa [World.size_alloc] at this
 have HA:Hid (RowC (dropRow i) (.func (.func 120) #[] #[.pointer (some ⟨X,0,none⟩)]) w1):=drow_any i X w1 m0 hi0
 have y0:w1.cell? ⟨X+1,0,none⟩=some (.func (.func 120) #[] #[.pointer (some ⟨X,0,none⟩)]):=by simp [World.cell?,m1]
 have y1:w1.cell? ⟨X+1,1,none⟩=some (.func (.func 120) #[] #[.pointer (some ⟨X,0,none⟩)]):=by simp [World.cell?,m1]
 have HX:Hid (X=w.heap.size):=hX
 have H1:Hid (_=_):=hw1
 have hmk:=mkfd
 clear hw1 hX m0 m1
 go_enter Tryz.func46,Tryz.ntmps46
 go_wp2_with fail
 rw [<- H1.out]
 simp only [<- HX.out]
 exact bodyPost_ret (v:=.agg #[.func (.func 120) #[] #[.pointer (some ⟨X,0,none⟩)],.func (.func 120) #[] #[.pointer (some ⟨X,0,none⟩)]]) (by simp only [results,Tryz.results46];simp [go_sem,y0,y1]) rfl ⟨_,_,rfl,HA.out,HA.out,by rw [HX.out];exact b1⟩
def dimF (i:Int):List C × Int:=if isDimB i then ([posB i.toNat],0) else ([],2)
theorem dim_any (i:Int) (w:World):Calls Tryz.prog 100 #[.int .i64 i] w fun e w'=>∃ v,e=.returned (.tuple #[v,.int .i64 (dimF i).2])/\OwnsC w' w.heap.size v (dimF i).1/\Below w.heap.size w w':=by
 have hH:=has_all i w
 cases hd:isDimB i
 ·have H:Hid (dimF i=([],2)):=by unfold dimF;exact if_neg (by simp [hd])
  rw [hd] at hH
  go_enter Tryz.func100,Tryz.ntmps100
  go_wp2_with (go_at_call 104;refine hH.mono ?_;rintro e w' ⟨rfl,rfl⟩)
  go_ret2
  rw [H.out]
  exact⟨_,rfl,World.ownsRow_nil _ _ _ _,Below.refl _ _⟩
 ·have H:Hid (dimF i=([posB i.toNat],0)):=by unfold dimF;exact if_pos hd
  rw [hd] at hH
  have hi:0<=i/\i<24:=by simpa [isDimB] using hd
  obtain⟨k,rfl⟩:∃ k:Nat,i=(k:Int):=⟨i.toNat,by omega⟩
  have hk:k<24:=by omega
  have hW:=with0 k hk w
  rw [Int.toNat_natCast] at H
  clear hd hi
  go_enter Tryz.func100,Tryz.ntmps100
  go_wp2_with (first
   | (go_at_call 104;refine hH.mono ?_;rintro e w1 ⟨rfl,hw1⟩;subst hw1)
   | (go_at_call 149;refine hW.mono ?_;rintro e w2 ⟨rfl,hw2⟩;subst hw2))
  go_ret2
  rw [H.out]
  exact⟨_,rfl,own_one1 _ (posB k) _ (Nat.le_refl _),below_alloc _ _⟩
def wrD (i:Int) (r:List C) (t:Tm):Int:=if wrongN true 0 0 t=0 then (if isDimB i=true/\rightF r=true then 0 else 2) else ((wrongN true 0 0 t:Nat):Int)
theorem wrD_ok {i:Int} {r:List C} {t:Tm} (h:wrD i r t=0):(0<=i/\i<24)/\rightF r=true/\wrongN true 0 0 t=0:=by
 unfold wrD at h
 split at h
 ·rename_i h1
  split at h
  ·rename_i h2;exact⟨by simpa [isDimB] using h2.1,h2.2,h1⟩
  ·cases h
 ·omega
theorem dwrong_any (t:Tm) (v:Value) (w:World) (hv:TmIn Tt w t v) (hb:blk t<=20000) (i:Int) (r:List C) (vr:Value) (hr:ClRow Tt w r vr) (hrl:r.length<=40000):Calls Tryz.prog 39 #[v,.int .i64 i,vr] w fun e w'=>e=.returned (.int .i64 (wrD i r t))/\Below w.heap.size w w':=by
 obtain⟨ra,rc,ka,kc,sa,sc,rfl,ht⟩:=hv.form
 obtain⟨w1,hw1⟩:∃ W,W=w.alloc (.cells #[.int .i64 t.kind,.int .i64 t.n,.string t.name,.slice ra t.r.length rc,.slice ka t.kids.length kc,.slice sa t.sys.length sc] 26):=⟨_,rfl⟩
 have b1:Below w.heap.size w w1:=by rw [hw1];exact belowA _ _
 obtain⟨_,y0,y1,y2,y3,y4,y5⟩:Cs6 w1 w.heap.size 0 t ra rc ka kc sa sc:=by rw [hw1];exact cs6_new w t ra rc ka kc sa sc
 simp only [Nat.zero_add] at y1 y2 y3 y4 y5
 have cc:=formed_any t _ w1 (ht.blw b1).value hb
 have HA:Hid (wrD i r t=if wrongN true 0 0 t=0 then (if isDimB i=true/\rightF r=true then 0 else 2) else ((wrongN true 0 0 t:Nat):Int)):=(rfl:_=_)
 obtain⟨f,hf⟩:∃ f,f=wrongN true 0 0 t:=⟨_,rfl⟩
 rw [<- hf] at cc HA
 have HW:Hid (_=_):=hw1
 have Hr:Hid (∀ V,Below w.heap.size w V->FRow V vr r):=fun V q=>(hr.blw q).frow
 obtain⟨va,vc,rfl,_⟩:=id hr
 obtain⟨LR,hLR⟩:∃ L,L=r.length:=⟨_,rfl⟩
 rw [<- hLR] at Hr
 simp only [<- hLR]
 have HLR:Hid (r.length<=100000):=(by omega:_<=_)
 have HB1:Hid (Below w.heap.size w w1):=b1
 have HD:Hid ((dimF i).2=if isDimB i then 0 else 2):=(by unfold dimF;split <;> rfl:_=_)
 clear hw1 hf hv ht hr hLR
 go_enter Tryz.func39,Tryz.ntmps39
 go_upto_region 1 with fail
 rw [<- HW.out]
 clear HW
 go_wp2_with fail
 refine cc.mono ?_
 rintro e w2 ⟨rfl,b2⟩
 have b12:=bchain b1 b2
 clear cc y0 y1 y2 y3 y4 y5
 by_cases h0:f=0
 ·subst h0
  have cd:=dim_any i w2
  rw [if_pos rfl] at HA
  go_wp2_with fail
  refine cd.mono ?_
  rintro e w3 ⟨v3,rfl,hO3,b3⟩
  clear cd
  obtain⟨a3,c3,rfl⟩:=OwnsC.len hO3
  rw [HD.out]
  generalize (dimF i).1.length=L3
  have b13:=bchain b12 b3
  cases hi:isDimB i
  ·have Hz:Hid (wrD i r t=2):=(by rw [HA.out,hi];exact if_neg (by simp):_=_)
   simp only [Bool.false_eq_true,if_false]
   go_wp2_with fail
   go_ret
   exact⟨by rw [Hz.out];rfl,b13⟩
  ·have cr:=fright_any r _ w3 (Hr.out w3 b13) HLR.out
   simp only [if_true]
   cases hq:rightF r
   ·have Hz:Hid (wrD i r t=2):=(by rw [HA.out,hi,hq];exact if_neg (by simp):_=_)
    rw [hq] at cr
    go_wp2_with fail
    refine cr.mono ?_
    rintro e w4 ⟨rfl,b4⟩
    have b14:=bchain b13 b4
    clear cr
    go_wp2_with fail
    go_ret
    exact⟨by rw [Hz.out];rfl,b14⟩
   ·have Hz:Hid (wrD i r t=0):=(by rw [HA.out,hi,hq];exact if_pos ⟨rfl,rfl⟩:_=_)
    rw [hq] at cr
    go_wp2_with fail
    refine cr.mono ?_
    rintro e w4 ⟨rfl,b4⟩
    have b14:=bchain b13 b4
    clear cr
    go_wp2_with fail
    go_ret
    exact⟨by rw [Hz.out];rfl,b14⟩
 ·have h1:((f:Int) == 0)=false:=by simp;omega
  have Hz:Hid (wrD i r t=(f:Int)):=(by rw [HA.out,if_neg h0]:_=_)
  go_wp2_with fail
  go_ret
  exact⟨by rw [Hz.out];rfl,b12⟩
theorem keepD {n X ob:Nat} {w4 w5:World} {T:Tm} {v:Value} (h:TmIn (OkN n w4) w4 T v) (hk:Kn (fun q=>q≠ob) w4 w5) (ho:ob<n) (hX:X<=n):TmIn (OkN X w5) w5 T v :=
 h.keep hk.size (fun q hq=>(hq.same (hk.block q (by have:=hq.1;omega) hq.lt)).mono (by omega)) (fun q hq hs=>hk.block q (by have:=hq.1;omega) hs)
def putE (i:Int) (r:List C) (t:Tm):Int:=if wrD i r t=0 then eT (putOp i r) t 0 else wrD i r t
def putT' (i:Int) (r:List C) (t:Tm):Tm:=if wrD i r t=0 then ansD (putOp i r) t else noT
theorem dput_any (t:Tm) (v:Value) (w:World) (hv:TmIn Tt w t v) (hb:blk t<=20000) (i:Int) (r:List C) (vr:Value) (hr:ClRow Tt w r vr) (hrl:r.length<=40000):Calls Tryz.prog 10 #[v,.int .i64 i,vr] w fun e w'=>∃ v',e=.returned (.tuple #[v',.int .i64 (putE i r t)])/\TmIn (OkN w.heap.size w') w' (putT' i r t) v'/\Below w.heap.size w w':=by
 obtain⟨ra,rc,ka,kc,sa,sc,rfl,ht⟩:=hv.form
 obtain⟨w1,hw1⟩:∃ W,W=(w.alloc (.cells #[.int .i64 t.kind,.int .i64 t.n,.string t.name,.slice ra t.r.length rc,.slice ka t.kids.length kc,.slice sa t.sys.length sc] 26)).alloc (.cells #[.int .i64 0,.int .i64 0,.string ⟨#[]⟩,.slice none 0 0,.slice none 0 0,.slice none 0 0] 26):=⟨_,rfl⟩
 have b1:Below w.heap.size w w1:=by rw [hw1];exact bchain (belowA _ _) (belowA _ _)
 obtain⟨X,hX⟩:∃ X,X=w.heap.size:=⟨_,rfl⟩
 have s1:w1.heap.size=X+2:=by rw [hw1,hX];simp
 have x1:Six w1 X (.int .i64 t.kind) (.int .i64 t.n) (.string t.name) (.slice ra t.r.length rc) (.slice ka t.kids.length kc) (.slice sa t.sys.length sc):=⟨by rw [hX,hw1];exact (Below.heap_alloc _ _ _ (by simp)).trans (heapNew w _)⟩
 have x2:Six w1 (X+1) (.int .i64 0) (.int .i64 0) (.string ⟨#[]⟩) (.slice none 0 0) (.slice none 0 0) (.slice none 0 0):=⟨by
  rw [hX,hw1];have:=heapNew (w.alloc (.cells #[.int .i64 t.kind,.int .i64 t.n,.string t.name,.slice ra t.r.length rc,.slice ka t.kids.length kc,.slice sa t.sys.length sc] 26)) (.cells #[.int .i64 0,.int .i64 0,.string ⟨#[]⟩,.slice none 0 0,.slice none 0 0,.slice none 0 0] 26);rwa [World.size_alloc] at this⟩
 have HC:Hid (∀ W,Below w1.heap.size w1 W->Six W X (.int .i64 t.kind) (.int .i64 t.n) (.string t.name) (.slice ra t.r.length rc) (.slice ka t.kids.length kc) (.slice sa t.sys.length sc)):=fun W q=>x1.blw q
 have HZ:Hid (∀ W,Below w1.heap.size w1 W->Six W (X+1) (.int .i64 0) (.int .i64 0) (.string ⟨#[]⟩) (.slice none 0 0) (.slice none 0 0) (.slice none 0 0)):=fun W q=>x2.blw q
 have HT:Hid (∀ W,Below w1.heap.size w1 W->TmIn Tt W t (.agg #[.int .i64 t.kind,.int .i64 t.n,.string t.name,.slice ra t.r.length rc,.slice ka t.kids.length kc,.slice sa t.sys.length sc])):=fun W q=>((ht.blw b1).blw q).value
 have HB:Hid (∀ W,Below w1.heap.size w1 W->Below X w W):=fun W q=>by rw [hX];exact bchain b1 q
 have HXs:Hid (X=w.heap.size):=hX
 have Hs1:Hid (w1.heap.size=X+2):=s1
 have HW:Hid (_=_):=hw1
 have HR:Hid (∀ W,Below w1.heap.size w1 W->ClRow Tt W r vr):=fun W q=>(hr.blw b1).blw q
 have cw:=dwrong_any t _ w1 (HT.out w1 (Below.refl _ _)) hb i r vr (HR.out w1 (Below.refl _ _)) hrl
 have HE:Hid (putE i r t=(if wrD i r t=0 then eT (putOp i r) t 0 else wrD i r t)/\putT' i r t=(if wrD i r t=0 then ansD (putOp i r) t else noT)):=⟨rfl,rfl⟩
 have HOk:Hid (wrD i r t=0->0<=i/\i<=1000000):=fun h=>by have:=(wrD_ok h).1;omega
 obtain⟨e0,he0⟩:∃ e,e=wrD i r t:=⟨_,rfl⟩
 rw [<- he0] at cw HE HOk
 obtain⟨va,vc,rfl,_⟩:=id hr
 obtain⟨LR,hLR⟩:∃ L,L=r.length:=⟨_,rfl⟩
 rw [<- hLR] at cw HR
 simp only [<- hLR]
 rw [<- hX]
 have Hrl:Hid (r.length<=40000):=hrl
 have Hbt:Hid (blk t<=40000):=(by omega:blk t<=40000)
 clear he0 hw1 hX s1 x1 x2 hv ht b1 hr hLR
 go_enter Tryz.func10,Tryz.ntmps10
 go_upto_region 1 with fail
 rw [<- HW.out]
 simp only [<- HXs.out]
 clear HW
 obtain⟨y0,y1,y2,y3,y4,y5,_⟩:=(HC.out w1 (Below.refl _ _)).cells
 go_wp2_with fail
 refine cw.mono ?_
 rintro e w2 ⟨rfl,b2⟩
 clear cw y0 y1 y2 y3 y4 y5
 have hsz:=Hs1.out
 by_cases hz:e0=0
 ·subst hz
  have hok:=HOk.out rfl
  have cP:Hid (∀ V,Below w1.heap.size w1 V->Calls Tryz.prog 40 #[.int .i64 i,.slice va LR vc] V fun e w'=>∃ fV cV,e=.returned (.agg #[fV,cV])/\RowC (putOp i r).fn fV w'/\RowC (putOp i r).fc cV w'/\Below V.heap.size V w'):=fun V q=>putting_any i r _ V (HR.out V q) Hrl.out hok
  have cT:Hid (∀ V fV cV,Below w1.heap.size w1 V->RowC (putOp i r).fn fV V->RowC (putOp i r).fc cV V->Calls Tryz.prog 41 #[.agg #[fV,cV],.agg #[.int .i64 t.kind,.int .i64 t.n,.string t.name,.slice ra t.r.length rc,.slice ka t.kids.length kc,.slice sa t.sys.length sc]] V fun e w'=>∃ v',e=.returned (.tuple #[v',.int .i64 (eT (putOp i r) t 0)])/\TmIn (OkN V.heap.size w') w' (ansD (putOp i r) t) v'/\Below V.heap.size V w'):=fun V fV cV q h1 h2=>dterm_any t _ V (HT.out V q) h1 h2 Hbt.out
  obtain⟨er,her⟩:∃ e,e=eT (putOp i r) t 0:=⟨_,rfl⟩
  obtain⟨T,hT⟩:∃ T,T=ansD (putOp i r) t:=⟨_,rfl⟩
  rw [<- her,<- hT] at cT
  have Hf:Hid (putE i r t=er/\putT' i r t=T):=⟨by rw [HE.out.1,if_pos rfl,her],by rw [HE.out.2,if_pos rfl,hT]⟩
  clear her hT HE HOk
  go_upto_region 4 with fail
  refine wp_region_held_drew (S:=fun V=>Below X w V/\Six V X (.int .i64 t.kind) (.int .i64 t.n) (.string t.name) (.slice ra t.r.length rc) (.slice ka t.kids.length kc) (.slice sa t.sys.length sc)) (by kernel_rfl) ⟨(HB.out w2 b2).drew,⟨(HC.out w2 b2).blk⟩⟩ (fun hS=>?_)
  obtain⟨wd,hwd⟩:∃ V,V=w2.drew:=⟨_,rfl⟩
  have hbd:Below w1.heap.size w1 wd:=by rw [hwd];exact b2.drew
  rw [<- hwd] at hS ⊢
  clear hwd b2
  refine zk 0 (.int .i64 i) rfl (by rfl) (fun w hS=>by go_simp) hS ?_
  try simp only [Act.put,zg1,zg2,zg3,zs1,zs2,zs3]
  refine zk 1 (.slice va LR vc) rfl (by rfl) (fun w hS=>by go_simp) hS ?_
  try simp only [Act.put,zg1,zg2,zg3,zs1,zs2,zs3]
  refine zk 3 (.agg #[.int .i64 t.kind,.int .i64 t.n,.string t.name,.slice ra t.r.length rc,.slice ka t.kids.length kc,.slice sa t.sys.length sc]) rfl (by rfl) (fun w hS=>by obtain⟨y0,y1,y2,y3,y4,y5,_⟩:=hS.2.cells;go_simp) hS ?_
  try simp only [Act.put,zg1,zg2,zg3,zs1,zs2,zs3]
  refine zr 2 rfl (fun KK hKK=>?_)
  refine⟨?_⟩
  have cc:=cP.out wd hbd
  go_simp
  refine cc.mono ?_
  rintro e w3 ⟨fV,cV,rfl,hF,hC,hbq⟩
  have hbd:Below w1.heap.size w1 w3:=hbd.trans (hbq.mono hbd.size)
  clear cc hbq
  refine hKK.out _ _ ⟨HB.out w3 hbd,HC.out w3 hbd⟩ (fun hS=>?_)
  clear hKK KK
  try simp only [Act.put,zg1,zg2,zg3,zs1,zs2,zs3]
  refine zr 4 rfl (fun KK hKK=>?_)
  refine⟨?_⟩
  have cc:=cT.out w3 fV cV hbd hF hC
  go_simp
  refine cc.mono ?_
  rintro e w4 ⟨v3,rfl,hv3,hb3⟩
  obtain⟨ra2,rc2,ka2,kc2,sa2,sc2,rfl,ht2⟩:=hv3.form
  have htv:=ht2.value
  have hn3:=hbd.size
  have hbd:Below w1.heap.size w1 w4:=hbd.trans (hb3.mono hbd.size)
  clear cc ht2 hv3
  refine hKK.out _ _ ⟨HB.out w4 hbd,HC.out w4 hbd⟩ (fun hS=>?_)
  clear hKK KK
  try simp only [Act.put,zg1,zg2,zg3,zs1,zs2,zs3]
  refine zk 5 (.agg #[.int .i64 T.kind,.int .i64 T.n,.string T.name,.slice ra2 T.r.length rc2,.slice ka2 T.kids.length kc2,.slice sa2 T.sys.length sc2]) rfl (by rfl) (fun w hS=>by go_simp) hS ?_
  try simp only [Act.put,zg1,zg2,zg3,zs1,zs2,zs3]
  refine zk 6 (.int .i64 er) rfl (by rfl) (fun w hS=>by go_simp) hS ?_
  try simp only [Act.put,zg1,zg2,zg3,zs1,zs2,zs3]
  have zz:=HZ.out w4 hbd
  have zz2:=zz.set6 (.int .i64 T.kind) (.int .i64 T.n) (.string T.name) (.slice ra2 T.r.length rc2) (.slice ka2 T.kids.length kc2) (.slice sa2 T.sys.length sc2)
  obtain⟨o0,o1,o2,o3,o4,o5,ff⟩:=zz.cells
  have f0:=ff 0
  have f1:=ff 1
  have f2:=ff 2
  have f3:=ff 3
  have f4:=ff 4
  have f5:=ff 5
  obtain⟨w5,hwz⟩:∃ W,W=(((((w4.setCell ⟨X+1,0,none⟩ (.int .i64 T.kind)).setCell ⟨X+1,1,none⟩ (.int .i64 T.n)).setCell ⟨X+1,2,none⟩ (.string T.name)).setCell ⟨X+1,3,none⟩ (.slice ra2 T.r.length rc2)).setCell ⟨X+1,4,none⟩ (.slice ka2 T.kids.length kc2)).setCell ⟨X+1,5,none⟩ (.slice sa2 T.sys.length sc2):=⟨_,rfl⟩
  rw [<- hwz] at zz2
  have kz:Kn (fun q=>q≠X+1) w4 w5:=by rw [hwz];exact kn_set6 _ _ _ _ _ _ _ _
  have HTm:Hid (TmIn (OkN X w5) w5 T (.agg #[.int .i64 T.kind,.int .i64 T.n,.string T.name,.slice ra2 T.r.length rc2,.slice ka2 T.kids.length kc2,.slice sa2 T.sys.length sc2])):=keepD htv kz (by omega) (by omega)
  have hS5:Below X w w5/\Six w5 X (.int .i64 t.kind) (.int .i64 t.n) (.string t.name) (.slice ra t.r.length rc) (.slice ka t.kids.length kc) (.slice sa t.sys.length sc):=⟨(HB.out w4 hbd).trans (kz.below (fun q hq=>by omega) (by have:=(HB.out w4 hbd).size;have:=HXs.out;omega)),(HC.out w4 hbd).kn kz (by omega)⟩
  have Hwz:Hid (_=_):=hwz
  clear hwz ff zz kz htv
  refine zr 7 rfl (fun KK hKK=>?_)
  refine⟨?_⟩
  go_simp
  rw [<- Hwz.out]
  refine hKK.out _ _ hS5 (fun hS=>?_)
  clear hKK KK
  try simp only [Act.put,zg1,zg2,zg3,zs1,zs2,zs3]
  refine zk 8 (.int .i64 er) rfl (by rfl) (fun w hS=>by go_simp) hS ?_
  try simp only [Act.put,zg1,zg2,zg3,zs1,zs2,zs3]
  obtain⟨h0,h1,h2,h3,h4,h5,_⟩:=zz2.cells
  refine wpAnyH_done (by kernel_rfl) ?_ _
  go_wp2_with fail
  exact bodyPost_ret (v:=.tuple #[.agg #[.int .i64 T.kind,.int .i64 T.n,.string T.name,.slice ra2 T.r.length rc2,.slice ka2 T.kids.length kc2,.slice sa2 T.sys.length sc2],.int .i64 (er)]) (by simp only [results,Tryz.results10];simp [go_sem,h0,h1,h2,h3,h4,h5]) rfl ⟨_,by rw [Hf.out.1],by rw [Hf.out.2];exact HTm.out,hS.1⟩
 ·skip
  have Hf:Hid (putE i r t=e0/\putT' i r t=noT):=⟨by rw [HE.out.1,if_neg hz],by rw [HE.out.2,if_neg hz]⟩
  have hz1:(e0 == 0)=false:=by simpa using hz
  clear HE HOk
  have zz:=HZ.out w2 b2
  obtain⟨wz,hwz,zz2,kz,o0,o1,o2,o3,o4,o5,f0,f1,f2,f3,f4,f5⟩:=zst zz (.int .i64 0) (.int .i64 0) (.string ⟨#[]⟩) (.slice none 0 0) (.slice none 0 0) (.slice none 0 0)
  obtain⟨h0,h1,h2,h3,h4,h5,_⟩:=zz2.cells
  have bz:Below X w wz:=(HB.out w2 b2).trans (kz.below (fun q hq=>by omega) (by have:=(HB.out w2 b2).size;have:=HXs.out;omega))
  have Hwz:Hid (_=_):=hwz
  clear hwz zz zz2 kz
  go_wp2_with fail
  rw [<- Hwz.out]
  exact bodyPost_ret (v:=.tuple #[.agg #[.int .i64 0,.int .i64 0,.string ⟨#[]⟩,.slice none 0 0,.slice none 0 0,.slice none 0 0],.int .i64 (e0)]) (by simp only [results,Tryz.results10];simp [go_sem,h0,h1,h2,h3,h4,h5]) rfl ⟨_,by rw [Hf.out.1],by rw [Hf.out.2];exact noT_in _ _,bz⟩
end Go.Proofs.YtblbhmnahoiecaaGreat
