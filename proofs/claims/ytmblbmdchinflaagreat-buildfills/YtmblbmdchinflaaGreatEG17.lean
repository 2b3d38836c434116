/- Formulas in the places of dimensions: how a formula is put. -/
import Derived.Test.YtmblbmdchinflaaGreatEG5
import Derived.Test.YtmblbmdchinflaaGreatEG15
import Derived.Test.YtmblbmdchinflaaGreatEFD
import Derived.Laws.MakeOwn
set_option linter.unusedVariables false
set_option linter.unusedSimpArgs false
set_option maxRecDepth 100000
set_option maxHeartbeats 4000000
namespace Go.Proofs.YtmblbmdchinflaaGreat
open Go.RowKit
def putRow (PF:List C→Int→List C→List C × Int) (i:Int) (r l:List C) (bd:Nat):List C × Int :=
 if hasB (dimsN l) (i+bd) then (if (liftFF r 0 bd).2=0 then PF l (i+bd) (liftFF r 0 bd).1 else ([],(liftFF r 0 bd).2)) else (l,0)
def putOp (i:Int) (r:List C):DOp:=⟨putRow putF i r,putRow ptA i r⟩
theorem liftFF_len (l:List C) (a b:Int):(liftFF l a b).1.length≤64:=by
 unfold liftFF
 split
 ·split
  ·exact leastF_len _
  ·simp
 ·simp
def PutC (PF:List C→Int→List C→List C × Int) (pf:FuncId):Prop:=∀ (l r:List C) (i:Int) (vl vr:Value) (w:World),FRow w vl l→FRow w vr r→l.length≤40000→r.length≤40000→Calls Tryz.prog pf #[vl,.int .i64 i,vr] w fun e w'=>∃ v,e=.returned (.tuple #[v,.int .i64 (PF l i r).2])∧OwnsC w' w.heap.size v (PF l i r).1∧Below w.heap.size w w'
theorem prow_any {PF:List C→Int→List C→List C × Int} {pf:FuncId} (hP:PutC PF pf) (egp:∀ args w,(callFunc pf args).run Tryz.prog w=.ok (.enter pf args) w) (i:Int) (r:List C) (vr:Value) (xi xp xr:Nat) (w:World) (hi:w.heap[xi]? = some (.cells #[.int .i64 i] 3 (0,0))) (hp:w.heap[xp]? = some (.cells #[.func (.func pf) #[] #[]] 101 (0,0))) (hr:w.heap[xr]? = some (.cells #[vr] 22 (0,0))) (hrr:ClRow Tt w r vr) (hrl:r.length≤40000) (hi0:0≤i∧i≤1000000) :
  RowC (putRow PF i r) (.func (.func 82) #[] #[.pointer (some ⟨xi,0,none⟩),.pointer (some ⟨xp,0,none⟩),.pointer (some ⟨xr,0,none⟩)]) w:=by
 refine⟨_,_,rfl,enters_of Tryz.func82 (by kernel_rfl) rfl,?_⟩
 intro l bd v W hW hl hll hbd
 have li:=(Array.getElem?_eq_some_iff.1 hi).1
 have lp:=(Array.getElem?_eq_some_iff.1 hp).1
 have lr:=(Array.getElem?_eq_some_iff.1 hr).1
 have ci:Hid (∀ V,Below W.heap.size W V→V.cell? ⟨xi,0,none⟩=some (.int .i64 i)):=fun V q=>((bchain hW q).cell (p:=⟨xi,0,none⟩) li).trans (by simp [World.cell?,hi])
 have cp:Hid (∀ V,Below W.heap.size W V→V.cell? ⟨xp,0,none⟩=some (.func (.func pf) #[] #[])):=fun V q=>((bchain hW q).cell (p:=⟨xp,0,none⟩) lp).trans (by simp [World.cell?,hp])
 have cr:Hid (∀ V,Below W.heap.size W V→V.cell? ⟨xr,0,none⟩=some vr):=fun V q=>((bchain hW q).cell (p:=⟨xr,0,none⟩) lr).trans (by simp [World.cell?,hr])
 have hdlt:=dimsN_lt32 l
 have cD:Hid (∀ V,Below W.heap.size W V→Calls Tryz.prog 84 #[v] V fun e w'=>e=.returned (.int .u32 ((dimsN l:Nat):Int))∧Below V.heap.size V w'):=fun V q=>Dims_any l v V (hl.blw q).row (by omega)
 have cL:Hid (∀ V,Below W.heap.size W V→Calls Tryz.prog 43 #[vr,.int .i64 0,.int .i64 (bd:Int)] V fun e w'=>∃ v,e=.returned (.tuple #[v,.int .i64 (liftFF r 0 bd).2])∧OwnsC w' V.heap.size v (liftFF r 0 bd).1∧Below V.heap.size V w'):=fun V q=>Lift_any r 0 bd vr V ((hrr.blw hW).blw q).frow hrl
 have cC:Hid (∀ V,Below W.heap.size W V→Calls Tryz.prog 85 #[v] V fun e w'=>∃ v',e=.returned v'∧OwnsC w' V.heap.size v' l∧Below V.heap.size V w'):=fun V q=>clone_any l v V (hl.blw q) (by omega)
 have cP:Hid (∀ V vq,Below W.heap.size W V→FRow V vq (liftFF r 0 bd).1→Calls Tryz.prog pf #[v,.int .i64 (i+(bd:Int)),vq] V fun e w'=>∃ v,e=.returned (.tuple #[v,.int .i64 (PF l (i+bd) (liftFF r 0 bd).1).2])∧OwnsC w' V.heap.size v (PF l (i+bd) (liftFF r 0 bd).1).1∧Below V.heap.size V w'):=fun V vq q hq=>hP l (liftFF r 0 bd).1 (i+bd) v vq V (hl.blw q).frow hq hll (by have:=liftFF_len r 0 bd;omega)
 have HQ:Hid (putRow PF i r l bd=if hasB (dimsN l) (i+bd) then (if (liftFF r 0 bd).2=0 then PF l (i+bd) (liftFF r 0 bd).1 else ([],(liftFF r 0 bd).2)) else (l,0)):=(rfl:_=_)
 obtain⟨PR,hPR⟩:∃ P,P=putRow PF i r l bd:=⟨_,rfl⟩
 rw [← hPR] at HQ ⊢
 obtain⟨LF,hLF⟩:∃ L,L=liftFF r 0 bd:=⟨_,rfl⟩
 rw [← hLF] at HQ cL cP
 have wr2:IntKind.i64.wrap (i+(bd:Int))=i+(bd:Int):=by simp [IntKind.wrap,IntKind.bits,IntKind.signed];omega
 obtain⟨va,vc,rfl,_⟩:=id hl
 obtain⟨rva,rvc,rfl,_⟩:=id hrr
 obtain⟨LL,hLL⟩:∃ L,L=l.length:=⟨_,rfl⟩
 obtain⟨LR,hLR⟩:∃ L,L=r.length:=⟨_,rfl⟩
 rw [← hLL] at cD cC cP
 rw [← hLR] at cr cL
 simp only [← hLL]
 obtain⟨DN,hDN⟩:∃ d,d=dimsN l:=⟨_,rfl⟩
 rw [← hDN] at cD HQ hdlt
 clear hPR hLF hW hl hrr hi hp hr li lp lr hP hLL hLR hDN
 show Calls Tryz.prog 82 #[.slice va LL vc,.int .i64 (bd:Int),.pointer (some ⟨xi,0,none⟩),.pointer (some ⟨xp,0,none⟩),.pointer (some ⟨xr,0,none⟩)] W _
 go_enter Tryz.func82,Tryz.ntmps82
 go_upto_region 1 with fail
 have hS1:Below W.heap.size W W:=Below.refl _ _
 go_cut [14] (fun s wx=>s=.bool (!hasB DN (i+bd))∧Below W.heap.size W wx)
 case first=>as_aux_lemma =>
  refine wp_region_held_drew (S:=fun V=>Below W.heap.size W V) (by kernel_rfl) (hS1.drew) (fun hS=>?_)
  obtain⟨wd,hwd⟩:∃ V,V=W.drew:=⟨_,rfl⟩
  rw [← hwd] at hS ⊢
  clear hwd
  refine zk 0 (.slice va LL vc) rfl (by rfl) (fun w hS=>by go_simp) hS ?_
  try simp only [Act.put,zg1,zg2,zg3,zs1,zs2,zs3]
  refine zk 2 (.int .i64 i) rfl (by rfl) (fun w hS=>by have e:=ci.out w hS;go_simp) hS ?_
  try simp only [Act.put,zg1,zg2,zg3,zs1,zs2,zs3]
  refine zk 3 (.int .i64 (bd:Int)) rfl (by rfl) (fun w hS=>by go_simp) hS ?_
  try simp only [Act.put,zg1,zg2,zg3,zs1,zs2,zs3]
  refine zk 4 (.int .i64 (i+(bd:Int))) rfl (by rfl) (fun w hS=>by have e2:=wr2;go_simp) hS ?_
  try simp only [Act.put,zg1,zg2,zg3,zs1,zs2,zs3]
  refine wpAnyH_ready (rs:=[1]) (by kernel_rfl) (by simp) ?_
  refine ready_cons rfl (fun KK hKK=>?_) AllReadyH.nil
  refine⟨?_⟩
  have cc:=cD.out wd hS
  go_simp
  refine cc.mono ?_
  rintro e w2 ⟨rfl,hb2⟩
  have hS2:Below W.heap.size W w2:=hS.trans (hb2.mono hS.size)
  clear cc
  refine hKK.out _ _ hS2 (fun hS=>?_)
  clear hKK KK
  try simp only [Act.put,zg1,zg2,zg3,zs1,zs2,zs3]
  refine wpAnyH_ready (rs:=[5]) (by kernel_rfl) (by simp) ?_
  refine ready_cons rfl (fun KK hKK=>?_) AllReadyH.nil
  refine⟨?_⟩
  have cc:=has_any DN (i+(bd:Int)) w2 hdlt
  go_simp
  refine cc.mono ?_
  rintro e w3 ⟨rfl,hw3⟩
  replace hw3:=hw3.symm
  subst hw3
  clear cc
  refine hKK.out _ _ hS (fun hS=>?_)
  clear hKK KK
  try simp only [Act.put,zg1,zg2,zg3,zs1,zs2,zs3]
  refine zk 6 (.bool (!hasB DN (i+bd))) rfl (by rfl) (fun w hS=>by go_simp) hS ?_
  try simp only [Act.put,zg1,zg2,zg3,zs1,zs2,zs3]
  refine wpAnyH_done (by kernel_rfl) ?_ _
  go_wp2_with fail
  go_meet
  exact⟨rfl,hS⟩
 case rest =>
 obtain⟨rfl,hS1⟩:=hcut
 obtain⟨w1,hw1⟩:∃ V,V=wc:=⟨_,rfl⟩
 subst hw1
 cases hh:hasB DN (i+bd)
 ·have hq:PR=(l,0):=by rw [HQ.out,hh];rfl
  subst hq
  have cc:=cC.out w1 hS1
  clear cD cL cP HQ
  go_wp2_with fail
  refine cc.mono ?_
  rintro e w2 ⟨v2,rfl,hO2,hb2⟩
  clear cc
  have hO3:=OwnsC.mono hO2 hS1.size
  have hb3:=hS1.trans (hb2.mono hS1.size)
  obtain⟨a2,c2,rfl⟩:=OwnsC.len hO3
  go_wp2_with fail
  go_ret
  exact⟨.ok rfl hO3,hb3⟩
 ·have hq:PR=if LF.2=0 then PF l (i+bd) LF.1 else ([],LF.2):=by rw [HQ.out,hh];rfl
  have HP1:Hid (LF.2≠0→PR.2=LF.2):=fun h=>by rw [hq,if_neg h]
  have HP0:Hid (LF.2=0→PR=PF l (i+bd) LF.1):=fun h=>by rw [hq,if_pos h]
  clear hq HQ cD cC
  go_upto_region 3 with fail
  refine wp_region_held_drew (S:=fun V=>Below W.heap.size W V) (by kernel_rfl) (hS1.drew) (fun hS=>?_)
  obtain⟨wd,hwd⟩:∃ V,V=w1.drew:=⟨_,rfl⟩
  rw [← hwd] at hS ⊢
  clear hwd
  refine zk 0 (.func (.func pf) #[] #[]) rfl (by rfl) (fun w hS=>by have e:=cp.out w hS;go_simp) hS ?_
  try simp only [Act.put,zg1,zg2,zg3,zs1,zs2,zs3]
  refine zk 1 (.slice va LL vc) rfl (by rfl) (fun w hS=>by go_simp) hS ?_
  try simp only [Act.put,zg1,zg2,zg3,zs1,zs2,zs3]
  refine zk 2 (.int .i64 i) rfl (by rfl) (fun w hS=>by have e:=ci.out w hS;go_simp) hS ?_
  try simp only [Act.put,zg1,zg2,zg3,zs1,zs2,zs3]
  refine zk 3 (.int .i64 (bd:Int)) rfl (by rfl) (fun w hS=>by go_simp) hS ?_
  try simp only [Act.put,zg1,zg2,zg3,zs1,zs2,zs3]
  refine zk 4 (.int .i64 (i+(bd:Int))) rfl (by rfl) (fun w hS=>by have e2:=wr2;go_simp) hS ?_
  try simp only [Act.put,zg1,zg2,zg3,zs1,zs2,zs3]
  refine zk 5 (.slice rva LR rvc) rfl (by rfl) (fun w hS=>by have e:=cr.out w hS;go_simp) hS ?_
  try simp only [Act.put,zg1,zg2,zg3,zs1,zs2,zs3]
  refine zk 6 (.int .i64 (bd:Int)) rfl (by rfl) (fun w hS=>by go_simp) hS ?_
  try simp only [Act.put,zg1,zg2,zg3,zs1,zs2,zs3]
  refine wpAnyH_ready (rs:=[7]) (by kernel_rfl) (by simp) ?_
  refine ready_cons rfl (fun KK hKK=>?_) AllReadyH.nil
  refine⟨?_⟩
  have cc:=cL.out wd hS
  go_simp
  refine cc.mono ?_
  rintro e w2 ⟨v2,rfl,hO2,hb2⟩
  have hS2:Below W.heap.size W w2:=hS.trans (hb2.mono hS.size)
  obtain⟨a2,c2,rfl⟩:=OwnsC.len hO2
  obtain⟨L2,hL2⟩:∃ L,L=LF.1.length:=⟨_,rfl⟩
  rw [← hL2] at hO2 ⊢
  obtain⟨e2,he2⟩:∃ e,e=LF.2:=⟨_,rfl⟩
  rw [← he2] at HP1 HP0 ⊢
  have hF2:=OwnsC.frow hO2
  clear cc hL2 he2
  refine hKK.out _ _ hS2 (fun hS=>?_)
  clear hKK KK
  try simp only [Act.put,zg1,zg2,zg3,zs1,zs2,zs3]
  refine zk 8 (.slice a2 L2 c2) rfl (by rfl) (fun w hS=>by go_simp) hS ?_
  try simp only [Act.put,zg1,zg2,zg3,zs1,zs2,zs3]
  refine zk 9 (.int .i64 e2) rfl (by rfl) (fun w hS=>by go_simp) hS ?_
  try simp only [Act.put,zg1,zg2,zg3,zs1,zs2,zs3]
  refine wpAnyH_ready (rs:=[10]) (by kernel_rfl) (by simp) ?_
  refine ready_cons rfl (fun KK hKK=>?_) AllReadyH.nil
  refine⟨?_⟩
  have cc:=told_any (.slice a2 L2 c2) e2 w2 (fun v=>v=.slice a2 L2 c2) (fun _=>rfl)
  go_simp
  refine cc.mono ?_
  rintro e w3 ⟨⟨h0,v3,rfl,rfl⟩ | ⟨hne,rfl⟩,hw3⟩
  rotate_left
  ·rw [hw3]
   exact⟨rfl,.inr ⟨by rw [HP1.out hne];exact hne,by rw [HP1.out hne]⟩,hS⟩
  replace hw3:=hw3.symm
  subst hw3
  subst h0
  have HP2:Hid (PR=PF l (i+bd) LF.1):=HP0.out rfl
  clear cc HP0 HP1
  refine hKK.out _ _ hS (fun hS=>?_)
  clear hKK KK
  try simp only [Act.put,zg1,zg2,zg3,zs1,zs2,zs3]
  refine wpAnyH_ready (rs:=[11]) (by kernel_rfl) (by simp) ?_
  refine ready_cons rfl (fun KK hKK=>?_) AllReadyH.nil
  refine⟨?_⟩
  have cc:=cP.out w2 _ hS hF2
  rw [← HP2.out] at cc
  go_simp
  refine cc.mono ?_
  rintro e w4 ⟨v4,rfl,hO4,hb4⟩
  have hS4:Below W.heap.size W w4:=hS.trans (hb4.mono hS.size)
  have hO5:=OwnsC.mono hO4 hS.size
  obtain⟨a4,c4,rfl⟩:=OwnsC.len hO5
  clear cc
  refine hKK.out _ _ hS4 (fun hS=>?_)
  clear hKK KK
  try simp only [Act.put,zg1,zg2,zg3,zs1,zs2,zs3]
  refine zk 12 (.slice a4 PR.1.length c4) rfl (by rfl) (fun w hS=>by go_simp) hS ?_
  try simp only [Act.put,zg1,zg2,zg3,zs1,zs2,zs3]
  refine zk 13 (.int .i64 PR.2) rfl (by rfl) (fun w hS=>by go_simp) hS ?_
  try simp only [Act.put,zg1,zg2,zg3,zs1,zs2,zs3]
  refine wpAnyH_ready (rs:=[14]) (by kernel_rfl) (by simp) ?_
  refine ready_cons rfl (fun KK hKK=>?_) AllReadyH.nil
  refine⟨?_⟩
  have cc:=told_any (.slice a4 PR.1.length c4) PR.2 w4 (fun v=>v=.slice a4 PR.1.length c4) (fun _=>rfl)
  go_simp
  refine cc.mono ?_
  rintro e w5 ⟨⟨h0,v5,rfl,rfl⟩ | ⟨hne,rfl⟩,hw5⟩
  rotate_left
  ·rw [hw5]
   exact⟨rfl,.inr ⟨hne,rfl⟩,hS⟩
  replace hw5:=hw5.symm
  subst hw5
  have H0:Hid (PR.2=0):=h0
  clear cc h0
  refine hKK.out _ _ hS (fun hS=>?_)
  clear hKK KK
  try simp only [Act.put,zg1,zg2,zg3,zs1,zs2,zs3]
  refine zk 15 (.slice a4 PR.1.length c4) rfl (by rfl) (fun w hS=>by go_simp) hS ?_
  try simp only [Act.put,zg1,zg2,zg3,zs1,zs2,zs3]
  refine wpAnyH_done (by kernel_rfl) ?_ _
  go_wp2_with fail
  go_ret
  exact⟨.ok H0.out hO5,hS⟩
theorem fput_eg:∀ args w,(callFunc 87 args).run Tryz.prog w=.ok (.enter 87 args) w:=enters_of Tryz.func87 (by kernel_rfl) rfl
theorem aput_eg:∀ args w,(callFunc 88 args).run Tryz.prog w=.ok (.enter 88 args) w:=enters_of Tryz.func88 (by kernel_rfl) rfl
theorem mk1_eg:∀ args w,(callFunc 81 args).run Tryz.prog w=.ok (.enter 81 args) w:=enters_of Tryz.func81 (by kernel_rfl) rfl
theorem mkput_any (pf:FuncId) (xi xr:Nat) (w:World):Calls Tryz.prog 81 #[.func (.func pf) #[] #[],.pointer (some ⟨xi,0,none⟩),.pointer (some ⟨xr,0,none⟩)] w fun e w'=>e=.returned (.func (.func 82) #[] #[.pointer (some ⟨xi,0,none⟩),.pointer (some ⟨w.heap.size,0,none⟩),.pointer (some ⟨xr,0,none⟩)])∧w'=w.alloc (.cells #[.func (.func pf) #[] #[]] 101):=by
 have hmk:=mkfd
 go_enter Tryz.func81,Tryz.ntmps81
 go_wp2
 go_ret
 exact⟨rfl,rfl⟩
theorem putting_any (i:Int) (r:List C) (vr:Value) (w:World) (hrr:ClRow Tt w r vr) (hrl:r.length≤40000) (hi0:0≤i∧i≤1000000) :
  Calls Tryz.prog 44 #[.int .i64 i,vr] w fun e w'=>∃ fV cV,e=.returned (.agg #[fV,cV])∧RowC (putOp i r).fn fV w'∧RowC (putOp i r).fc cV w'∧Below w.heap.size w w':=by
 obtain⟨va,vc,rfl,_⟩:=id hrr
 obtain⟨X,hX⟩:∃ X,X=w.heap.size:=⟨_,rfl⟩
 obtain⟨w1,hw1⟩:∃ W,W=((w.alloc (.cells #[.int .i64 i] 3)).alloc (.cells #[.slice va r.length vc] 22)).alloc (.cells #[.nilFunc,.nilFunc] 72):=⟨_,rfl⟩
 have b1:Below w.heap.size w w1:=by rw [hw1];exact bchain (bchain (belowA _ _) (belowA _ _)) (belowA _ _)
 have s1:w1.heap.size=X+3:=by rw [hw1,hX];simp
 have m0:w1.heap[X]? = some (.cells #[.int .i64 i] 3 (0,0)):=by
  rw [hw1,hX];exact (Below.heap_alloc _ _ _ (by simp;omega)).trans ((Below.heap_alloc _ _ _ (by simp)).trans (heapNew w _))
 have m1:w1.heap[X+1]? = some (.cells #[.slice va r.length vc] 22 (0,0)):=by
  rw [hw1,hX]
  refine (Below.heap_alloc _ _ _ (by simp)).trans ?_
  have:=heapNew (w.alloc (.cells #[.int .i64 i] 3)) (.cells #[.slice va r.length vc] 22);rwa [World.size_alloc] at this
 have m2:w1.heap[X+2]? = some (.cells #[.nilFunc,.nilFunc] 72 (0,0)):=by
  rw [hw1,hX]
  have:=heapNew ((w.alloc (.cells #[.int .i64 i] 3)).alloc (.cells #[.slice va r.length vc] 22)) (.cells #[.nilFunc,.nilFunc] 72);rwa [World.size_alloc,World.size_alloc] at this
 obtain⟨w2,hw2⟩:∃ W,W=w1.alloc (.cells #[.func (.func 87) #[] #[]] 101):=⟨_,rfl⟩
 obtain⟨w3,hw3⟩:∃ W,W=w2.alloc (.cells #[.func (.func 88) #[] #[]] 101):=⟨_,rfl⟩
 have b2:Below w1.heap.size w1 w2:=by rw [hw2];exact belowA _ _
 have b3:Below w2.heap.size w2 w3:=by rw [hw3];exact belowA _ _
 have s2:w2.heap.size=X+4:=by rw [hw2];simp;omega
 have s3:w3.heap.size=X+5:=by rw [hw3];simp;omega
 have m3:w2.heap[X+3]? = some (.cells #[.func (.func 87) #[] #[]] 101 (0,0)):=by rw [hw2];have:=heapNew w1 (.cells #[.func (.func 87) #[] #[]] 101);rwa [s1] at this
 have m4:w3.heap[X+4]? = some (.cells #[.func (.func 88) #[] #[]] 101 (0,0)):=by rw [hw3];have:=heapNew w2 (.cells #[.func (.func 88) #[] #[]] 101);rwa [s2] at this
 obtain⟨A,hA⟩:∃ A:Value,A=.func (.func 82) #[] #[.pointer (some ⟨X,0,none⟩),.pointer (some ⟨X+3,0,none⟩),.pointer (some ⟨X+1,0,none⟩)]:=⟨_,rfl⟩
 obtain⟨B,hB⟩:∃ B:Value,B=.func (.func 82) #[] #[.pointer (some ⟨X,0,none⟩),.pointer (some ⟨X+4,0,none⟩),.pointer (some ⟨X+1,0,none⟩)]:=⟨_,rfl⟩
 obtain⟨w4,hw4⟩:∃ W,W=(w3.setCell ⟨X+2,0,none⟩ A).setCell ⟨X+2,1,none⟩ B:=⟨_,rfl⟩
 have k4:Kn (fun q=>q≠X+2) w3 w4:=by rw [hw4];exact (kn_set _ _ _ _).trans (kn_set _ _ _ _)
 have b13:=bchain b2 b3
 have n0:w3.heap[X]? = _:=(b13.block X (by omega)).trans m0
 have n1:w3.heap[X+1]? = _:=(b13.block (X+1) (by omega)).trans m1
 have n2:w3.heap[X+2]? = _:=(b13.block (X+2) (by omega)).trans m2
 have n3:w3.heap[X+3]? = _:=(b3.block (X+3) (by omega)).trans m3
 have r3:=(hrr.blw b1).blw b13
 have bw3:=bchain b1 b13
 have b4:Below w.heap.size w w4:=bw3.trans (k4.below (fun q hq=>by omega) (by omega))
 have r4:ClRow Tt w4 r (.slice va r.length vc):=hrr.blw b4
 have HA:Hid (RowC (putOp i r).fn A w4):=by
  rw [hA];exact prow_any (PF:=putF) (pf:=87) (fun l r i vl vr w h1 h2 h3 h4=>Put_any l r i vl vr w h1 h2 h3 h4) fput_eg i r _ X (X+3) (X+1) w4 ((k4.block X (by omega) (by omega)).trans n0) ((k4.block (X+3) (by omega) (by omega)).trans n3) ((k4.block (X+1) (by omega) (by omega)).trans n1) r4 hrl hi0
 have HB:Hid (RowC (putOp i r).fc B w4):=by
  rw [hB];exact prow_any (PF:=ptA) (pf:=88) (fun l r i vl vr w h1 h2 h3 h4=>APut_any l r i vl vr w h1 h2 h3 h4) aput_eg i r _ X (X+4) (X+1) w4 ((k4.block X (by omega) (by omega)).trans n0) ((k4.block (X+4) (by omega) (by omega)).trans m4) ((k4.block (X+1) (by omega) (by omega)).trans n1) r4 hrl hi0
 have c1:=mkput_any 87 X (X+1) w1
 have c2:=mkput_any 88 X (X+1) w2
 rw [← hw2,s1,← hA] at c1
 rw [← hw3,s2,← hB] at c2
 have z0:w3.cell? ⟨X+2,0,none⟩=some .nilFunc:=by simp [World.cell?,n2]
 have z1:w3.cell? ⟨X+2,1,none⟩=some .nilFunc:=by simp [World.cell?,n2]
 have f0:w3.frozen? ⟨X+2,0,none⟩=false:=by simp [World.frozen?,n2]
 have f1:w3.frozen? ⟨X+2,1,none⟩=false:=by simp [World.frozen?,n2]
 have n4:=set_blk (i:=1) (set_blk (i:=0) n2 A) B
 rw [← hw4] at n4
 have y0:w4.cell? ⟨X+2,0,none⟩=some A:=by simp [World.cell?,n4]
 have y1:w4.cell? ⟨X+2,1,none⟩=some B:=by simp [World.cell?,n4]
 have HX:Hid (X=w.heap.size):=hX
 have H1:Hid (_=_):=hw1
 have H4:Hid (_=_):=hw4
 have hmk:=mkfd
 have eg:=mk1_eg
 clear hw1 hw2 hw3 hw4 hX m0 m1 m2 m3 m4 n0 n1 n2 n3 n4 b1 b2 b3 s1 s2 s3 b13 r3 r4 bw3 k4 hrr
 subst hA
 subst hB
 go_enter Tryz.func44,Tryz.ntmps44
 go_upto_region 2 with fail
 rw [← H1.out]
 simp only [← HX.out]
 clear H1
 go_wp2_with fail
 refine c1.mono ?_
 rintro e wx ⟨rfl,rfl⟩
 clear c1
 go_wp2_with fail
 refine c2.mono ?_
 rintro e wx ⟨rfl,rfl⟩
 clear c2
 go_wp2_with fail
 rw [← H4.out]
 exact bodyPost_ret (v:=.agg #[.func (.func 82) #[] #[.pointer (some ⟨X,0,none⟩),.pointer (some ⟨X+3,0,none⟩),.pointer (some ⟨X+1,0,none⟩)],.func (.func 82) #[] #[.pointer (some ⟨X,0,none⟩),.pointer (some ⟨X+4,0,none⟩),.pointer (some ⟨X+1,0,none⟩)]]) (by simp only [results,Tryz.results44];simp [go_sem,y0,y1]) rfl ⟨_,_,rfl,HA.out,HB.out,b4⟩
def drC (i:Int) (c:C):C:=(⟨dropN c.1.val i,Nat.lt_trans (dropN_lt _ _) (by decide)⟩,⟨dropN c.2.val i,Nat.lt_trans (dropN_lt _ _) (by decide)⟩)
def dropRow (i:Int) (l:List C) (bd:Nat):List C × Int:=(l.map (drC (i+bd)),0)
def dropOp (i:Int):DOp:=⟨dropRow i,dropRow i⟩
def nilC:C:=(⟨0,by decide⟩,⟨0,by decide⟩)
def drK (i:Int) (l:List C) (k:Nat):List C:=(l.take k).map (drC i) ++ List.replicate (l.length - k) nilC
theorem drK_zero (i:Int) (l:List C):drK i l 0=List.replicate l.length nilC:=by simp [drK]
theorem drK_all (i:Int) (l:List C):drK i l l.length=l.map (drC i):=by simp [drK]
theorem drK_len (i:Int) (l:List C) (k:Nat) (h:k≤l.length):(drK i l k).length=l.length:=by simp [drK];omega
theorem drK_step {i:Int} {l:List C} {k:Nat} {c:C} (h:l[k]? = some c):(drK i l k).set k (drC i c)=drK i l (k+1):=by
 have hk:=(List.getElem?_eq_some_iff.1 h).1
 have e:l.length - k=(l.length - (k+1)) + 1:=by omega
 unfold drK
 rw [List.take_add_one,h,e,List.replicate_succ]
 simp only [Option.toList_some,List.map_append,List.map_cons,List.map_nil,List.append_assoc,List.cons_append,List.nil_append]
 rw [List.set_append_right _ _ (by simp;omega)]
 have e2:k - (List.map (drC i) (List.take k l)).length=0:=by simp;omega
 rw [e2];rfl
theorem flat_repl:∀ n:Nat,flat (List.replicate n nilC)=List.replicate (n*2) (.int .u32 0)
 | 0=>rfl
 | n+1=>by
  have e:(n+1) * 2=n*2+1+1:=by omega
  rw [List.replicate_succ,e,List.replicate_succ,List.replicate_succ,← flat_repl n]
  rfl
theorem made_repl (n:Nat):(madeCells #[.int .u32 0,.int .u32 0] n).toList=List.replicate n (.int .u32 0):=by
 refine List.eq_replicate_iff.2 ⟨by simp [madeCells],fun x hx=>?_⟩
 rw [Array.mem_toList_iff] at hx
 unfold madeCells at hx
 obtain⟨j,_,rfl⟩:=Array.mem_map.1 hx
 have hj:j % 2=0∨j % 2=1:=by omega
 rcases hj with h|h <;> simp [h]
theorem makeCl (n:Nat) (w:World) (hn:n≤1000000):∃ W,(Instr.makeSlice 22 (.int .i64 (n:Int)) (.int .i64 (n:Int))).run Tryz.prog w=.ok (.slice (some ⟨w.heap.size,0,none⟩) n n) W∧OwnsC W w.heap.size (.slice (some ⟨w.heap.size,0,none⟩) n n) (List.replicate n nilC)∧Below w.heap.size w W∧W.heap.size=w.heap.size+1:=by
 obtain⟨i0,hi,hz0,hz1,hz2⟩:=info_parts Tryz.infoC
 have hr:=run_make (P:=Tryz.prog) w 22 48 i0 _ Tryz.underlying22 hi hz0 .i64 .i64 n n (by omega) (Int.le_refl _) (by rw [hz2];omega) (by omega)
 simp only [Int.toNat_natCast] at hr
 refine⟨_,hr,?_,belowA _ _,by simp⟩
 unfold OwnsC
 rw [List.length_replicate,flat_repl]
 refine⟨by simp,.inr ⟨_,_,_,rfl,Nat.le_refl _,heapNew w _,Nat.le_refl _,by unfold maxLen;omega,by rw [size_madeCells,hz1],?_⟩⟩
 rw [hz1]
 have e:(Value.agg #[Value.int .u32 0,Value.int .u32 0]).cells=#[Value.int .u32 0,Value.int .u32 0]:=rfl
 rw [List.take_of_length_le (by simp [madeCells])]
 exact made_repl _
theorem own_set2 {W:World} {base g n cap:Nat} {L:List C} {k:Nat} {d:C} (hn:n=L.length) (h:OwnsC W base (.slice (some ⟨g,0,none⟩) n cap) L) (hlt:k<L.length) (hb:base≤W.heap.size) :
  OwnsC ((W.setCell ⟨g,k*2,none⟩ (.int .u32 (d.1.val:Int))).setCell ⟨g,k*2+1,none⟩ (.int .u32 (d.2.val:Int))) base (.slice (some ⟨g,0,none⟩) n cap) (L.set k d) ∧
  Below base W ((W.setCell ⟨g,k*2,none⟩ (.int .u32 (d.1.val:Int))).setCell ⟨g,k*2+1,none⟩ (.int .u32 (d.2.val:Int))):=by
 have h2:W.ownsRow base 48 2 (.slice (some ⟨g,0,none⟩) n cap) n (flat L):=by
  have:=h;unfold OwnsC at this;rw [← hn] at this;exact this
 have s1:=World.ownsRow.stored h2 (k*2) (.int .u32 (d.1.val:Int))
 have s2:=World.ownsRow.stored s1.1 (k*2+1) (.int .u32 (d.2.val:Int))
 refine⟨?_,?_⟩
 ·unfold OwnsC
  rw [List.length_set,← hn,flat_set _ _ _ hlt]
  exact s2.1
 ·have hg:=(World.ownsRow.lt h g rfl).1
  have b1:=(Below.refl base W).grown s1.2 hb (fun k hk=>by injection hk with hk;omega)
  exact b1.grown s2.2 (Nat.le_trans hb b1.size) (fun k hk=>by injection hk with hk;omega)
theorem own_at2 {W:World} {base g n cap:Nat} {L:List C} {k:Nat} (hn:n=L.length) (h:OwnsC W base (.slice (some ⟨g,0,none⟩) n cap) L) (hlt:k<L.length) :
  (∃ u,W.cell? ⟨g,k*2,none⟩=some u)∧(∃ u,W.cell? ⟨g,k*2+1,none⟩=some u)∧W.frozen? ⟨g,k*2,none⟩=false∧W.frozen? ⟨g,k*2+1,none⟩=false:=by
 have h2:W.ownsRow base 48 2 (.slice (some ⟨g,0,none⟩) n cap) n (flat L):=by
  have:=h;unfold OwnsC at this;rw [← hn] at this;exact this
 obtain⟨d,hd⟩:∃ d,L[k]? = some d:=⟨_,List.getElem?_eq_getElem hlt⟩
 refine⟨?_,?_,World.ownsRow.frozenAt h2 _,World.ownsRow.frozenAt h2 _⟩
 ·rw [World.ownsRow.cellAt h2 (k*2) (by omega),flat_get0,hd];exact⟨_,rfl⟩
 ·rw [World.ownsRow.cellAt h2 (k*2+1) (by omega),flat_get1,hd];exact⟨_,rfl⟩
theorem crow_at {w:World} {a:Option Addr} {n cap:Nat} {l:List C} {k:Nat} {c:C} (h:CRow w (.slice a n cap) l) (hk:l[k]? = some c):∃ g off,a=some ⟨g,off,none⟩∧g<w.heap.size∧w.cell? ⟨g,off+k*2,none⟩=some (.int .u32 (c.1.val:Int))∧w.cell? ⟨g,off+k*2+1,none⟩=some (.int .u32 (c.2.val:Int)):=by
 rcases h with ⟨a',cap',e,rfl⟩|⟨g,off,cap',e,hg,hc⟩
 ·simp at hk
 ·injection e with e1 e2 e3
  exact⟨g,off,e1,hg,(hc k c hk).1,(hc k c hk).2⟩
theorem drow_any (i:Int) (xi:Nat) (w:World) (hi:w.heap[xi]? = some (.cells #[.int .i64 i] 3 (0,0))) (hi0:0≤i∧i≤1000000) :
  RowC (dropRow i) (.func (.func 93) #[] #[.pointer (some ⟨xi,0,none⟩)]) w:=by
 refine⟨_,_,rfl,enters_of Tryz.func93 (by kernel_rfl) rfl,?_⟩
 intro l bd v W hW hl hll hbd
 have li:=(Array.getElem?_eq_some_iff.1 hi).1
 have lW:xi<W.heap.size:=Nat.lt_of_lt_of_le li hW.size
 obtain⟨W1,hmk,hO0,bW1,sW1⟩:=makeCl l.length W (by omega)
 obtain⟨n1,hn1⟩:∃ n,n=W.heap.size:=⟨_,rfl⟩
 have ci:Hid (∀ V,Below n1 W V→V.cell? ⟨xi,0,none⟩=some (.int .i64 i)):=fun V q=>((bchain hW (by rw [← hn1];exact q)).cell (p:=⟨xi,0,none⟩) li).trans (by simp [World.cell?,hi])
 have Hr:Hid (∀ V,Below n1 W V→CRow V v l):=fun V q=>(hl.blw (w':=V) (by rw [← hn1];exact q)).row
 have wr2:IntKind.i64.wrap (i+(bd:Int))=i+(bd:Int):=by simp [IntKind.wrap,IntKind.bits,IntKind.signed];omega
 obtain⟨J,hJ⟩:∃ J,J=i+(bd:Int):=⟨_,rfl⟩
 rw [← hJ] at wr2
 have HJ:Hid (dropRow i l bd=(drK J l l.length,0)):=(by unfold dropRow;rw [drK_all,hJ]:_=_)
 obtain⟨va,vc,rfl,_⟩:=id hl
 obtain⟨L,hL⟩:∃ L,L=l.length:=⟨_,rfl⟩
 have HL:Hid (L=l.length):=hL
 rw [HJ.out,← hL]
 rw [← hL] at hmk hO0 Hr hll
 rw [← hn1] at hmk hO0 bW1 sW1 ⊢
 have Hn1:Hid (n1=W.heap.size):=hn1
 have wrJ:IntKind.i64.wrap (i+(bd:Int))=J:=by rw [← hJ,wr2]
 clear hn1 hL hl hW hi li HJ wr2 hJ
 show Calls Tryz.prog 93 #[.slice va L vc,.int .i64 (bd:Int),.pointer (some ⟨xi,0,none⟩)] W _
 go_enter Tryz.func93,Tryz.ntmps93
 go_wp2_with fail
 go_loopw [14] (fun s wr=>∃ k:Nat,k≤L∧s=.int .i64 k∧OwnsC wr n1 (.slice (some ⟨n1,0,none⟩) L L) (drK J l k)∧Below n1 W wr) (fun s _=>L - (intOf s).toNat)
 case atStart=>exact⟨0,Nat.zero_le _,rfl,by rw [drK_zero,← HL.out];exact hO0,bW1⟩
 case round =>
  obtain⟨wo,hwo⟩:∃ wo,wo=wr:=⟨_,rfl⟩
  subst hwo
  clear hO0 bW1 sW1 hmk
  obtain⟨k,hk,rfl,hO,hSo⟩:=hrel
  have hso:n1≤wo.heap.size:=by rw [Hn1.out];exact hSo.size
  by_cases hlt:k<L
  ·have hkI:(k:Int) < (L:Int):=by omega
   obtain⟨c,hc⟩:=someL (l:=l) (k:=k) (by rw [← HL.out];exact hlt)
   have hlen:=drK_len J l k (by rw [← HL.out];exact hk)
   have hc1:=c.1.isLt
   have hc2:=c.2.isLt
   obtain⟨g1,o1,hva,hgl,d0,d1⟩:=crow_at (Hr.out wo hSo) hc
   subst hva
   obtain⟨wb,hwb⟩:∃ V,V=wo.alloc (.cells #[.int .u32 (c.1.val:Int),.int .u32 (c.2.val:Int)] 48):=⟨_,rfl⟩
   have bb:Below wo.heap.size wo wb:=by rw [hwb];exact belowA _ _
   have mb:wb.heap[wo.heap.size]? = some (.cells #[.int .u32 (c.1.val:Int),.int .u32 (c.2.val:Int)] 48 (0,0)):=by rw [hwb];exact heapNew _ _
   obtain⟨p,hp⟩:∃ p,p=wo.heap.size:=⟨_,rfl⟩
   have sb:wb.heap.size=p+1:=by rw [hwb,hp];simp
   rw [← hp] at mb
   have hSb:Below n1 W wb:=hSo.trans (bb.mono (by omega))
   have hpn:p≠n1:=by have:=(World.ownsRow.lt hO n1 rfl).2;omega
   have HC:Hid (∀ V,(Below n1 W V∧V.heap[p]? = some (.cells #[.int .u32 (c.1.val:Int),.int .u32 (c.2.val:Int)] 48 (0,0)))→V.cell? ⟨p,0,none⟩=some (.int .u32 (c.1.val:Int))∧V.cell? ⟨p,1,none⟩=some (.int .u32 (c.2.val:Int))∧V.cell? ⟨xi,0,none⟩=some (.int .i64 i)):=fun V q =>
    ⟨by simp [World.cell?,q.2],by simp [World.cell?,q.2],ci.out V q.1⟩
   have hmb:wb.heap[p]? = some (.cells #[.int .u32 (c.1.val:Int),.int .u32 (c.2.val:Int)] 48 (0,0)):=mb
   have Hmb:Hid (_=_):=hmb
   have Hwb:Hid (_=_):=hwb
   have Hp:Hid (p=wo.heap.size):=hp
   have hpl:n1≤p:=by omega
   have HO:Hid (∀ V,Below wb.heap.size wb V→OwnsC V n1 (.slice (some ⟨n1,0,none⟩) L L) (drK J l k)):=fun V q=>oc_blw2 hO (bchain bb q)
   have HSt:Hid ((drK J l k).set k (drC J c)=drK J l (k+1)):=drK_step hc
   have Hlen:Hid (L=(drK J l k).length):=(by rw [hlen];exact HL.out:_=_)
   clear hwb mb hmb hO hc hlen hp
   go_upto_region 5 with fail
   rw [← Hwb.out]
   simp only [← Hp.out]
   clear d0 d1
   refine wp_region_held_drew (S:=fun V=>Below n1 W V∧V.heap[p]? = some (.cells #[.int .u32 (c.1.val:Int),.int .u32 (c.2.val:Int)] 48 (0,0))) (by kernel_rfl) ⟨hSb.drew,Hmb.out⟩ (fun hS=>?_)
   obtain⟨wd,hwd⟩:∃ V,V=wb.drew:=⟨_,rfl⟩
   have hbd:Below wb.heap.size wb wd:=by rw [hwd];exact (Below.refl _ _).drew
   rw [← hwd] at hS ⊢
   clear hwd
   refine zk 0 (.slice (some ⟨n1,0,none⟩) L L) rfl (by rfl) (fun w hS=>by go_simp) hS ?_
   try simp only [Act.put,zg1,zg2,zg3,zs1,zs2,zs3]
   refine zk 1 (.int .i64 k) rfl (by rfl) (fun w hS=>by go_simp) hS ?_
   try simp only [Act.put,zg1,zg2,zg3,zs1,zs2,zs3]
   refine zk 2 (.pointer (some ⟨p,0,none⟩)) rfl (by rfl) (fun w hS=>by go_simp) hS ?_
   try simp only [Act.put,zg1,zg2,zg3,zs1,zs2,zs3]
   refine zk 3 (.int .u32 (c.1.val:Int)) rfl (by rfl) (fun w hS=>by have e:=(HC.out w hS).1;go_simp) hS ?_
   try simp only [Act.put,zg1,zg2,zg3,zs1,zs2,zs3]
   refine zk 4 (.int .i64 i) rfl (by rfl) (fun w hS=>by have e:=(HC.out w hS).2.2;go_simp) hS ?_
   try simp only [Act.put,zg1,zg2,zg3,zs1,zs2,zs3]
   refine zk 5 (.int .i64 (bd:Int)) rfl (by rfl) (fun w hS=>by go_simp) hS ?_
   try simp only [Act.put,zg1,zg2,zg3,zs1,zs2,zs3]
   refine zk 6 (.int .i64 J) rfl (by rfl) (fun w hS=>by have e2:=wrJ;go_simp) hS ?_
   try simp only [Act.put,zg1,zg2,zg3,zs1,zs2,zs3]
   refine zk 8 (.pointer (some ⟨p,1,none⟩)) rfl (by rfl) (fun w hS=>by go_simp) hS ?_
   try simp only [Act.put,zg1,zg2,zg3,zs1,zs2,zs3]
   refine zk 9 (.int .u32 (c.2.val:Int)) rfl (by rfl) (fun w hS=>by have e:=(HC.out w hS).2.1;go_simp) hS ?_
   try simp only [Act.put,zg1,zg2,zg3,zs1,zs2,zs3]
   refine zk 10 (.int .i64 i) rfl (by rfl) (fun w hS=>by have e:=(HC.out w hS).2.2;go_simp) hS ?_
   try simp only [Act.put,zg1,zg2,zg3,zs1,zs2,zs3]
   refine zk 11 (.int .i64 (bd:Int)) rfl (by rfl) (fun w hS=>by go_simp) hS ?_
   try simp only [Act.put,zg1,zg2,zg3,zs1,zs2,zs3]
   refine zk 12 (.int .i64 J) rfl (by rfl) (fun w hS=>by have e2:=wrJ;go_simp) hS ?_
   try simp only [Act.put,zg1,zg2,zg3,zs1,zs2,zs3]
   refine wpAnyH_ready (rs:=[7]) (by kernel_rfl) (by simp) ?_
   refine ready_cons rfl (fun KK hKK=>?_) AllReadyH.nil
   refine⟨?_⟩
   have cc:=drop_any c.1.val J wd (by omega)
   go_simp
   refine cc.mono ?_
   rintro e w2 ⟨rfl,hbw2⟩
   have hbd:Below wb.heap.size wb w2:=hbd.trans (hbw2.mono hbd.size)
   have hSw2:Below n1 W w2∧w2.heap[p]? = some (.cells #[.int .u32 (c.1.val:Int),.int .u32 (c.2.val:Int)] 48 (0,0)):=⟨hSb.trans (hbd.mono (by omega)),(hbd.block p (by omega)).trans Hmb.out⟩
   clear cc hbw2
   refine hKK.out _ _ hSw2 (fun hS=>?_)
   clear hKK KK
   try simp only [Act.put,zg1,zg2,zg3,zs1,zs2,zs3]
   refine wpAnyH_ready (rs:=[13]) (by kernel_rfl) (by simp) ?_
   refine ready_cons rfl (fun KK hKK=>?_) AllReadyH.nil
   refine⟨?_⟩
   have cc:=drop_any c.2.val J w2 (by omega)
   go_simp
   refine cc.mono ?_
   rintro e w3 ⟨rfl,hbw3⟩
   have hbd:Below wb.heap.size wb w3:=hbd.trans (hbw3.mono hbd.size)
   have hSw3:Below n1 W w3∧w3.heap[p]? = some (.cells #[.int .u32 (c.1.val:Int),.int .u32 (c.2.val:Int)] 48 (0,0)):=⟨hSb.trans (hbd.mono (by omega)),(hbd.block p (by omega)).trans Hmb.out⟩
   clear cc hbw3
   refine hKK.out _ _ hSw3 (fun hS=>?_)
   clear hKK KK
   try simp only [Act.put,zg1,zg2,zg3,zs1,zs2,zs3]
   refine zk 14 (.agg #[.int .u32 ((dropN c.1.val J:Nat):Int),.int .u32 ((dropN c.2.val J:Nat):Int)]) rfl (by rfl) (fun w hS=>by go_simp) hS ?_
   try simp only [Act.put,zg1,zg2,zg3,zs1,zs2,zs3]
   refine zk 15 (.pointer (some ⟨n1,k*2,none⟩)) rfl (by rfl) (fun w hS=>by go_simp) hS ?_
   try simp only [Act.put,zg1,zg2,zg3,zs1,zs2,zs3]
   have hO3:=HO.out w3 hbd
   obtain⟨⟨u0,q0⟩,⟨u1,q1⟩,f0,f1⟩:=own_at2 Hlen.out hO3 (k:=k) (by rw [← Hlen.out];exact hlt)
   have hs3:n1≤w3.heap.size:=by have:=hbd.size;omega
   have hst:=own_set2 (d:=drC J c) Hlen.out hO3 (k:=k) (by rw [← Hlen.out];exact hlt) hs3
   rw [HSt.out] at hst
   obtain⟨w4,hw4⟩:∃ V,V=(w3.setCell ⟨n1,k*2,none⟩ (.int .u32 ((dropN c.1.val J:Nat):Int))).setCell ⟨n1,k*2+1,none⟩ (.int .u32 ((dropN c.2.val J:Nat):Int)):=⟨_,rfl⟩
   have hst2:OwnsC w4 n1 (.slice (some ⟨n1,0,none⟩) L L) (drK J l (k+1))∧Below n1 w3 w4:=by rw [hw4];exact hst
   have hS4:Below n1 W w4:=hS.1.trans hst2.2
   have hk4:Kn (fun q=>q≠n1) w3 w4:=by rw [hw4];exact (kn_set _ _ _ _).trans (kn_set _ _ _ _)
   have hS5:Below n1 W w4∧w4.heap[p]? = some (.cells #[.int .u32 (c.1.val:Int),.int .u32 (c.2.val:Int)] 48 (0,0)):=⟨hS4,(hk4.block p hpn (by have:=hbd.size;omega)).trans hS.2⟩
   have hO4:=hst2.1
   have H4:Hid (_=_):=hw4
   clear hw4 hst hst2 hO3 hk4
   refine wpAnyH_ready (rs:=[16]) (by kernel_rfl) (by simp) ?_
   refine ready_cons rfl (fun KK hKK=>?_) AllReadyH.nil
   refine⟨?_⟩
   go_simp
   rw [← H4.out]
   refine hKK.out _ _ hS5 (fun hS=>?_)
   clear hKK KK
   try simp only [Act.put,zg1,zg2,zg3,zs1,zs2,zs3]
   refine wpAnyH_done (by kernel_rfl) ?_ _
   go_wp2_with fail
   go_roundw
   case rel=>exact⟨k+1,by omega,by go_num,hO4,hS4⟩
   case measure=>simp [intOf];omega
  ·have hkI:¬ (k:Int) < (L:Int):=by omega
   obtain rfl:k=L:=by omega
   go_wp2_with fail
   go_ret
   exact⟨.ok rfl hO,hSo⟩
theorem dropping_any (i:Int) (w:World) (hi0:0≤i∧i≤1000000) :
  Calls Tryz.prog 46 #[.int .i64 i] w fun e w'=>∃ fV cV,e=.returned (.agg #[fV,cV])∧RowC (dropOp i).fn fV w'∧RowC (dropOp i).fc cV w'∧Below w.heap.size w w':=by
 obtain⟨X,hX⟩:∃ X,X=w.heap.size:=⟨_,rfl⟩
 obtain⟨w1,hw1⟩:∃ W,W=(w.alloc (.cells #[.int .i64 i] 3)).alloc (.cells #[.func (.func 93) #[] #[.pointer (some ⟨w.heap.size,0,none⟩)],.func (.func 93) #[] #[.pointer (some ⟨w.heap.size,0,none⟩)]] 72):=⟨_,rfl⟩
 have b1:Below w.heap.size w w1:=by rw [hw1];exact bchain (belowA _ _) (belowA _ _)
 have m0:w1.heap[X]? = some (.cells #[.int .i64 i] 3 (0,0)):=by rw [hw1,hX];exact (Below.heap_alloc _ _ _ (by simp)).trans (heapNew w _)
 have m1:w1.heap[X+1]? = some (.cells #[.func (.func 93) #[] #[.pointer (some ⟨X,0,none⟩)],.func (.func 93) #[] #[.pointer (some ⟨X,0,none⟩)]] 72 (0,0)):=by
  rw [hw1,hX]
  have:=heapNew (w.alloc (.cells #[.int .i64 i] 3)) (.cells #[.func (.func 93) #[] #[.pointer (some ⟨w.heap.size,0,none⟩)],.func (.func 93) #[] #[.pointer (some ⟨w.heap.size,0,none⟩)]] 72);rwa [World.size_alloc] at this
 have HA:Hid (RowC (dropRow i) (.func (.func 93) #[] #[.pointer (some ⟨X,0,none⟩)]) w1):=drow_any i X w1 m0 hi0
 have y0:w1.cell? ⟨X+1,0,none⟩=some (.func (.func 93) #[] #[.pointer (some ⟨X,0,none⟩)]):=by simp [World.cell?,m1]
 have y1:w1.cell? ⟨X+1,1,none⟩=some (.func (.func 93) #[] #[.pointer (some ⟨X,0,none⟩)]):=by simp [World.cell?,m1]
 have HX:Hid (X=w.heap.size):=hX
 have H1:Hid (_=_):=hw1
 have hmk:=mkfd
 clear hw1 hX m0 m1
 go_enter Tryz.func46,Tryz.ntmps46
 go_wp2_with fail
 rw [← H1.out]
 simp only [← HX.out]
 exact bodyPost_ret (v:=.agg #[.func (.func 93) #[] #[.pointer (some ⟨X,0,none⟩)],.func (.func 93) #[] #[.pointer (some ⟨X,0,none⟩)]]) (by simp only [results,Tryz.results46];simp [go_sem,y0,y1]) rfl ⟨_,_,rfl,HA.out,HA.out,by rw [HX.out];exact b1⟩
end Go.Proofs.YtmblbmdchinflaaGreat
