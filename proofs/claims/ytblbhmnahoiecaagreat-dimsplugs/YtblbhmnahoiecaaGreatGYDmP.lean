/- Formulas in the places of dimensions: how a formula is put. -/
import Derived.Test.YtblbhmnahoiecaaGreatGG27
import Derived.Test.YtblbhmnahoiecaaGreatGFD
set_option linter.unusedVariables false
set_option linter.unusedSimpArgs false
set_option maxRecDepth 100000
set_option maxHeartbeats 4000000
namespace Go.Proofs.YtblbhmnahoiecaaGreat
open Go.RowKit
def putRow (PF:List C→Int→List C→List C × Int) (i:Int) (r l:List C) (bd:Nat):List C × Int :=
 if hasB (dimsN l) (i+bd) then (if (liftFF r 0 bd).2=0 then PF l (i+bd) (liftFF r 0 bd).1 else ([],(liftFF r 0 bd).2)) else (l,0)
def putOp (i:Int) (r:List C):DOp:=⟨putRow putF i r,putRow ptA i r⟩
theorem liftFF_len (l:List C) (a b:Int):(liftFF l a b).1.length≤64:=by
 unfold liftFF
 split
 ·split
  ·exact leastF_len _
  ·simp
 ·simp
def PutC (PF:List C→Int→List C→List C × Int) (pf:FuncId):Prop:=∀ (l r:List C) (i:Int) (vl vr:Value) (w:World),FRow w vl l→FRow w vr r→l.length≤40000→r.length≤40000→Calls Tryz.prog pf #[vl,.int .i64 i,vr] w fun e w'=>∃ v,e=.returned (.tuple #[v,.int .i64 (PF l i r).2])∧OwnsC w' w.heap.size v (PF l i r).1∧Below w.heap.size w w'
theorem prow_any {PF:List C→Int→List C→List C × Int} {pf:FuncId} (hP:PutC PF pf) (egp:∀ args w,(callFunc pf args).run Tryz.prog w=.ok (.enter pf args) w) (i:Int) (r:List C) (vr:Value) (xi xp xr:Nat) (w:World) (hi:w.heap[xi]? = some (.cells #[.int .i64 i] 3 (0,0))) (hp:w.heap[xp]? = some (.cells #[.func (.func pf) #[] #[]] 115 (0,0))) (hr:w.heap[xr]? = some (.cells #[vr] 22 (0,0))) (hrr:ClRow Tt w r vr) (hrl:r.length≤40000) (hi0:0≤i∧i≤1000000) :
  RowC (putRow PF i r) (.func (.func 103) #[] #[.pointer (some ⟨xi,0,none⟩),.pointer (some ⟨xp,0,none⟩),.pointer (some ⟨xr,0,none⟩)]) w:=by
 refine⟨_,_,rfl,enters_of Tryz.func103 (by kernel_rfl) rfl,?_⟩
 intro l bd v W hW hl hll hbd
 have li:=(Array.getElem?_eq_some_iff.1 hi).1
 have lp:=(Array.getElem?_eq_some_iff.1 hp).1
 have lr:=(Array.getElem?_eq_some_iff.1 hr).1
 have ci:Hid (∀ V,Below W.heap.size W V→V.cell? ⟨xi,0,none⟩=some (.int .i64 i)):=fun V q=>((bchain hW q).cell (p:=⟨xi,0,none⟩) li).trans (by simp [World.cell?,hi])
 have cp:Hid (∀ V,Below W.heap.size W V→V.cell? ⟨xp,0,none⟩=some (.func (.func pf) #[] #[])):=fun V q=>((bchain hW q).cell (p:=⟨xp,0,none⟩) lp).trans (by simp [World.cell?,hp])
 have cr:Hid (∀ V,Below W.heap.size W V→V.cell? ⟨xr,0,none⟩=some vr):=fun V q=>((bchain hW q).cell (p:=⟨xr,0,none⟩) lr).trans (by simp [World.cell?,hr])
 have hdlt:=dimsN_lt32 l
 have cD:Hid (∀ V,Below W.heap.size W V→Calls Tryz.prog 30 #[v] V fun e w'=>e=.returned (.int .u32 ((dimsN l:Nat):Int))∧Below V.heap.size V w'):=fun V q=>Dims_any l v V (hl.blw q).row (by omega)
 have cL:Hid (∀ V,Below W.heap.size W V→Calls Tryz.prog 45 #[vr,.int .i64 0,.int .i64 (bd:Int)] V fun e w'=>∃ v,e=.returned (.tuple #[v,.int .i64 (liftFF r 0 bd).2])∧OwnsC w' V.heap.size v (liftFF r 0 bd).1∧Below V.heap.size V w'):=fun V q=>Lift_any r 0 bd vr V ((hrr.blw hW).blw q).frow hrl
 have cC:Hid (∀ V,Below W.heap.size W V→Calls Tryz.prog 105 #[v] V fun e w'=>∃ v',e=.returned v'∧OwnsC w' V.heap.size v' l∧Below V.heap.size V w'):=fun V q=>clone_any l v V (hl.blw q) (by omega)
 have cP:Hid (∀ V vq,Below W.heap.size W V→FRow V vq (liftFF r 0 bd).1→Calls Tryz.prog pf #[v,.int .i64 (i+(bd:Int)),vq] V fun e w'=>∃ v,e=.returned (.tuple #[v,.int .i64 (PF l (i+bd) (liftFF r 0 bd).1).2])∧OwnsC w' V.heap.size v (PF l (i+bd) (liftFF r 0 bd).1).1∧Below V.heap.size V w'):=fun V vq q hq=>hP l (liftFF r 0 bd).1 (i+bd) v vq V (hl.blw q).frow hq hll (by have:=liftFF_len r 0 bd;omega)
 have HQ:Hid (putRow PF i r l bd=if hasB (dimsN l) (i+bd) then (if (liftFF r 0 bd).2=0 then PF l (i+bd) (liftFF r 0 bd).1 else ([],(liftFF r 0 bd).2)) else (l,0)):=(rfl:_=_)
 obtain⟨PR,hPR⟩:∃ P,P=putRow PF i r l bd:=⟨_,rfl⟩
 rw [← hPR] at HQ ⊢
 obtain⟨LF,hLF⟩:∃ L,L=liftFF r 0 bd:=⟨_,rfl⟩
 rw [← hLF] at HQ cL cP
 have wr2:IntKind.i64.wrap (i+(bd:Int))=i+(bd:Int):=by simp [IntKind.wrap,IntKind.bits,IntKind.signed];omega
 obtain⟨va,vc,rfl,_⟩:=id hl
 obtain⟨rva,rvc,rfl,_⟩:=id hrr
 obtain⟨LL,hLL⟩:∃ L,L=l.length:=⟨_,rfl⟩
 obtain⟨LR,hLR⟩:∃ L,L=r.length:=⟨_,rfl⟩
 rw [← hLL] at cD cC cP
 rw [← hLR] at cr cL
 simp only [← hLL]
 obtain⟨DN,hDN⟩:∃ d,d=dimsN l:=⟨_,rfl⟩
 rw [← hDN] at cD HQ hdlt
 clear hPR hLF hW hl hrr hi hp hr li lp lr hP hLL hLR hDN
 show Calls Tryz.prog 103 #[.slice va LL vc,.int .i64 (bd:Int),.pointer (some ⟨xi,0,none⟩),.pointer (some ⟨xp,0,none⟩),.pointer (some ⟨xr,0,none⟩)] W _
 go_enter Tryz.func103,Tryz.ntmps103
 go_upto_region 1 with fail
 have hS1:Below W.heap.size W W:=Below.refl _ _
 go_cut [14] (fun s wx=>s=.bool (!hasB DN (i+bd))∧Below W.heap.size W wx)
 case first=>as_aux_lemma =>
  refine wp_region_held_drew (S:=fun V=>Below W.heap.size W V) (by kernel_rfl) (hS1.drew) (fun hS=>?_)
  obtain⟨wd,hwd⟩:∃ V,V=W.drew:=⟨_,rfl⟩
  rw [← hwd] at hS ⊢
  clear hwd
  refine wpAnyH_take (i:=0) (v:=.slice va LL vc) rfl (by kernel_rfl) (by kernel_rfl) (by kernel_rfl) (fun _ _ _ h=>h) (Or.inl ⟨by rfl,fun w hS=>by go_simp⟩) hS ?_
  try simp only [Act.put,List.getElem_toArray,List.getElem_cons_zero,List.getElem_cons_succ,List.setIfInBounds_toArray,List.set_cons_zero,List.set_cons_succ]
  refine wpAnyH_take (i:=2) (v:=.int .i64 i) rfl (by kernel_rfl) (by kernel_rfl) (by kernel_rfl) (fun _ _ _ h=>h) (Or.inl ⟨by rfl,fun w hS=>by have e:=ci.out w hS;go_simp⟩) hS ?_
  try simp only [Act.put,List.getElem_toArray,List.getElem_cons_zero,List.getElem_cons_succ,List.setIfInBounds_toArray,List.set_cons_zero,List.set_cons_succ]
  refine wpAnyH_take (i:=3) (v:=.int .i64 (bd:Int)) rfl (by kernel_rfl) (by kernel_rfl) (by kernel_rfl) (fun _ _ _ h=>h) (Or.inl ⟨by rfl,fun w hS=>by go_simp⟩) hS ?_
  try simp only [Act.put,List.getElem_toArray,List.getElem_cons_zero,List.getElem_cons_succ,List.setIfInBounds_toArray,List.set_cons_zero,List.set_cons_succ]
  refine wpAnyH_take (i:=4) (v:=.int .i64 (i+(bd:Int))) rfl (by kernel_rfl) (by kernel_rfl) (by kernel_rfl) (fun _ _ _ h=>h) (Or.inl ⟨by rfl,fun w hS=>by have e2:=wr2;go_simp⟩) hS ?_
  try simp only [Act.put,List.getElem_toArray,List.getElem_cons_zero,List.getElem_cons_succ,List.setIfInBounds_toArray,List.set_cons_zero,List.set_cons_succ]
  refine wpAnyH_ready (rs:=[1]) (by kernel_rfl) (by simp) ?_
  refine ready_cons rfl (fun KK hKK=>?_) AllReadyH.nil
  refine⟨?_⟩
  have cc:=cD.out wd hS
  go_simp
  refine cc.mono ?_
  rintro e w2 ⟨rfl,hb2⟩
  have hS2:Below W.heap.size W w2:=hS.trans (hb2.mono hS.size)
  clear cc
  refine hKK.out _ _ hS2 (fun hS=>?_)
  clear hKK KK
  try simp only [Act.put,List.getElem_toArray,List.getElem_cons_zero,List.getElem_cons_succ,List.setIfInBounds_toArray,List.set_cons_zero,List.set_cons_succ]
  refine wpAnyH_ready (rs:=[5]) (by kernel_rfl) (by simp) ?_
  refine ready_cons rfl (fun KK hKK=>?_) AllReadyH.nil
  refine⟨?_⟩
  have cc:=has_any DN (i+(bd:Int)) w2 hdlt
  go_simp
  refine cc.mono ?_
  rintro e w3 ⟨rfl,hw3⟩
  replace hw3:=hw3.symm
  subst hw3
  clear cc
  refine hKK.out _ _ hS (fun hS=>?_)
  clear hKK KK
  try simp only [Act.put,List.getElem_toArray,List.getElem_cons_zero,List.getElem_cons_succ,List.setIfInBounds_toArray,List.set_cons_zero,List.set_cons_succ]
  refine wpAnyH_take (i:=6) (v:=.bool (!hasB DN (i+bd))) rfl (by kernel_rfl) (by kernel_rfl) (by kernel_rfl) (fun _ _ _ h=>h) (Or.inl ⟨by rfl,fun w hS=>by go_simp⟩) hS ?_
  try simp only [Act.put,List.getElem_toArray,List.getElem_cons_zero,List.getElem_cons_succ,List.setIfInBounds_toArray,List.set_cons_zero,List.set_cons_succ]
  refine wpAnyH_done (by kernel_rfl) ?_ _
  go_wp2_with fail
  go_meet
  exact⟨rfl,hS⟩
 case rest =>
 obtain⟨rfl,hS1⟩:=hcut
 obtain⟨w1,hw1⟩:∃ V,V=wc:=⟨_,rfl⟩
 subst hw1
 cases hh:hasB DN (i+bd)
 ·have hq:PR=(l,0):=by rw [HQ.out,hh];rfl
  subst hq
  have cc:=cC.out w1 hS1
  clear cD cL cP HQ
  go_wp2_with fail
  refine cc.mono ?_
  rintro e w2 ⟨v2,rfl,hO2,hb2⟩
  clear cc
  have hO3:=OwnsC.mono hO2 hS1.size
  have hb3:=hS1.trans (hb2.mono hS1.size)
  obtain⟨a2,c2,rfl⟩:=OwnsC.len hO3
  go_wp2_with fail
  go_ret
  exact⟨.ok rfl hO3,hb3⟩
 ·have hq:PR=if LF.2=0 then PF l (i+bd) LF.1 else ([],LF.2):=by rw [HQ.out,hh];rfl
  have HP1:Hid (LF.2≠0→PR.2=LF.2):=fun h=>by rw [hq,if_neg h]
  have HP0:Hid (LF.2=0→PR=PF l (i+bd) LF.1):=fun h=>by rw [hq,if_pos h]
  clear hq HQ cD cC
  go_upto_region 3 with fail
  refine wp_region_held_drew (S:=fun V=>Below W.heap.size W V) (by kernel_rfl) (hS1.drew) (fun hS=>?_)
  obtain⟨wd,hwd⟩:∃ V,V=w1.drew:=⟨_,rfl⟩
  rw [← hwd] at hS ⊢
  clear hwd
  refine wpAnyH_take (i:=0) (v:=.func (.func pf) #[] #[]) rfl (by kernel_rfl) (by kernel_rfl) (by kernel_rfl) (fun _ _ _ h=>h) (Or.inl ⟨by rfl,fun w hS=>by have e:=cp.out w hS;go_simp⟩) hS ?_
  try simp only [Act.put,List.getElem_toArray,List.getElem_cons_zero,List.getElem_cons_succ,List.setIfInBounds_toArray,List.set_cons_zero,List.set_cons_succ]
  refine wpAnyH_take (i:=1) (v:=.slice va LL vc) rfl (by kernel_rfl) (by kernel_rfl) (by kernel_rfl) (fun _ _ _ h=>h) (Or.inl ⟨by rfl,fun w hS=>by go_simp⟩) hS ?_
  try simp only [Act.put,List.getElem_toArray,List.getElem_cons_zero,List.getElem_cons_succ,List.setIfInBounds_toArray,List.set_cons_zero,List.set_cons_succ]
  refine wpAnyH_take (i:=2) (v:=.int .i64 i) rfl (by kernel_rfl) (by kernel_rfl) (by kernel_rfl) (fun _ _ _ h=>h) (Or.inl ⟨by rfl,fun w hS=>by have e:=ci.out w hS;go_simp⟩) hS ?_
  try simp only [Act.put,List.getElem_toArray,List.getElem_cons_zero,List.getElem_cons_succ,List.setIfInBounds_toArray,List.set_cons_zero,List.set_cons_succ]
  refine wpAnyH_take (i:=3) (v:=.int .i64 (bd:Int)) rfl (by kernel_rfl) (by kernel_rfl) (by kernel_rfl) (fun _ _ _ h=>h) (Or.inl ⟨by rfl,fun w hS=>by go_simp⟩) hS ?_
  try simp only [Act.put,List.getElem_toArray,List.getElem_cons_zero,List.getElem_cons_succ,List.setIfInBounds_toArray,List.set_cons_zero,List.set_cons_succ]
  refine wpAnyH_take (i:=4) (v:=.int .i64 (i+(bd:Int))) rfl (by kernel_rfl) (by kernel_rfl) (by kernel_rfl) (fun _ _ _ h=>h) (Or.inl ⟨by rfl,fun w hS=>by have e2:=wr2;go_simp⟩) hS ?_
  try simp only [Act.put,List.getElem_toArray,List.getElem_cons_zero,List.getElem_cons_succ,List.setIfInBounds_toArray,List.set_cons_zero,List.set_cons_succ]
  refine wpAnyH_take (i:=5) (v:=.slice rva LR rvc) rfl (by kernel_rfl) (by kernel_rfl) (by kernel_rfl) (fun _ _ _ h=>h) (Or.inl ⟨by rfl,fun w hS=>by have e:=cr.out w hS;go_simp⟩) hS ?_
  try simp only [Act.put,List.getElem_toArray,List.getElem_cons_zero,List.getElem_cons_succ,List.setIfInBounds_toArray,List.set_cons_zero,List.set_cons_succ]
  refine wpAnyH_take (i:=6) (v:=.int .i64 (bd:Int)) rfl (by kernel_rfl) (by kernel_rfl) (by kernel_rfl) (fun _ _ _ h=>h) (Or.inl ⟨by rfl,fun w hS=>by go_simp⟩) hS ?_
  try simp only [Act.put,List.getElem_toArray,List.getElem_cons_zero,List.getElem_cons_succ,List.setIfInBounds_toArray,List.set_cons_zero,List.set_cons_succ]
  refine wpAnyH_ready (rs:=[7]) (by kernel_rfl) (by simp) ?_
  refine ready_cons rfl (fun KK hKK=>?_) AllReadyH.nil
  refine⟨?_⟩
  have cc:=cL.out wd hS
  go_simp
  refine cc.mono ?_
  rintro e w2 ⟨v2,rfl,hO2,hb2⟩
  have hS2:Below W.heap.size W w2:=hS.trans (hb2.mono hS.size)
  obtain⟨a2,c2,rfl⟩:=OwnsC.len hO2
  obtain⟨L2,hL2⟩:∃ L,L=LF.1.length:=⟨_,rfl⟩
  rw [← hL2] at hO2 ⊢
  obtain⟨e2,he2⟩:∃ e,e=LF.2:=⟨_,rfl⟩
  rw [← he2] at HP1 HP0 ⊢
  have hF2:=OwnsC.frow hO2
  clear cc hL2 he2
  refine hKK.out _ _ hS2 (fun hS=>?_)
  clear hKK KK
  try simp only [Act.put,List.getElem_toArray,List.getElem_cons_zero,List.getElem_cons_succ,List.setIfInBounds_toArray,List.set_cons_zero,List.set_cons_succ]
  refine wpAnyH_take (i:=8) (v:=.slice a2 L2 c2) rfl (by kernel_rfl) (by kernel_rfl) (by kernel_rfl) (fun _ _ _ h=>h) (Or.inl ⟨by rfl,fun w hS=>by go_simp⟩) hS ?_
  try simp only [Act.put,List.getElem_toArray,List.getElem_cons_zero,List.getElem_cons_succ,List.setIfInBounds_toArray,List.set_cons_zero,List.set_cons_succ]
  refine wpAnyH_take (i:=9) (v:=.int .i64 e2) rfl (by kernel_rfl) (by kernel_rfl) (by kernel_rfl) (fun _ _ _ h=>h) (Or.inl ⟨by rfl,fun w hS=>by go_simp⟩) hS ?_
  try simp only [Act.put,List.getElem_toArray,List.getElem_cons_zero,List.getElem_cons_succ,List.setIfInBounds_toArray,List.set_cons_zero,List.set_cons_succ]
  refine wpAnyH_ready (rs:=[10]) (by kernel_rfl) (by simp) ?_
  refine ready_cons rfl (fun KK hKK=>?_) AllReadyH.nil
  refine⟨?_⟩
  have cc:=told_any (.slice a2 L2 c2) e2 w2 (fun v=>v=.slice a2 L2 c2) (fun _=>rfl)
  go_simp
  refine cc.mono ?_
  rintro e w3 ⟨⟨h0,v3,rfl,rfl⟩ | ⟨hne,rfl⟩,hw3⟩
  rotate_left
  ·rw [hw3]
   exact⟨rfl,.inr ⟨by rw [HP1.out hne];exact hne,by rw [HP1.out hne]⟩,hS⟩
  replace hw3:=hw3.symm
  subst hw3
  subst h0
  have HP2:Hid (PR=PF l (i+bd) LF.1):=HP0.out rfl
  clear cc HP0 HP1
  refine hKK.out _ _ hS (fun hS=>?_)
  clear hKK KK
  try simp only [Act.put,List.getElem_toArray,List.getElem_cons_zero,List.getElem_cons_succ,List.setIfInBounds_toArray,List.set_cons_zero,List.set_cons_succ]
  refine wpAnyH_ready (rs:=[11]) (by kernel_rfl) (by simp) ?_
  refine ready_cons rfl (fun KK hKK=>?_) AllReadyH.nil
  refine⟨?_⟩
  have cc:=cP.out w2 _ hS hF2
  rw [← HP2.out] at cc
  go_simp
  refine cc.mono ?_
  rintro e w4 ⟨v4,rfl,hO4,hb4⟩
  have hS4:Below W.heap.size W w4:=hS.trans (hb4.mono hS.size)
  have hO5:=OwnsC.mono hO4 hS.size
  obtain⟨a4,c4,rfl⟩:=OwnsC.len hO5
  clear cc
  refine hKK.out _ _ hS4 (fun hS=>?_)
  clear hKK KK
  try simp only [Act.put,List.getElem_toArray,List.getElem_cons_zero,List.getElem_cons_succ,List.setIfInBounds_toArray,List.set_cons_zero,List.set_cons_succ]
  refine wpAnyH_take (i:=12) (v:=.slice a4 PR.1.length c4) rfl (by kernel_rfl) (by kernel_rfl) (by kernel_rfl) (fun _ _ _ h=>h) (Or.inl ⟨by rfl,fun w hS=>by go_simp⟩) hS ?_
  try simp only [Act.put,List.getElem_toArray,List.getElem_cons_zero,List.getElem_cons_succ,List.setIfInBounds_toArray,List.set_cons_zero,List.set_cons_succ]
  refine wpAnyH_take (i:=13) (v:=.int .i64 PR.2) rfl (by kernel_rfl) (by kernel_rfl) (by kernel_rfl) (fun _ _ _ h=>h) (Or.inl ⟨by rfl,fun w hS=>by go_simp⟩) hS ?_
  try simp only [Act.put,List.getElem_toArray,List.getElem_cons_zero,List.getElem_cons_succ,List.setIfInBounds_toArray,List.set_cons_zero,List.set_cons_succ]
  refine wpAnyH_ready (rs:=[14]) (by kernel_rfl) (by simp) ?_
  refine ready_cons rfl (fun KK hKK=>?_) AllReadyH.nil
  refine⟨?_⟩
  have cc:=told_any (.slice a4 PR.1.length c4) PR.2 w4 (fun v=>v=.slice a4 PR.1.length c4) (fun _=>rfl)
  go_simp
  refine cc.mono ?_
  rintro e w5 ⟨⟨h0,v5,rfl,rfl⟩ | ⟨hne,rfl⟩,hw5⟩
  rotate_left
  ·rw [hw5]
   exact⟨rfl,.inr ⟨hne,rfl⟩,hS⟩
  replace hw5:=hw5.symm
  subst hw5
  have H0:Hid (PR.2=0):=h0
  clear cc h0
  refine hKK.out _ _ hS (fun hS=>?_)
  clear hKK KK
  try simp only [Act.put,List.getElem_toArray,List.getElem_cons_zero,List.getElem_cons_succ,List.setIfInBounds_toArray,List.set_cons_zero,List.set_cons_succ]
  refine wpAnyH_take (i:=15) (v:=.slice a4 PR.1.length c4) rfl (by kernel_rfl) (by kernel_rfl) (by kernel_rfl) (fun _ _ _ h=>h) (Or.inl ⟨by rfl,fun w hS=>by go_simp⟩) hS ?_
  try simp only [Act.put,List.getElem_toArray,List.getElem_cons_zero,List.getElem_cons_succ,List.setIfInBounds_toArray,List.set_cons_zero,List.set_cons_succ]
  refine wpAnyH_done (by kernel_rfl) ?_ _
  go_wp2_with fail
  go_ret
  exact⟨.ok H0.out hO5,hS⟩
theorem fput_eg:∀ args w,(callFunc 107 args).run Tryz.prog w=.ok (.enter 107 args) w:=enters_of Tryz.func107 (by kernel_rfl) rfl
theorem aput_eg:∀ args w,(callFunc 108 args).run Tryz.prog w=.ok (.enter 108 args) w:=enters_of Tryz.func108 (by kernel_rfl) rfl
theorem mk1_eg:∀ args w,(callFunc 102 args).run Tryz.prog w=.ok (.enter 102 args) w:=enters_of Tryz.func102 (by kernel_rfl) rfl
theorem mkput_any (pf:FuncId) (xi xr:Nat) (w:World):Calls Tryz.prog 102 #[.func (.func pf) #[] #[],.pointer (some ⟨xi,0,none⟩),.pointer (some ⟨xr,0,none⟩)] w fun e w'=>e=.returned (.func (.func 103) #[] #[.pointer (some ⟨xi,0,none⟩),.pointer (some ⟨w.heap.size,0,none⟩),.pointer (some ⟨xr,0,none⟩)])∧w'=w.alloc (.cells #[.func (.func pf) #[] #[]] 115):=by
 have hmk:=mkfd
 go_enter Tryz.func102,Tryz.ntmps102
 go_wp2
 go_ret
 exact⟨rfl,rfl⟩
theorem putting_any (i:Int) (r:List C) (vr:Value) (w:World) (hrr:ClRow Tt w r vr) (hrl:r.length≤40000) (hi0:0≤i∧i≤1000000) :
  Calls Tryz.prog 40 #[.int .i64 i,vr] w fun e w'=>∃ fV cV,e=.returned (.agg #[fV,cV])∧RowC (putOp i r).fn fV w'∧RowC (putOp i r).fc cV w'∧Below w.heap.size w w':=by
 obtain⟨va,vc,rfl,_⟩:=id hrr
 obtain⟨X,hX⟩:∃ X,X=w.heap.size:=⟨_,rfl⟩
 obtain⟨w1,hw1⟩:∃ W,W=((w.alloc (.cells #[.int .i64 i] 3)).alloc (.cells #[.slice va r.length vc] 22)).alloc (.cells #[.nilFunc,.nilFunc] 68):=⟨_,rfl⟩
 have b1:Below w.heap.size w w1:=by rw [hw1];exact bchain (bchain (belowA _ _) (belowA _ _)) (belowA _ _)
 have s1:w1.heap.size=X+3:=by rw [hw1,hX];simp
 have m0:w1.heap[X]? = some (.cells #[.int .i64 i] 3 (0,0)):=by
  rw [hw1,hX];exact (Below.heap_alloc _ _ _ (by simp;omega)).trans ((Below.heap_alloc _ _ _ (by simp)).trans (heapNew w _))
 have m1:w1.heap[X+1]? = some (.cells #[.slice va r.length vc] 22 (0,0)):=by
  rw [hw1,hX]
  refine (Below.heap_alloc _ _ _ (by simp)).trans ?_
  have:=heapNew (w.alloc (.cells #[.int .i64 i] 3)) (.cells #[.slice va r.length vc] 22);rwa [World.size_alloc] at this
 have m2:w1.heap[X+2]? = some (.cells #[.nilFunc,.nilFunc] 68 (0,0)):=by
  rw [hw1,hX]
  have:=heapNew ((w.alloc (.cells #[.int .i64 i] 3)).alloc (.cells #[.slice va r.length vc] 22)) (.cells #[.nilFunc,.nilFunc] 68);rwa [World.size_alloc,World.size_alloc] at this
 obtain⟨w2,hw2⟩:∃ W,W=w1.alloc (.cells #[.func (.func 107) #[] #[]] 115):=⟨_,rfl⟩
 obtain⟨w3,hw3⟩:∃ W,W=w2.alloc (.cells #[.func (.func 108) #[] #[]] 115):=⟨_,rfl⟩
 have b2:Below w1.heap.size w1 w2:=by rw [hw2];exact belowA _ _
 have b3:Below w2.heap.size w2 w3:=by rw [hw3];exact belowA _ _
 have s2:w2.heap.size=X+4:=by rw [hw2];simp;omega
 have s3:w3.heap.size=X+5:=by rw [hw3];simp;omega
 have m3:w2.heap[X+3]? = some (.cells #[.func (.func 107) #[] #[]] 115 (0,0)):=by rw [hw2];have:=heapNew w1 (.cells #[.func (.func 107) #[] #[]] 115);rwa [s1] at this
 have m4:w3.heap[X+4]? = some (.cells #[.func (.func 108) #[] #[]] 115 (0,0)):=by rw [hw3];have:=heapNew w2 (.cells #[.func (.func 108) #[] #[]] 115);rwa [s2] at this
 obtain⟨A,hA⟩:∃ A:Value,A=.func (.func 103) #[] #[.pointer (some ⟨X,0,none⟩),.pointer (some ⟨X+3,0,none⟩),.pointer (some ⟨X+1,0,none⟩)]:=⟨_,rfl⟩
 obtain⟨B,hB⟩:∃ B:Value,B=.func (.func 103) #[] #[.pointer (some ⟨X,0,none⟩),.pointer (some ⟨X+4,0,none⟩),.pointer (some ⟨X+1,0,none⟩)]:=⟨_,rfl⟩
 obtain⟨w4,hw4⟩:∃ W,W=(w3.setCell ⟨X+2,0,none⟩ A).setCell ⟨X+2,1,none⟩ B:=⟨_,rfl⟩
 have k4:Kn (fun q=>q≠X+2) w3 w4:=by rw [hw4];exact (kn_set _ _ _ _).trans (kn_set _ _ _ _)
 have b13:=bchain b2 b3
 have n0:w3.heap[X]? = _:=(b13.block X (by omega)).trans m0
 have n1:w3.heap[X+1]? = _:=(b13.block (X+1) (by omega)).trans m1
 have n2:w3.heap[X+2]? = _:=(b13.block (X+2) (by omega)).trans m2
 have n3:w3.heap[X+3]? = _:=(b3.block (X+3) (by omega)).trans m3
 have r3:=(hrr.blw b1).blw b13
 have bw3:=bchain b1 b13
 have b4:Below w.heap.size w w4:=bw3.trans (k4.below (fun q hq=>by omega) (by omega))
 have r4:ClRow Tt w4 r (.slice va r.length vc):=hrr.blw b4
 have HA:Hid (RowC (putOp i r).fn A w4):=by
  rw [hA];exact prow_any (PF:=putF) (pf:=107) (fun l r i vl vr w h1 h2 h3 h4=>Put_any l r i vl vr w h1 h2 h3 h4) fput_eg i r _ X (X+3) (X+1) w4 ((k4.block X (by omega) (by omega)).trans n0) ((k4.block (X+3) (by omega) (by omega)).trans n3) ((k4.block (X+1) (by omega) (by omega)).trans n1) r4 hrl hi0
 have HB:Hid (RowC (putOp i r).fc B w4):=by
  rw [hB];exact prow_any (PF:=ptA) (pf:=108) (fun l r i vl vr w h1 h2 h3 h4=>APut_any l r i vl vr w h1 h2 h3 h4) aput_eg i r _ X (X+4) (X+1) w4 ((k4.block X (by omega) (by omega)).trans n0) ((k4.block (X+4) (by omega) (by omega)).trans m4) ((k4.block (X+1) (by omega) (by omega)).trans n1) r4 hrl hi0
 have c1:=mkput_any 107 X (X+1) w1
 have c2:=mkput_any 108 X (X+1) w2
 rw [← hw2,s1,← hA] at c1
 rw [← hw3,s2,← hB] at c2
 have z0:w3.cell? ⟨X+2,0,none⟩=some .nilFunc:=by simp [World.cell?,n2]
 have z1:w3.cell? ⟨X+2,1,none⟩=some .nilFunc:=by simp [World.cell?,n2]
 have f0:w3.frozen? ⟨X+2,0,none⟩=false:=by simp [World.frozen?,n2]
 have f1:w3.frozen? ⟨X+2,1,none⟩=false:=by simp [World.frozen?,n2]
 have n4:=set_blk (i:=1) (set_blk (i:=0) n2 A) B
 rw [← hw4] at n4
 have y0:w4.cell? ⟨X+2,0,none⟩=some A:=by simp [World.cell?,n4]
 have y1:w4.cell? ⟨X+2,1,none⟩=some B:=by simp [World.cell?,n4]
 have HX:Hid (X=w.heap.size):=hX
 have H1:Hid (_=_):=hw1
 have H4:Hid (_=_):=hw4
 have hmk:=mkfd
 have eg:=mk1_eg
 clear hw1 hw2 hw3 hw4 hX m0 m1 m2 m3 m4 n0 n1 n2 n3 n4 b1 b2 b3 s1 s2 s3 b13 r3 r4 bw3 k4 hrr
 subst hA
 subst hB
 go_enter Tryz.func40,Tryz.ntmps40
 go_upto_region 2 with fail
 rw [← H1.out]
 simp only [← HX.out]
 clear H1
 go_wp2_with fail
 refine c1.mono ?_
 rintro e wx ⟨rfl,rfl⟩
 clear c1
 go_wp2_with fail
 refine c2.mono ?_
 rintro e wx ⟨rfl,rfl⟩
 clear c2
 go_wp2_with fail
 rw [← H4.out]
 exact bodyPost_ret (v:=.agg #[.func (.func 103) #[] #[.pointer (some ⟨X,0,none⟩),.pointer (some ⟨X+3,0,none⟩),.pointer (some ⟨X+1,0,none⟩)],.func (.func 103) #[] #[.pointer (some ⟨X,0,none⟩),.pointer (some ⟨X+4,0,none⟩),.pointer (some ⟨X+1,0,none⟩)]]) (by simp only [results,Tryz.results40];simp [go_sem,y0,y1]) rfl ⟨_,_,rfl,HA.out,HB.out,b4⟩
end Go.Proofs.YtblbhmnahoiecaaGreat
