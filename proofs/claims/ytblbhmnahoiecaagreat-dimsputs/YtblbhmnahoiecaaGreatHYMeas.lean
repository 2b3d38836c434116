/- A part of the proof. -/
import Derived.Deep.Cut
import Derived.StillTailTactics
import Derived.Laws.EntriesVeiled
import Derived.Test.YtblbhmnahoiecaaGreatHG5
set_option linter.unusedVariables false
set_option linter.unusedSimpArgs false
set_option maxRecDepth 100000
set_option maxHeartbeats 8000000
namespace Go.Proofs.YtblbhmnahoiecaaGreat
open Go.RowKit
def Cn (most:Int) (lo T E N' D':Nat):Prop:=((E:Int)<=most->N'=T/\D'=E)/\(most<(E:Int)->most<(D':Int))/\N'<=T/\lo<=D'/\D'<=E
theorem Cn.refl (most:Int) (lo T E:Nat) (h:lo<=E):Cn most lo T E T E:=⟨fun _=>⟨rfl,rfl⟩,fun h=>h,Nat.le_refl _,h,Nat.le_refl _⟩
theorem Cn.step {most:Int} {lo T E N' D' s x N2 D2:Nat} (h:Cn most lo T E N' D') (k:Cn most D' (N' + s) (max D' x) N2 D2):Cn most lo (T+s) (max E x) N2 D2:=by
 obtain⟨h1,h2,h3,h4,h5⟩:=h
 obtain⟨k1,k2,k3,k4,k5⟩:=k
 refine⟨fun he=>?_,fun he=>?_,by omega,by omega,by omega⟩
 ·obtain⟨e1,e2⟩:=h1 (by omega)
  subst e1 e2
  exact k1 he
 ·by_cases hE:most<(E:Int)
  ·have:=h2 hE;omega
  ·obtain⟨e1,e2⟩:=h1 (by omega)
   subst e1 e2
   exact k2 he
theorem Cn.cast {most:Int} {lo lo' T T' E E' N' D':Nat} (h:Cn most lo T E N' D') (h1:lo'<=lo) (h2:T=T') (h3:E=E'):Cn most lo' T' E' N' D':=by
 subst h2 h3
 obtain⟨a,b,c,d,e⟩:=h
 exact⟨a,b,c,by omega,e⟩
structure CntV (w:World) (bD bM bN bC:Nat) (most:Int) (N D:Nat):Prop where
 d:w.heap[bD]? = some (.cells #[.int .i64 (D:Int)] 3 (0,0))
 m:w.heap[bM]? = some (.cells #[.int .i64 most] 3 (0,0))
 n:w.heap[bN]? = some (.cells #[.int .i64 (N:Int)] 3 (0,0))
 c:w.heap[bC]? = some (.cells #[.func (.func 173) #[] #[.pointer (some ⟨bD,0,none⟩),.pointer (some ⟨bM,0,none⟩),.pointer (some ⟨bN,0,none⟩),.pointer (some ⟨bC,0,none⟩)]] 164 (0,0))
theorem CntV.kn {w w':World} {bD bM bN bC:Nat} {most:Int} {N D:Nat} (h:CntV w bD bM bN bC most N D) (hb:Below w.heap.size w w'):CntV w' bD bM bN bC most N D :=
 ⟨(hb.block _ (Array.getElem?_eq_some_iff.1 h.d).1).trans h.d,(hb.block _ (Array.getElem?_eq_some_iff.1 h.m).1).trans h.m,(hb.block _ (Array.getElem?_eq_some_iff.1 h.n).1).trans h.n,(hb.block _ (Array.getElem?_eq_some_iff.1 h.c).1).trans h.c⟩
theorem CntV.drew {w:World} {bD bM bN bC:Nat} {most:Int} {N D:Nat} (h:CntV w bD bM bN bC most N D):CntV w.drew bD bM bN bC most N D:=⟨h.d,h.m,h.n,h.c⟩
theorem box_cells {w:World} {x:Nat} {a:Value} {ty:TypeId} (h:w.heap[x]? = some (.cells #[a] ty (0,0))):w.cell? ⟨x,0,none⟩=some a/\w.frozen? ⟨x,0,none⟩=false:=by
 refine⟨?_,?_⟩
 ·unfold World.cell?; simp [h]
 ·unfold World.frozen?; simp [h]
def CtC (most:Int) (N:Nat):Prop:=∀ (l:List Tm) (v:Value) (at_ N0 D0:Nat) (ok:Nat->Prop) (bD bM bN bC:Nat) (w:World),CntV w bD bM bN bC most N0 D0->KdT ok w (TmIn ok w) l v->(∀ q,ok q->q≠bD/\q≠bN)->bD≠bN->bD≠bM->bD≠bC->bN≠bM->bN≠bC ->
 blkL l<=N->1<=at_->at_<=D0+1->N0+blkL l<=1000000->D0+blkL l<=1000000 ->
 Calls Tryz.prog 173 #[v,.int .i64 (at_:Int),.pointer (some ⟨bD,0,none⟩),.pointer (some ⟨bM,0,none⟩),.pointer (some ⟨bN,0,none⟩),.pointer (some ⟨bC,0,none⟩)] w fun e w'=>(∃ u,e=.returned u)/\(∃ N1 D1:Nat,CntV w' bD bM bN bC most N1 D1/\Cn most D0 (N0+szL l) (max D0 (at_ - 1+dpL l)) N1 D1)/\Kn (fun q=>q≠bD/\q≠bN) w w'
theorem setN {w:World} {bD bM bN bC:Nat} {most:Int} {N D:Nat} (h:CntV w bD bM bN bC most N D) (n1:bD≠bN) (n4:bN≠bM) (n5:bN≠bC) (N':Int) (N2:Nat) (e:N'=(N2:Int)):CntV (w.setCell ⟨bN,0,none⟩ (.int .i64 N')) bD bM bN bC most N2 D :=
 ⟨(Below.heap_setCell w ⟨bN,0,none⟩ _ bD n1).trans h.d,(Below.heap_setCell w ⟨bN,0,none⟩ _ bM (Ne.symm n4)).trans h.m,by rw [e];exact Boxed.set (t:=3) _ h.n,(Below.heap_setCell w ⟨bN,0,none⟩ _ bC (Ne.symm n5)).trans h.c⟩
theorem setD {w:World} {bD bM bN bC:Nat} {most:Int} {N D:Nat} (h:CntV w bD bM bN bC most N D) (n1:bD≠bN) (n2:bD≠bM) (n3:bD≠bC) (D':Int) (D2:Nat) (e:D'=(D2:Int)):CntV (w.setCell ⟨bD,0,none⟩ (.int .i64 D')) bD bM bN bC most N D2 :=
 ⟨by rw [e];exact Boxed.set (t:=3) _ h.d,(Below.heap_setCell w ⟨bD,0,none⟩ _ bM (Ne.symm n2)).trans h.m,(Below.heap_setCell w ⟨bD,0,none⟩ _ bN (Ne.symm n1)).trans h.n,(Below.heap_setCell w ⟨bD,0,none⟩ _ bC (Ne.symm n3)).trans h.c⟩
theorem szL_blkL (l:List Tm):szL l<=blkL l:=sumN_le fun x _=>size_blk x
theorem dpL_szL (l:List Tm):dpL l<=szL l:=maxL_le fun x hx=>by
 obtain⟨y,hy,rfl⟩:=List.mem_map.1 hx
 exact Nat.le_trans (depth_size y) (sumN_mem (List.mem_map_of_mem hy))
theorem szL_len (l:List Tm):l.length<=szL l:=sumN_len sizeT size_pos l
theorem dpL_pos {l:List Tm} (h:l≠[]):1<=dpL l:=by
 obtain⟨x,hx⟩:=List.exists_mem_of_ne_nil l h
 exact Nat.le_trans (depth_pos x) (maxL_mem (List.mem_map_of_mem hx))
theorem blkL_rest (l:List Tm) (k:Nat) (hk:k<=l.length):blkL (l.take k) + (l.length - k)<=blkL l:=by
 have e:blkL l=blkL (l.take k) + blkL (l.drop k):=by
  unfold blkL;rw [<- List.sum_append,<- List.map_append,List.take_append_drop]
 have:=blkL_len (l.drop k)
 rw [List.length_drop] at this
 omega
theorem dpS_blkS (l:List (List C × List Tm)):dpS l<=blkS l:=maxL_le fun x hx=>by
 obtain⟨b,hb,rfl⟩:=List.mem_map.1 hx
 have h1:=dpL_szL b.2
 have h2:=szL_blkL b.2
 have h3:=sumN_mem (List.mem_map_of_mem (f:=fun b:List C × List Tm=>1+b.1.length+blkL b.2) hb)
 have e:blkS l=(l.map fun b=>1+b.1.length+blkL b.2).sum:=rfl
 omega
theorem szS_blkS (l:List (List C × List Tm)):szS l<=blkS l:=sumN_le fun b _=>by have:=szL_blkL b.2;omega
theorem dpL_take (l:List Tm) (k:Nat):dpL (l.take k)<=blkL (l.take k):=Nat.le_trans (dpL_szL _) (szL_blkL _)
theorem meas_eg:∀ args w,(callFunc 173 args).run Tryz.prog w=.ok (.enter 173 args) w:=enters_of Tryz.func173 (by kernel_rfl) rfl
theorem count_nil (most:Int) (l:List Tm) (v:Value) (at_ N0 D0:Nat) (ok:Nat->Prop) (bD bM bN bC:Nat) (w:World) (hV:CntV w bD bM bN bC most N0 D0) (hl:KdT ok w (TmIn ok w) l v) (hN:blkL l<=0) (ha:1<=at_) (hd:at_<=D0+1) :
 Calls Tryz.prog 173 #[v,.int .i64 (at_:Int),.pointer (some ⟨bD,0,none⟩),.pointer (some ⟨bM,0,none⟩),.pointer (some ⟨bN,0,none⟩),.pointer (some ⟨bC,0,none⟩)] w fun e w'=>(∃ u,e=.returned u)/\(∃ N1 D1:Nat,CntV w' bD bM bN bC most N1 D1/\Cn most D0 (N0+szL l) (max D0 (at_ - 1+dpL l)) N1 D1)/\Kn (fun q=>q≠bD/\q≠bN) w w':=by
 obtain⟨a,cap,rfl,_⟩:=id hl
 obtain rfl:l=[]:=List.length_eq_zero_iff.1 (by have:=blkL_len l;omega)
 go_enter Tryz.func173,Tryz.ntmps173
 go_wp2
 refine bodyPost_ret (results_none rfl _ _ _) rfl ?_
 exact⟨⟨_,rfl⟩,⟨N0,D0,hV,(Cn.refl most D0 N0 D0 (Nat.le_refl _)).cast (Nat.le_refl _) (by simp [szL]) (by simp [dpL,maxL];omega)⟩,Kn.refl _ _⟩
theorem count_step (most:Int) (N:Nat) (IH:CtC most N):CtC most (N+1):=by
 intro l v at_ N0 D0 ok bD bM bN bC w hV hl hok n1 n2 n3 n4 n5 hN ha hd hs1 hs2
 obtain⟨a,cap,rfl,_⟩:=id hl
 have eg:=meas_eg
 have hsz:=szL_blkL l
 have hdp:=dpL_szL l
 have hlen:=szL_len l
 obtain⟨cd,fd⟩:=box_cells hV.d
 obtain⟨cm,fm⟩:=box_cells hV.m
 obtain⟨cn,fn⟩:=box_cells hV.n
 by_cases hz:l=[]
 ·subst hz
  go_enter Tryz.func173,Tryz.ntmps173
  go_wp2
  refine bodyPost_ret (results_none rfl _ _ _) rfl ?_
  exact⟨⟨_,rfl⟩,⟨N0,D0,hV,(Cn.refl most D0 N0 D0 (Nat.le_refl _)).cast (Nat.le_refl _) (by simp [szL]) (by simp [dpL,maxL];omega)⟩,Kn.refl _ _⟩
 ·have hpos:0<l.length:=List.length_pos_iff.2 hz
  have hdpp:=dpL_pos hz
  by_cases hmd:most<(D0:Int)
  ·have HC:Hid (Cn most D0 (N0+szL l) (max D0 (at_ - 1+dpL l)) N0 D0):=by
    refine⟨fun h=>?_,fun _=>hmd,by omega,Nat.le_refl _,by omega⟩
    omega
   obtain⟨L,hL⟩:∃ L,L=l.length:=⟨_,rfl⟩
   rw [<- hL] at hpos ⊢
   have q0:((L:Int) == 0)=false:=by simp;omega
   clear hL
   go_enter Tryz.func173,Tryz.ntmps173
   go_wp2
   refine bodyPost_ret (results_none rfl _ _ _) rfl ?_
   exact⟨⟨_,rfl⟩,⟨N0,D0,hV,HC.out⟩,Kn.refl _ _⟩
  ·obtain⟨L,hL⟩:∃ L,L=l.length:=⟨_,rfl⟩
   have HL:Hid (L=l.length):=hL
   have Hl:Hid (KdT ok w (TmIn ok w) l (.slice a L cap)):=by rw [hL];exact hl
   rw [<- hL] at hpos hlen ⊢
   have q0:((L:Int) == 0)=false:=by simp;omega
   have q1:¬ most<(D0:Int):=hmd
   obtain⟨w1,hw1⟩:∃ w1,w1=w.setCell ⟨bN,0,none⟩ (.int .i64 ((N0:Int) + (L:Int))):=⟨_,rfl⟩
   have V1:CntV w1 bD bM bN bC most (N0+L) D0:=by rw [hw1];exact setN hV n1 n4 n5 _ _ (by simp)
   obtain⟨w2,hw2⟩:∃ w2,w2=w1.setCell ⟨bD,0,none⟩ (.int .i64 (max (D0:Int) (at_:Int))):=⟨_,rfl⟩
   have V2:CntV w2 bD bM bN bC most (N0+L) (max D0 at_):=by rw [hw2];exact setD V1 n1 n2 n3 _ _ (by omega)
   have K2:Kn (fun q=>q≠bD/\q≠bN) w w2:=by
    rw [hw2,hw1]
    exact ((Kn.refl _ _).setCell (p:=⟨bN,0,none⟩) (.inl fun h=>h.2 rfl) _).setCell (p:=⟨bD,0,none⟩) (.inl fun h=>h.1 rfl) _
   obtain⟨cd1,fd1⟩:=box_cells V1.d
   have H1:Hid (_=_):=hw1
   have H2:Hid (_=_):=hw2
   clear hL hl hz hw1 hw2 hmd
   go_enter Tryz.func173,Tryz.ntmps173
   go_upto_region 2 with fail
   rw [<- H1.out]
   go_upto_region 3 with fail
   rw [<- H2.out]
   have HB:Hid (N0+blkL l<=1000000/\D0+blkL l<=1000000/\blkL l<=N+1):=⟨hs1,hs2,hN⟩
   have Hmax:Hid (at_<=max D0 at_):=Nat.le_max_right _ _
   have Hb0:Hid (Cn most D0 (N0+(L - 0) + szL (l.take 0)) (max (max D0 at_) (at_ - 1+dpL (l.take 0))) (N0+L) (max D0 at_)):=(Cn.refl most D0 (N0+L) (max D0 at_) (Nat.le_max_left _ _)).cast (Nat.le_refl _) (by simp [szL]) (by simp only [List.take_zero,dpL,maxL,List.map_nil,List.foldr_nil];omega)
   have hLm:L<=1000000:=by omega
   have Hdp:Hid (1<=dpL l):=hdpp
   have ham:at_<=1000001:=by omega
   clear H1 H2 cd cd1 fd fd1 cm fm cn fn hV V1 hsz hdp hlen hdpp q0 q1 hs1 hs2 hN
   go_wp2
   go_loopw [28] (fun i wr=>∃ k N' D':Nat,k<=L/\i=.int .i64 k/\CntV wr bD bM bN bC most N' D'/\Hid (Cn most D0 (N0+(L - k) + szL (l.take k)) (max (max D0 at_) (at_ - 1+dpL (l.take k))) N' D')/\Hid (at_<=D')/\Kn (fun q=>q≠bD/\q≠bN) w wr) (fun i _=>L - (intOf i).toNat)
   case atStart=>exact⟨0,N0+L,max D0 at_,Nat.zero_le _,rfl,V2,Hb0,Hmax,K2⟩
   case round =>
    obtain⟨wo,hwo⟩:∃ wo,wo=wr:=⟨_,rfl⟩
    subst hwo
    clear V2 Hb0 Hmax K2
    obtain⟨k,N',D',hk,rfl,V,HCn,HaD,hK⟩:=hrel
    by_cases hlt:k<L
    ·obtain⟨x,hx⟩:=someL (l:=l) (k:=k) (by rw [<- HL.out];exact hlt)
     obtain⟨kg,koff,ra,rc,ka,kc,sa,sc,rfl,hkg,h6,ht⟩:=(Hl.out.kn hK hok).at hx
     have hbx:=blk_eq x
     have hst:=blkL_step hx
     have hrs:=blkL_rest l (k+1) (by rw [<- HL.out];omega)
     rw [<- HL.out] at hrs
     have hdt:=dpL_take l k
     have hst2:=szL_blkL (l.take k)
     have hk1:=szL_blkL x.kids
     have hk2:=dpL_szL x.kids
     have hk3:=szS_blkS x.sys
     have hsyl:=blkS_len x.sys
     have hkl:=blkL_len x.kids
     obtain⟨b1,b2,b3⟩:=HB.out
     have hcn:=HCn.out
     obtain⟨_,_,m1,m2,m3⟩:=id hcn
     have haD:=HaD.out
     have cc:=IH x.kids (.slice ka x.kids.length kc) (at_+1) N' D' ok bD bM bN bC wo.drew V.drew (ht.kids.kn (No:=fun _=>True) (Kn.refl _ _).drew (fun _ _=>trivial)) hok n1 n2 n3 n4 n5 (by omega) (by omega) (by omega) (by omega) (by omega)
     have HX:Hid (Cn most D0 (N0+(L - k) + szL (l.take k)) (max (max D0 at_) (at_ - 1+dpL (l.take k))) N' D'):=hcn
     have HS:Hid (szL (l.take (k+1))=szL (l.take k) + sizeT x/\dpL (l.take (k+1))=max (dpL (l.take k)) (depthT x)/\sizeT x=1+(szL x.kids+szS x.sys)/\depthT x=1+max (dpL x.kids) (dpS x.sys)):=⟨szL_step hx,dpL_step hx,size_eq x,depth_eq x⟩
     have HBB:Hid (N0+(L - k) + szL (l.take k) + blkL x.kids+blkS x.sys<=1000000/\max (max D0 at_) (at_ - 1+dpL (l.take k)) + blkL x.kids+blkS x.sys<=1000000/\blkL x.kids+blkS x.sys<=N/\D0+1+blkL x.kids+blkS x.sys<=1000000):=⟨by omega,by omega,by omega,by omega⟩
     have hc4:=h6.c4
     have hc5:=h6.c5
     have hc:=(box_cells V.c).1
     obtain⟨S,hS⟩:∃ S,S=x.sys.length:=⟨_,rfl⟩
     have HSl:Hid (S=x.sys.length):=hS
     have Hsy:Hid (SyT ok wo (TmIn ok wo) x.sys (.slice sa S sc)):=by rw [hS];exact ht.sys
     rw [<- hS] at hc5 hsyl
     have hSm:S<=1000000:=by omega
     obtain⟨zk,hzk⟩:∃ z,z=x.kids.length:=⟨_,rfl⟩
     rw [<- hzk] at cc hc4
     have h6l:=h6.lt
     have wr1:IntKind.i64.wrap ((at_:Int) + 1)=(at_:Int) + 1:=by simp [IntKind.wrap,IntKind.bits,IntKind.signed];omega
     simp only [Int.natCast_add,Int.cast_ofNat_Int] at cc
     clear hS hzk hbx hst hrs hdt hst2 hk1 hk2 hk3 hsyl hkl b1 b2 b3 hcn m1 m2 m3 h6 ht hx HCn HaD HB
     go_wp2_with fail
     refine wp_region_still_tail 8 (by kernel_rfl) (by kernel_rfl) ?_
     simp only [List.take_succ_cons,List.take_zero,List.drop_succ_cons,List.drop_zero]
     repeat still_step
     refine wpStill_nil ?_
     go_wp2_with fail
     refine cc.mono ?_
     rintro e w3 ⟨⟨u,rfl⟩,⟨N1,D1,V1,hC1⟩,hK1⟩
     clear cc
     have hKo:Kn (fun q=>q≠bD/\q≠bN) wo w3:=(Kn.refl _ _).drew.trans hK1
     have hK3:=hK.trans hKo
     have d5:w3.cell? ⟨kg,koff+k*6+5,none⟩=some (.slice sa S sc):=(hKo.cell (p:=⟨kg,koff+k*6+5,none⟩) (hok kg hkg) h6l).trans hc5
     have Hst:Hid (Cn most D0 (N0+(L - k) + szL (l.take k) + szL x.kids+szS (x.sys.take 0)) (max (max (max (max D0 at_) (at_ - 1+dpL (l.take k))) (at_+dpL x.kids)) (at_+dpS (x.sys.take 0))) N1 D1):=by
      have h1:=HX.out.step (hC1.cast (Nat.le_refl _) rfl (show max D' (at_+1 - 1+dpL x.kids)=max D' (at_+dpL x.kids) by omega))
      refine h1.cast (Nat.le_refl _) (by simp [szS]) ?_
      simp only [List.take_zero,dpS,maxL,List.map_nil,List.foldr_nil]
      omega
     have HaD1:Hid (at_<=D1):=by
      obtain⟨_,_,_,h4,_⟩:=hC1
      exact Nat.le_trans (by assumption) h4
     have Hsy3:Hid (SyT ok w3 (TmIn ok w3) x.sys (.slice sa S sc)):=Hsy.out.kn hKo hok
     clear hK1 hC1 HX hc hc4 hc5 V Hsy haD
     go_wp2_with fail
     go_loopw [46] (fun i wr=>∃ j N' D':Nat,j<=S/\i=.int .i64 j/\CntV wr bD bM bN bC most N' D'/\Hid (Cn most D0 (N0+(L - k) + szL (l.take k) + szL x.kids+szS (x.sys.take j)) (max (max (max (max D0 at_) (at_ - 1+dpL (l.take k))) (at_+dpL x.kids)) (at_+dpS (x.sys.take j))) N' D')/\Hid (at_<=D')/\Kn (fun q=>q≠bD/\q≠bN) w3 wr) (fun i _=>S - (intOf i).toNat)
     case atStart=>exact⟨0,N1,D1,Nat.zero_le _,rfl,V1,Hst,HaD1,Kn.refl _ _⟩
     case round =>
      obtain⟨wi,hwi⟩:∃ wi,wi=wr:=⟨_,rfl⟩
      subst hwi
      clear V1 Hst HaD1 d5
      obtain⟨j,N2,D2,hj,rfl,V2,HC2,HaD2,hK4⟩:=hrel
      by_cases hltj:j<S
      ·obtain⟨b,hb⟩:=someL (l:=x.sys) (k:=j) (by rw [<- HSl.out];exact hltj)
       obtain⟨sg,so,fa,fc,ka2,kc2,rfl,hsg,h2,hcl,hkd⟩:=(Hsy3.out.kn hK4 hok).at hb
       obtain⟨lt2,e0,e1⟩:=h2
       obtain⟨b1,b2,b3,b4⟩:=HBB.out
       have s1:=blkS_step hb
       have s2:=blkS_take x.sys (j+1)
       have s3:=szS_blkS (x.sys.take j)
       have s4:=dpS_blkS (x.sys.take j)
       have s5:=szL_blkL x.kids
       have s6:=dpL_szL x.kids
       have hc2:=HC2.out
       obtain⟨_,_,m1,m2,m3⟩:=id hc2
       have haD2:=HaD2.out
       obtain⟨w4,hw4⟩:∃ w4,w4=wi.alloc (.cells #[.slice fa b.1.length fc,.slice ka2 b.2.length kc2] 40):=⟨_,rfl⟩
       have b4':Below wi.heap.size wi w4:=by rw [hw4];exact belowA _ _
       have n4':w4.heap[wi.heap.size]? = some (.cells #[.slice fa b.1.length fc,.slice ka2 b.2.length kc2] 40 (0,0)):=by rw [hw4];exact heapNew _ _
       have V4:=V2.kn b4'
       have cc:=IH b.2 (.slice ka2 b.2.length kc2) (at_+1) N2 D2 ok bD bM bN bC w4 V4 (hkd.blw b4') hok n1 n2 n3 n4 n5 (by omega) (by omega) (by omega) (by omega) (by omega)
       have HS2:Hid (szS (x.sys.take (j+1))=szS (x.sys.take j) + szL b.2/\dpS (x.sys.take (j+1))=max (dpS (x.sys.take j)) (dpL b.2)):=⟨szS_step hb,dpS_step hb⟩
       obtain⟨z1,hz1⟩:∃ z,z=b.1.length:=⟨_,rfl⟩
       obtain⟨z2,hz2⟩:∃ z,z=b.2.length:=⟨_,rfl⟩
       rw [<- hz1] at e0 hw4 n4'
       rw [<- hz2] at e1 hw4 n4' cc
       obtain⟨v0,v1⟩:w4.cell? ⟨wi.heap.size,0,none⟩=some (.slice fa z1 fc)/\w4.cell? ⟨wi.heap.size,1,none⟩=some (.slice ka2 z2 kc2):=by
        refine⟨?_,?_⟩ <;> (unfold World.cell?; simp [n4'])
       have hcc:=(box_cells V4.c).1
       have H4:Hid (_=_):=hw4
       have hK5:Kn (fun q=>q≠bD/\q≠bN) w3 w4:=hK4.trans (Kn.of_below b4')
       simp only [Int.natCast_add,Int.cast_ofNat_Int] at cc
       clear hw4 hz1 hz2 b1 b2 b3 b4 s1 s2 s3 s4 s5 s6 hc2 m1 m2 m3 hb hcl hkd n4' V4 b4' lt2
       go_upto_region 10 with fail
       rw [<- H4.out]
       clear H4
       go_wp2_with fail
       refine cc.mono ?_
       rintro e w5 ⟨⟨u2,rfl⟩,⟨N3,D3,V3,hC3⟩,hK6⟩
       clear cc
       have hK7:=hK5.trans hK6
       have HC4:Hid (Cn most D0 (N0+(L - k) + szL (l.take k) + szL x.kids+szS (x.sys.take (j+1))) (max (max (max (max D0 at_) (at_ - 1+dpL (l.take k))) (at_+dpL x.kids)) (at_+dpS (x.sys.take (j+1)))) N3 D3):=by
        obtain⟨q1,q2⟩:=HS2.out
        refine (HC2.out.step (hC3.cast (Nat.le_refl _) rfl (show max D2 (at_+1 - 1+dpL b.2)=max D2 (at_+dpL b.2) by omega))).cast (Nat.le_refl _) (by omega) (by omega)
       have HaD4:Hid (at_<=D3):=by
        obtain⟨_,_,_,h4,_⟩:=hC3
        exact Nat.le_trans haD2 h4
       clear hC3 HC2 HS2 haD2 HaD2 hK5 hK6 v0 v1 hcc e0 e1 V2
       go_wp2
       go_roundw
       case rel=>exact⟨j+1,N3,D3,by omega,by go_num,V3,HC4,HaD4,hK7⟩
       case measure=>simp [intOf];omega
      ·obtain rfl:j=S:=by omega
       have HC5:Hid (Cn most D0 (N0+(L - (k+1)) + szL (l.take (k+1))) (max (max D0 at_) (at_ - 1+dpL (l.take (k+1)))) N2 D2):=by
        have h1:=HC2.out
        rw [List.take_of_length_le (l:=x.sys) (Nat.le_of_eq HSl.out.symm)] at h1
        obtain⟨q1,q2,q3,q4⟩:=HS.out
        refine h1.cast (Nat.le_refl _) (by omega) (by omega)
       have hK8:=hK3.trans hK4
       clear HC2
       go_wp2
       go_roundw
       case rel=>exact⟨k+1,N2,D2,by omega,by go_num,V2,HC5,HaD2,hK8⟩
       case measure=>simp [intOf];omega
    ·obtain rfl:k=L:=by omega
     have HC5:Hid (Cn most D0 (N0+szL l) (max D0 (at_ - 1+dpL l)) N' D'):=by
      have h1:=HCn.out
      rw [List.take_of_length_le (l:=l) (Nat.le_of_eq HL.out.symm)] at h1
      have:=Hdp.out
      exact h1.cast (Nat.le_refl _) (by omega) (by omega)
     go_wp2
     go_end0
     exact⟨⟨_,rfl⟩,⟨N',D',V,HC5.out⟩,hK⟩
theorem count_any (most:Int) (N:Nat):CtC most (N+1):=by
 induction N with
 | zero=>exact count_step most 0 fun l v at_ N0 D0 ok bD bM bN bC w hV hl hok n1 n2 n3 n4 n5 hN ha hd hs1 hs2=>count_nil most l v at_ N0 D0 ok bD bM bN bC w hV hl hN ha hd
 | succ N ih=>exact count_step most (N+1) ih
theorem TmTop.lo2 {w:World} {t:Tm} {ra rc ka kc sa sc} (h:TmTop Tt w t ra rc ka kc sa sc):TmTop (fun q=>q<w.heap.size) w t ra rc ka kc sa sc:=h.lo
theorem kt_one {w W:World} {t:Tm} {ra rc ka kc sa sc} {ok:Nat->Prop} (ht:TmTop ok w t ra rc ka kc sa sc) (hb:Below w.heap.size w W) (hs:w.heap.size<=W.heap.size) (W':World) (hW:W'=W.alloc (.cells #[.int .i64 t.kind,.int .i64 t.n,.string t.name,.slice ra t.r.length rc,.slice ka t.kids.length kc,.slice sa t.sys.length sc] 26)) :
  KdT (fun q=>ok q\/q=W.heap.size) W' (TmIn (fun q=>ok q\/q=W.heap.size) W') [t] (.slice (some ⟨W.heap.size,0,none⟩) 1 1):=by
 have b2:Below W.heap.size W W':=by rw [hW];exact belowA _ _
 have hv:=(ht.blw (bchain hb b2)).up (ok':=fun q=>ok q\/q=W.heap.size) fun _ h=>.inl h
 have c6:Cs6 W' W.heap.size 0 t ra rc ka kc sa sc:=by rw [hW];exact cs6_new W t ra rc ka kc sa sc
 refine⟨_,1,rfl,Nat.le_refl _,fun j x hx=>?_⟩
 obtain⟨rfl,rfl⟩:j=0/\t=x:=by
  cases j with
  | zero=>simpa using hx
  | succ j=>simp at hx
 exact⟨W.heap.size,0,_,_,_,_,_,_,rfl,.inr rfl,c6.lt,hv.value,by simpa using c6.c0,by simpa using c6.c1,by simpa using c6.c2,by simpa using c6.c3,by simpa using c6.c4,by simpa using c6.c5⟩
theorem Cn.zero_top {most:Int} {t:Tm} {N1 D1:Nat} (h:Cn most 0 (0+szL [t]) (max 0 (1 - 1+dpL [t])) N1 D1):((depthT t:Int)<=most->N1=sizeT t/\D1=depthT t)/\(most<(depthT t:Int)->most<(D1:Int))/\N1<=sizeT t/\D1<=depthT t:=by
 have e1:szL [t]=sizeT t:=by simp [szL]
 have e2:dpL [t]=depthT t:=by simp [dpL,maxL]
 obtain⟨a,b,c,d,e⟩:=h
 rw [e1] at a c
 rw [e2] at a b e
 have e3:max 0 (1 - 1+depthT t)=depthT t:=by omega
 rw [e3] at a b e
 simp only [Nat.zero_add] at a c
 exact⟨a,b,c,e⟩
theorem stack2 {w1:World} {x:Nat} {o:Obj} (h:w1.heap[x]? = some o) (o':Obj):(w1.alloc o').heap[x]? = some o:=(Below.heap_alloc _ _ _ (Array.getElem?_eq_some_iff.1 h).1).trans h
def cntV (s:Nat):Value:=.func (.func 173) #[] #[.pointer (some ⟨s+3,0,none⟩),.pointer (some ⟨s+1,0,none⟩),.pointer (some ⟨s+2,0,none⟩),.pointer (some ⟨s+4,0,none⟩)]
theorem box5 (w:World) (t:Tm) (ra:Option Addr) (rc:Nat) (ka:Option Addr) (kc:Nat) (sa:Option Addr) (sc:Nat) (most:Int):∃ W,W=((((w.alloc (.cells #[.int .i64 t.kind,.int .i64 t.n,.string t.name,.slice ra t.r.length rc,.slice ka t.kids.length kc,.slice sa t.sys.length sc] 26)).alloc (.cells #[.int .i64 most] 3)).alloc (.cells #[.int .i64 0] 3)).alloc (.cells #[.int .i64 0] 3)).alloc (.cells #[.nilFunc] 164) /\
  Below w.heap.size w W/\W.heap.size=w.heap.size+5/\Cs6 W w.heap.size 0 t ra rc ka kc sa sc/\W.heap[w.heap.size+1]? = some (.cells #[.int .i64 most] 3 (0,0))/\W.heap[w.heap.size+2]? = some (.cells #[.int .i64 0] 3 (0,0))/\W.heap[w.heap.size+3]? = some (.cells #[.int .i64 0] 3 (0,0))/\W.heap[w.heap.size+4]? = some (.cells #[.nilFunc] 164 (0,0)):=by
 refine⟨_,rfl,bchain (bchain (bchain (bchain (belowA _ _) (belowA _ _)) (belowA _ _)) (belowA _ _)) (belowA _ _),by simp,?_,?_,?_,?_,?_⟩
 ·exact cs6_of (stack2 (stack2 (stack2 (stack2 (heapNew w _) _) _) _) _)
 ·have:=heapNew (w.alloc (.cells #[.int .i64 t.kind,.int .i64 t.n,.string t.name,.slice ra t.r.length rc,.slice ka t.kids.length kc,.slice sa t.sys.length sc] 26)) (.cells #[.int .i64 most] 3)
  rw [World.size_alloc] at this
  exact stack2 (stack2 (stack2 this _) _) _
 ·have:=heapNew ((w.alloc (.cells #[.int .i64 t.kind,.int .i64 t.n,.string t.name,.slice ra t.r.length rc,.slice ka t.kids.length kc,.slice sa t.sys.length sc] 26)).alloc (.cells #[.int .i64 most] 3)) (.cells #[.int .i64 0] 3)
  rw [World.size_alloc,World.size_alloc] at this
  exact stack2 (stack2 this _) _
 ·have:=heapNew (((w.alloc (.cells #[.int .i64 t.kind,.int .i64 t.n,.string t.name,.slice ra t.r.length rc,.slice ka t.kids.length kc,.slice sa t.sys.length sc] 26)).alloc (.cells #[.int .i64 most] 3)).alloc (.cells #[.int .i64 0] 3)) (.cells #[.int .i64 0] 3)
  rw [World.size_alloc,World.size_alloc,World.size_alloc] at this
  exact stack2 this _
 ·have:=heapNew ((((w.alloc (.cells #[.int .i64 t.kind,.int .i64 t.n,.string t.name,.slice ra t.r.length rc,.slice ka t.kids.length kc,.slice sa t.sys.length sc] 26)).alloc (.cells #[.int .i64 most] 3)).alloc (.cells #[.int .i64 0] 3)).alloc (.cells #[.int .i64 0] 3)) (.cells #[.nilFunc] 164)
  rw [World.size_alloc,World.size_alloc,World.size_alloc,World.size_alloc] at this
  exact this
theorem measure_any (t:Tm) (v:Value) (most:Int) (w:World) (hv:TmIn Tt w t v) (hb:blk t<=100000) :
  Calls Tryz.prog 125 #[v,.int .i64 most] w fun e w'=>(∃ N1 D1:Nat,e=.returned (.tuple #[.int .i64 (N1:Int),.int .i64 (D1:Int)])/\((depthT t:Int)<=most->N1=sizeT t/\D1=depthT t)/\(most<(depthT t:Int)->most<(D1:Int))/\N1<=sizeT t/\D1<=depthT t)/\Below w.heap.size w w':=by
 obtain⟨ra,rc,ka,kc,sa,sc,rfl,ht⟩:=hv.form
 have eg:=meas_eg
 obtain⟨W,hW,hbW,sW,c6,e1,e2,e3,e4⟩:=box5 w t ra rc ka kc sa sc most
 obtain⟨W2,hW2⟩:∃ W2,W2=W.setCell ⟨w.heap.size+4,0,none⟩ (cntV w.heap.size):=⟨_,rfl⟩
 have k2:Kn (fun q=>q≠w.heap.size+4) W W2:=by rw [hW2];exact (Kn.refl _ _).setCell (p:=⟨w.heap.size+4,0,none⟩) (.inl fun h=>h rfl) _
 have b2:Below w.heap.size w W2:=by rw [hW2];exact hbW.setCell (p:=⟨w.heap.size+4,0,none⟩) (by show _<=w.heap.size+4;omega) _
 have sW2:W2.heap.size=w.heap.size+5:=by rw [hW2];simp [World.setCell,sW]
 have V2:CntV W2 (w.heap.size+3) (w.heap.size+1) (w.heap.size+2) (w.heap.size+4) most 0 0:=⟨(k2.block _ (by omega) (by omega)).trans e3,(k2.block _ (by omega) (by omega)).trans e1,(k2.block _ (by omega) (by omega)).trans e2,by rw [hW2];exact Boxed.set (t:=164) _ e4⟩
 have c62:=c6.kn k2 (by omega)
 obtain⟨W3,hW3⟩:∃ W3,W3=W2.alloc (.cells #[.int .i64 t.kind,.int .i64 t.n,.string t.name,.slice ra t.r.length rc,.slice ka t.kids.length kc,.slice sa t.sys.length sc] 26):=⟨_,rfl⟩
 have hk:=kt_one ht.lo2 b2 b2.size W3 hW3
 have b3:Below W2.heap.size W2 W3:=by rw [hW3];exact belowA _ _
 have V3:=V2.kn b3
 have hbl:blkL [t]=blk t:=by simp [blkL]
 have cc:=count_any most (blk t) [t] _ 1 0 0 _ (w.heap.size+3) (w.heap.size+1) (w.heap.size+2) (w.heap.size+4) W3 V3 hk (fun q hq=>by rcases hq with hq | hq <;> omega) (by omega) (by omega) (by omega) (by omega) (by omega) (by omega) (by omega) (by omega) (by omega) (by omega)
 obtain⟨x4,f4⟩:=box_cells e4
 obtain⟨y0,y1,y2,y3,y4,y5⟩:=(⟨c62.c0,c62.c1,c62.c2,c62.c3,c62.c4,c62.c5⟩:_/\_/\_/\_/\_/\_)
 simp only [Nat.zero_add] at y1 y2 y3 y4 y5
 have y6:=(box_cells V2.c).1
 have HW:Hid (_=_):=hW
 have HW2:Hid (_=_):=hW2
 have HW3:Hid (_=_):=hW3
 have HB:Hid (Below w.heap.size w W3):=bchain b2 b3
 have s3:w.heap.size+5<=W3.heap.size:=by have:=b3.size;omega
 rw [sW2] at cc
 obtain⟨s,hs⟩:∃ s,s=w.heap.size:=⟨_,rfl⟩
 unfold cntV at HW2
 clear hW hW2 hW3 hbW c6 e1 e2 e3 e4 k2 b2 V2 c62 hk b3 V3 hbl hv ht hb
 go_enter Tryz.func125,Tryz.ntmps125
 go_upto_region 2 with fail
 rw [<- HW.out]
 simp only [Nat.add_assoc,Nat.reduceAdd]
 go_upto_region 3 with fail
 rw [<- HW2.out]
 go_wp2_with fail
 rw [<- HW3.out]
 refine cc.mono ?_
 rintro e W4 ⟨⟨u,rfl⟩,⟨N1,D1,V4,hC⟩,hK4⟩
 clear cc
 obtain⟨n0,n1⟩:=box_cells V4.n
 obtain⟨d0,d1⟩:=box_cells V4.d
 have HC:Hid (_/\_/\_/\_):=hC.zero_top
 have s4:w.heap.size+5<=W4.heap.size:=Nat.le_trans s3 hK4.size
 have HB4:Hid (Below w.heap.size w W4):=HB.out.trans (hK4.below (fun q hq=>⟨by omega,by omega⟩) (by omega))
 have Hn:Hid (W4.heap[w.heap.size+2]? = _):=V4.n
 have Hd:Hid (W4.heap[w.heap.size+3]? = _):=V4.d
 clear V4 hC hK4 HW HW2 HW3 x4 f4 y0 y1 y2 y3 y4 y5 y6 HB
 go_wp2_with fail
 go_region
 obtain⟨W5,hW5⟩:∃ W5,W5=((W4.setCell ⟨w.heap.size+2,0,none⟩ (.int .i64 (N1:Int))).setCell ⟨w.heap.size+3,0,none⟩ (.int .i64 (D1:Int))).drew:=⟨_,rfl⟩
 have r3:W5.heap[w.heap.size+3]? = some (.cells #[.int .i64 (D1:Int)] 3 (0,0)):=by
  rw [hW5]
  exact Boxed.set (t:=3) (v:=.int .i64 (D1:Int)) _ ((Below.heap_setCell W4 ⟨w.heap.size+2,0,none⟩ _ (w.heap.size+3) (by show w.heap.size+3≠w.heap.size+2;omega)).trans Hd.out)
 have r2:W5.heap[w.heap.size+2]? = some (.cells #[.int .i64 (N1:Int)] 3 (0,0)):=by
  rw [hW5]
  exact (Below.heap_setCell _ ⟨w.heap.size+3,0,none⟩ _ (w.heap.size+2) (by show w.heap.size+2≠w.heap.size+3;omega)).trans (Boxed.set (t:=3) (v:=.int .i64 (N1:Int)) _ Hn.out)
 have HB5:Hid (Below w.heap.size w W5):=by
  rw [hW5]
  exact ((HB4.out.setCell (p:=⟨w.heap.size+2,0,none⟩) (by show _<=w.heap.size+2;omega) _).setCell (p:=⟨w.heap.size+3,0,none⟩) (by show _<=w.heap.size+3;omega) _).drew
 have c2:=(box_cells r2).1
 have c3:=(box_cells r3).1
 rw [<- hW5]
 clear hW5 r2 r3 n0 n1 d0 d1 Hn Hd
 go_wp2
 exact bodyPost_ret (v:=.tuple #[.int .i64 (N1:Int),.int .i64 (D1:Int)]) (by simp only [results,Tryz.results125];simp [go_sem,c2,c3]) rfl ⟨⟨N1,D1,rfl,HC.out⟩,HB5.out⟩
end Go.Proofs.YtblbhmnahoiecaaGreat
