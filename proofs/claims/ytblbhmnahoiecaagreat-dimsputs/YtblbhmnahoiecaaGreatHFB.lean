/- A part of the proof. -/
import Derived.Test.YtblbhmnahoiecaaGreatHFA
import Derived.Lib.AppendZeros
import Derived.RangeFuncNested
import Derived.RangeFuncBound
import Derived.Shelf.RegionOpen
import Derived.OwnWalkIn
import Derived.LoopNIn
import Derived.LoopIn
import Derived.Lib.SmallJoins
import Derived.Deep.SlicePairs
set_option linter.unusedVariables false
set_option linter.unusedSimpArgs false
set_option maxRecDepth 100000
set_option maxHeartbeats 8000000
namespace Go.Proofs.YtblbhmnahoiecaaGreat
open Go.RowKit Go.Shelf Go.Sort
open Go.RowKit Go.Sort
open Go.RowKit
open Go.RowKit Go.Shelf
open Go.ChangeShapes Go.WideShapes Go.ChangeAt Go.RowKit
structure FRow (w:World) (v:Value) (l:List C):Prop where
 row:CRow w v l
 cap:∃ a n cap,v=.slice a n cap/\n<=cap
theorem FRow.below {w w':World} {v:Value} {l:List C} (h:FRow w v l) (hb:Below w.heap.size w w'):FRow w' v l:=⟨h.row.below hb,h.cap⟩
theorem FRow.form {w:World} {v:Value} {l:List C} (h:FRow w v l) (hl:l≠[]):∃ g off cap,v=.slice (some ⟨g,off,none⟩) l.length cap/\l.length<=cap/\g<w.heap.size/\CellsC w g off l:=by
 obtain⟨g,off,cap,rfl,hg,hc⟩:=h.row.cons hl
 obtain⟨a,n,cap',e,hle⟩:=h.cap
 injection e with e1 e2 e3
 subst e2 e3
 exact⟨g,off,cap,rfl,hle,hg,hc⟩
theorem FRow.len {w:World} {v:Value} {l:List C} (h:FRow w v l):∃ a cap,v=.slice a l.length cap:=h.row.len
theorem fpred_any (c:C) (B:Nat) (w:World) (hB:B<w.heap.size) (h0:w.cell? ⟨B,0,none⟩=some (.int .u32 (c.1.val:Int))) (h1:w.cell? ⟨B,1,none⟩=some (.int .u32 (c.2.val:Int))) :
  PredBelow Tryz.prog 191 #[.pointer (some ⟨B,0,none⟩)] (fun x=>.agg (encC x).toArray) (fun x=>belC c x) w:=fun W x hb=>by
 have g0:W.cell? ⟨B,0,none⟩=some (.int .u32 (c.1.val:Int)):=(hb.cell (p:=⟨B,0,none⟩) hB).trans h0
 have g1:W.cell? ⟨B,1,none⟩=some (.int .u32 (c.2.val:Int)):=(hb.cell (p:=⟨B,1,none⟩) hB).trans h1
 have hBW:B<W.heap.size:=Nat.lt_of_lt_of_le hB hb.size
 have hne:B≠W.heap.size:=by omega
 show Calls Tryz.prog 191 #[clV x,.pointer (some ⟨B,0,none⟩)] W _
 go_enter Tryz.func191,Tryz.ntmps191
 go_wp2_with (go_at_call 192;refine (bel_any c x _).mono ?_;rintro e w' ⟨rfl,hG⟩)
 go_ret
 exact⟨rfl,(hb.alloc hb.size _).trans (hG.below.mono (by have:=hb.size;simp;omega))⟩
theorem fbelowOne_any (c:C) (l:List C) (v:Value) (w:World) (hv:CRow w v l) (hl:l.length<=100000) :
  Calls Tryz.prog 152 #[clV c,v] w fun e w'=>e=.returned (.bool (l.any (fun b=>belC c b)))/\Below w.heap.size w w':=by
 have eg:∀ args w,(callFunc 191 args).run Tryz.prog w=.ok (.enter 191 args) w:=enters_of Tryz.func191 (by kernel_rfl) rfl
 by_cases hz:l=[]
 ·subst hz
  obtain⟨a,cap,rfl⟩:=hv.len
  clear hv
  go_enter Tryz.func152,Tryz.ntmps152
  go_wp2_with (go_at_call 143;refine (has_none _ _ _ _).mono ?_;rintro e w' ⟨rfl,rfl⟩)
  go_ret
  exact⟨rfl,below_alloc _ _⟩
 ·obtain⟨g,off,cap,rfl,hg,hc⟩:=hv.cons hz
  clear hv
  have hcon:=AnyQ.slices_ContainsFunc hasC 2 Tryz.isAgg38 Tryz.sizeOf38 encC (fun _=>rfl) (fun x=>belC c x) 191 #[.pointer (some ⟨w.heap.size,0,none⟩)] eg g off l.length cap l (w.alloc (.cells #[.int .u32 (c.1.val:Int),.int .u32 (c.2.val:Int)] 38))
   (fpred_any c w.heap.size _ (by simp) (by simp [go_sem]) (by simp [go_sem])) (Nat.le_refl _) (by omega) (by simp;omega) (fun j hj i u hi=>by
    refine Lib.cell?_alloc_some _ ?_
    have h1:=hc j l[j] (List.getElem?_eq_getElem hj)
    have e:l[j]! = l[j]:=getElem!_pos l j hj
    rw [e] at hi
    match i,hi with
    | 0,hi=>simp [encC] at hi;rw [<- hi];exact h1.1
    | 1,hi=>simp [encC] at hi;rw [<- hi];exact h1.2
    | i+2,hi=>simp [encC] at hi)
  change Calls Tryz.prog 143 _ _ _ at hcon
  rw [List.take_of_length_le (Nat.le_refl _)] at hcon
  clear hc
  generalize l.any (fun b=>belC c b)=r at hcon ⊢
  go_enter Tryz.func152,Tryz.ntmps152
  go_wp2_with (go_at_call 143;refine hcon.mono ?_;rintro e w' ⟨rfl,hb'⟩)
  go_ret
  exact⟨rfl,(below_alloc w _).trans (hb'.mono (by simp))⟩
theorem cright_q (c:C) (w:World) (d:Nat) (os:Array Obj):Calls Tryz.prog 150 #[clV c] (grow (redrawn w d) os) fun e w''=>e=.returned (.bool (rightC c))/\∃ p:Regrown,w''=grow (redrawn w p.d) p.os :=
 Calls.regrown_of ((cright_any c _).mono fun _ _ h=>⟨h.1,h.2.below⟩)
theorem cright_qt (c:C) (w:World) (d:Nat) (os:Array Obj) (h:rightC c=true):Calls Tryz.prog 150 #[clV c] (grow (redrawn w d) os) fun e w''=>e=.returned (.bool true)/\∃ p:Regrown,w''=grow (redrawn w p.d) p.os:=h ▸ cright_q c w d os
theorem cright_qf (c:C) (w:World) (d:Nat) (os:Array Obj) (h:rightC c=false):Calls Tryz.prog 150 #[clV c] (grow (redrawn w d) os) fun e w''=>e=.returned (.bool false)/\∃ p:Regrown,w''=grow (redrawn w p.d) p.os:=h ▸ cright_q c w d os
theorem cmp_q (a b:C) (w:World) (d:Nat) (os:Array Obj):Calls Tryz.prog 151 #[clV a,clV b] (grow (redrawn w d) os) fun e w''=>e=.returned (.int .i64 (cmpC a b))/\∃ p:Regrown,w''=grow (redrawn w p.d) p.os :=
 Calls.regrown_of ((cmp_any a b _).mono fun _ _ h=>⟨h.1,h.2.below⟩)
theorem cmp_qm (a b:C) (w:World) (d:Nat) (os:Array Obj) (h:cmpC a b = -1):Calls Tryz.prog 151 #[clV a,clV b] (grow (redrawn w d) os) fun e w''=>e=.returned (.int .i64 (-1))/\∃ p:Regrown,w''=grow (redrawn w p.d) p.os:=h ▸ cmp_q a b w d os
theorem cmp_qz (a b:C) (w:World) (d:Nat) (os:Array Obj) (h:cmpC a b=0):Calls Tryz.prog 151 #[clV a,clV b] (grow (redrawn w d) os) fun e w''=>e=.returned (.int .i64 0)/\∃ p:Regrown,w''=grow (redrawn w p.d) p.os:=h ▸ cmp_q a b w d os
theorem cmp_qp (a b:C) (w:World) (d:Nat) (os:Array Obj) (h:cmpC a b=1):Calls Tryz.prog 151 #[clV a,clV b] (grow (redrawn w d) os) fun e w''=>e=.returned (.int .i64 1)/\∃ p:Regrown,w''=grow (redrawn w p.d) p.os:=h ▸ cmp_q a b w d os
theorem fb_q (c:C) (l:List C) (v:Value) (w:World) (d:Nat) (os:Array Obj) (hv:CRow w v l) (hl:l.length<=100000):Calls Tryz.prog 152 #[clV c,v] (grow (redrawn w d) os) fun e w''=>e=.returned (.bool (l.any (fun b=>belC c b)))/\∃ p:Regrown,w''=grow (redrawn w p.d) p.os :=
 Calls.regrown_of (fbelowOne_any c l v _ (hv.below (below_regrown w d os)) hl)
theorem fb_qt (c:C) (l:List C) (v:Value) (w:World) (d:Nat) (os:Array Obj) (hv:CRow w v l) (hl:l.length<=100000) (h:l.any (fun b=>belC c b)=true):Calls Tryz.prog 152 #[clV c,v] (grow (redrawn w d) os) fun e w''=>e=.returned (.bool true)/\∃ p:Regrown,w''=grow (redrawn w p.d) p.os:=h ▸ fb_q c l v w d os hv hl
theorem fb_qf (c:C) (l:List C) (v:Value) (w:World) (d:Nat) (os:Array Obj) (hv:CRow w v l) (hl:l.length<=100000) (h:l.any (fun b=>belC c b)=false):Calls Tryz.prog 152 #[clV c,v] (grow (redrawn w d) os) fun e w''=>e=.returned (.bool false)/\∃ p:Regrown,w''=grow (redrawn w p.d) p.os:=h ▸ fb_q c l v w d os hv hl
theorem pre_step {f:List C} {k:Nat} {c:C} (h:PreOk (f.take k)) (hk:f[k]? = some c) (hr:rightC c=true) (hlt:∀ d,0<k->f[k - 1]? = some d->ltC d c=true) (ha:(f.take k).any (fun b=>belC c b)=false):PreOk (f.take (k+1)):=by
 have e:f.take (k+1)=f.take k ++ [c]:=by rw [List.take_add_one,hk];rfl
 rw [e]
 refine PreOk.snoc.2 ⟨h,hr,fun d hd=>?_,ha⟩
 have hkl:k<f.length:=by
  rcases Nat.lt_or_ge k f.length with h1|h1
  ·exact h1
  ·rw [List.getElem?_eq_none h1] at hk;exact absurd hk (by simp)
 rw [List.getLast?_eq_getElem?,List.length_take,Nat.min_eq_left (Nat.le_of_lt hkl)] at hd
 have h0:0<k:=by
  rcases Nat.eq_zero_or_pos k with rfl|h0
  ·simp at hd
  ·exact h0
 rw [List.getElem?_take,if_pos (by omega)] at hd
 exact hlt d h0 hd
theorem not_pre {f:List C} {k:Nat} {c:C} (hk:f[k]? = some c) (h:¬ (rightC c=true/\(∀ d,0<k->f[k - 1]? = some d->ltC d c=true)/\(f.take k).any (fun b=>belC c b)=false)):rightF f=false:=by
 cases hr:rightF f
 ·rfl
 ·obtain⟨hp,_⟩:=rightF_iff.1 hr
  have h1:=hp.take (k+1)
  have e:f.take (k+1)=f.take k ++ [c]:=by rw [List.take_add_one,hk];rfl
  rw [e] at h1
  obtain⟨_,h2,h3,h4⟩:=PreOk.snoc.1 h1
  refine absurd ⟨h2,fun d h0 hd=>h3 d ?_,h4⟩ h
  have hkl:k<f.length:=by
   rcases Nat.lt_or_ge k f.length with h1|h1
   ·exact h1
   ·rw [List.getElem?_eq_none h1] at hk;exact absurd hk (by simp)
  rw [List.getLast?_eq_getElem?,List.length_take,Nat.min_eq_left (Nat.le_of_lt hkl),List.getElem?_take,if_pos (by omega)]
  exact hd
theorem fright_any (l:List C) (v:Value) (w:World) (hv:FRow w v l) (hl:l.length<=100000) :
  Calls Tryz.prog 101 #[v] w fun e w'=>e=.returned (.bool (rightF l))/\Below w.heap.size w w':=by
 by_cases hbig:64<l.length
 ·have H:Hid (rightF l=false):=by
   cases hr:rightF l
   ·rfl
   ·have:=rightF_len hr;omega
  obtain⟨a0,cap,rfl⟩:=hv.len
  clear hv
  generalize l.length=n at *
  go_enter Tryz.func101,Tryz.ntmps101
  go_wp2
  go_ret
  exact⟨ret_bool H.out.symm,Below.refl _ _⟩
 by_cases hz:l=[]
 ·subst hz
  obtain⟨a0,cap,rfl⟩:=hv.len
  clear hv
  go_enter Tryz.func101,Tryz.ntmps101
  go_wp2
  go_loop [10] (fun i=>i=.int .i64 0) (fun _=>0)
  case atStart=>rfl
  case round =>
   subst hrel
   go_wp2
   go_ret
   exact⟨ret_bool rightF_nil.symm,Below.refl _ _⟩
 obtain⟨g,off,cap,rfl,hcap,hg,hc⟩:=hv.form hz
 clear hv hl
 have hl:l.length<=64:=by omega
 clear hbig
 obtain⟨n,hn⟩:∃ n,n=l.length:=⟨_,rfl⟩
 have Hn:Hid (n=l.length):=hn
 rw [<- hn] at hl hcap ⊢
 clear hn
 go_enter Tryz.func101,Tryz.ntmps101
 go_wp2
 go_loopw [10] (fun i wr=>∃ k:Nat,k<=n/\i=.int .i64 k/\PreOk (l.take k)/\Below w.heap.size w wr) (fun i _=>n - (intOf i).toNat)
 case atStart=>exact⟨0,Nat.zero_le _,rfl,PreOk.nil,Below.refl _ _⟩
 case round =>
  obtain⟨k,hk,rfl,hpre,hny⟩:=hrel
  have HP:Hid (PreOk (l.take k)):=hpre
  clear hpre
  by_cases hlt:k<n
  ·obtain⟨c,hck⟩:=get_some (l:=l) (k:=k) (by rw [<- Hn.out];exact hlt)
   have HC:Hid (l[k]? = some c):=hck
   obtain⟨x0,x1⟩:=(hc.below hny hg) k c hck
   have htl:(l.take k).length=k:=by rw [List.length_take,<- Hn.out];omega
   have hgr:g<wr.heap.size:=Nat.lt_of_lt_of_le hg hny.size
   have hrow:CRow wr (.slice (some ⟨g,off,none⟩) k cap) (l.take k):=by
    have h1:CellsC wr g off (l.take k):=CellsC.take (hc.below hny hg) k
    exact .inr ⟨g,off,cap,by rw [htl],hgr,h1⟩
   have hrl:(l.take k).length<=100000:=by omega
   have hA:=At.made wr c 38
   have hBb:=below_alloc wr (.cells #[.int .u32 (c.1.val:Int),.int .u32 (c.2.val:Int)] 38)
   cases hrc:rightC c
   ·have HT:Hid (rightF l=false):=not_pre hck (fun h=>by rw [h.1] at hrc;exact absurd hrc (by simp))
    clear hck hrow htl hrl
    go_wp2
    generalize wr.alloc (.cells #[.int .u32 (c.1.val:Int),.int .u32 (c.2.val:Int)] 38)=wb at hA hBb ⊢
    obtain⟨A0,A1⟩:=hA.regrown
    refine wp_region_quiet_below (by kernel_rfl) (by kernel_rfl) ?_
    repeat (first | go_big_quiet_step ((refine cright_qf _ _ _ _ ?_;with_reducible assumption)) | quiet_step ((refine cright_qf _ _ _ _ ?_;with_reducible assumption)))
    refine wpQuiet_nil ?_
    intro _ hw'
    obtain⟨⟨dq,osq⟩,hw''⟩:=hw'
    subst hw''
    go_wp2
    go_ret
    exact⟨ret_bool HT.out.symm,chain (chain hny hBb) (below_regrown _ dq osq)⟩
   ·replace hrow:=hrow.below hBb
    rcases Nat.eq_zero_or_pos k with rfl|h0
    ·simp only [Nat.zero_mul,Nat.add_zero] at x0 x1
     have hany:(l.take 0).any (fun b=>belC c b)=false:=rfl
     have HT:Hid (PreOk (l.take (0+1))):=pre_step HP.out hck hrc (fun d h _=>absurd h (by omega)) hany
     clear hck htl
     go_wp2
     generalize wr.alloc (.cells #[.int .u32 (c.1.val:Int),.int .u32 (c.2.val:Int)] 38)=wb at hA hBb hrow ⊢
     obtain⟨A0,A1⟩:=hA.regrown
     refine wp_region_quiet_below (by kernel_rfl) (by kernel_rfl) ?_
     repeat (first | go_big_quiet_step (first | (refine cright_qt _ _ _ _ ?_;with_reducible assumption) | (refine fb_qf _ _ _ _ _ _ hrow hrl ?_;with_reducible assumption)) | quiet_step (first | (refine cright_qt _ _ _ _ ?_;with_reducible assumption) | (refine fb_qf _ _ _ _ _ _ hrow hrl ?_;with_reducible assumption)))
     refine wpQuiet_nil ?_
     intro _ hw'
     obtain⟨⟨dq,osq⟩,hw''⟩:=hw'
     subst hw''
     go_wp2
     go_roundw
     case rel=>exact⟨0+1,by omega,by go_num,HT.out,chain (chain hny hBb) (below_regrown _ dq osq)⟩
     case measure=>simp [intOf];omega
    ·obtain⟨j,rfl⟩:∃ j,k=j+1:=⟨k - 1,by omega⟩
     have hj1:wrap64 ((j:Int) + 1 - 1)=(j:Int):=by unfold wrap64;omega
     have hj2:((j:Int) + 1) > 0:=by omega
     obtain⟨d,hdk⟩:=get_some (l:=l) (k:=j) (by rw [<- Hn.out];omega)
     have hpv:=(CellsC.below (hc.below hny hg) hBb hgr)
     have HD:Hid (l[j+1 - 1]? = some d):=hdk
     rcases cmpC_cases d c with ⟨hlt2,hcm⟩|⟨hlt2,hcm⟩|⟨hlt2,hcm⟩
     ·cases hany:(l.take (j+1)).any (fun b=>belC c b)
      ·have HT:Hid (PreOk (l.take (j+1+1))):=pre_step HP.out hck hrc (fun d2 _ h2=>by rw [HD.out] at h2;rw [<- Option.some.inj h2];exact hlt2) hany
       go_wp2
       generalize wr.alloc (.cells #[.int .u32 (c.1.val:Int),.int .u32 (c.2.val:Int)] 38)=wb at hA hBb hrow hpv ⊢
       obtain⟨A0,A1⟩:=hA.regrown
       obtain⟨D0,D1⟩:=hpv.regrown hdk
       clear hdk hck hpv htl
       refine wp_region_quiet_below (by kernel_rfl) (by kernel_rfl) ?_
       repeat (first | go_big_quiet_step (first | (refine cright_qt _ _ _ _ ?_;with_reducible assumption) | (refine cmp_qm _ _ _ _ _ ?_;with_reducible assumption) | (refine fb_qf _ _ _ _ _ _ hrow hrl ?_;with_reducible assumption)) | quiet_step (first | (refine cright_qt _ _ _ _ ?_;with_reducible assumption) | (refine cmp_qm _ _ _ _ _ ?_;with_reducible assumption) | (refine fb_qf _ _ _ _ _ _ hrow hrl ?_;with_reducible assumption)))
       refine wpQuiet_nil ?_
       intro _ hw'
       obtain⟨⟨dq,osq⟩,hw''⟩:=hw'
       subst hw''
       go_wp2
       go_roundw
       case rel=>exact⟨j+1+1,by omega,by go_num,HT.out,chain (chain hny hBb) (below_regrown _ dq osq)⟩
       case measure=>simp [intOf];omega
      ·have HT:Hid (rightF l=false):=not_pre hck (fun h=>by rw [h.2.2] at hany;exact absurd hany (by simp))
       go_wp2
       generalize wr.alloc (.cells #[.int .u32 (c.1.val:Int),.int .u32 (c.2.val:Int)] 38)=wb at hA hBb hrow hpv ⊢
       obtain⟨A0,A1⟩:=hA.regrown
       obtain⟨D0,D1⟩:=hpv.regrown hdk
       clear hdk hck hpv htl
       refine wp_region_quiet_below (by kernel_rfl) (by kernel_rfl) ?_
       repeat (first | go_big_quiet_step (first | (refine cright_qt _ _ _ _ ?_;with_reducible assumption) | (refine cmp_qm _ _ _ _ _ ?_;with_reducible assumption) | (refine fb_qt _ _ _ _ _ _ hrow hrl ?_;with_reducible assumption)) | quiet_step (first | (refine cright_qt _ _ _ _ ?_;with_reducible assumption) | (refine cmp_qm _ _ _ _ _ ?_;with_reducible assumption) | (refine fb_qt _ _ _ _ _ _ hrow hrl ?_;with_reducible assumption)))
       refine wpQuiet_nil ?_
       intro _ hw'
       obtain⟨⟨dq,osq⟩,hw''⟩:=hw'
       subst hw''
       go_wp2
       go_ret
       exact⟨ret_bool HT.out.symm,chain (chain hny hBb) (below_regrown _ dq osq)⟩
     ·have HT:Hid (rightF l=false):=not_pre hck (fun h=>by have:=h.2.1 d (by omega) HD.out;rw [ltC_asymm hlt2] at this;exact absurd this (by simp))
      go_wp2
      generalize wr.alloc (.cells #[.int .u32 (c.1.val:Int),.int .u32 (c.2.val:Int)] 38)=wb at hA hBb hrow hpv ⊢
      obtain⟨A0,A1⟩:=hA.regrown
      obtain⟨D0,D1⟩:=hpv.regrown hdk
      clear hdk hck hpv htl
      refine wp_region_quiet_below (by kernel_rfl) (by kernel_rfl) ?_
      repeat (first | go_big_quiet_step (first | (refine cright_qt _ _ _ _ ?_;with_reducible assumption) | (refine cmp_qp _ _ _ _ _ ?_;with_reducible assumption)) | quiet_step (first | (refine cright_qt _ _ _ _ ?_;with_reducible assumption) | (refine cmp_qp _ _ _ _ _ ?_;with_reducible assumption)))
      refine wpQuiet_nil ?_
      intro _ hw'
      obtain⟨⟨dq,osq⟩,hw''⟩:=hw'
      subst hw''
      go_wp2
      go_ret
      exact⟨ret_bool HT.out.symm,chain (chain hny hBb) (below_regrown _ dq osq)⟩
     ·have HT:Hid (rightF l=false):=not_pre hck (fun h=>by have:=h.2.1 d (by omega) HD.out;rw [hlt2,ltC_irrefl] at this;exact absurd this (by simp))
      clear hlt2
      go_wp2
      generalize wr.alloc (.cells #[.int .u32 (c.1.val:Int),.int .u32 (c.2.val:Int)] 38)=wb at hA hBb hrow hpv ⊢
      obtain⟨A0,A1⟩:=hA.regrown
      obtain⟨D0,D1⟩:=hpv.regrown hdk
      clear hdk hck hpv htl
      refine wp_region_quiet_below (by kernel_rfl) (by kernel_rfl) ?_
      repeat (first | go_big_quiet_step (first | (refine cright_qt _ _ _ _ ?_;with_reducible assumption) | (refine cmp_qz _ _ _ _ _ ?_;with_reducible assumption)) | quiet_step (first | (refine cright_qt _ _ _ _ ?_;with_reducible assumption) | (refine cmp_qz _ _ _ _ _ ?_;with_reducible assumption)))
      refine wpQuiet_nil ?_
      intro _ hw'
      obtain⟨⟨dq,osq⟩,hw''⟩:=hw'
      subst hw''
      go_wp2
      go_ret
      exact⟨ret_bool HT.out.symm,chain (chain hny hBb) (below_regrown _ dq osq)⟩
  ·obtain rfl:k=n:=by omega
   have HT:Hid (rightF l=true):=by
    have h:=HP.out
    rw [List.take_of_length_le (by rw [<- Hn.out];exact Nat.le_refl _)] at h
    exact rightF_iff.2 ⟨h,by rw [<- Hn.out];exact hl⟩
   go_wp2
   go_ret
   exact⟨ret_bool HT.out.symm,hny⟩
theorem OwnsC.len {w:World} {base:Nat} {v:Value} {l:List C} (h:OwnsC w base v l):∃ a cap,v=.slice a l.length cap:=(OwnsC.row h).len
theorem refleastC (l:List C) (v:Value) (w:World) (hv:CRow w v l) (hl:l.length<=100000) :
  Calls Tryz.prog 163 #[v] w fun e w'=>∃ v',e=.returned (.tuple #[v',.int .i64 (leastF l).2])/\OwnsC w' w.heap.size v' (leastF l).1/\Below w.heap.size w w' :=
 (refleast_any l v w hv hl).mono fun e w'=>by
  rintro⟨v',M,er,rfl,hL,hO,hB⟩
  rw [leastF_of hL]
  exact⟨v',rfl,hO,hB⟩
theorem CRow.at {w:World} {a0:Option Addr} {n cap:Nat} {l:List C} (hv:CRow w (.slice a0 n cap) l) {k:Nat} {c:C} (hk:l[k]? = some c):∃ g off,a0=some ⟨g,off,none⟩/\g<w.heap.size/\w.cell? ⟨g,off+k*2,none⟩=some (.int .u32 (c.1.val:Int))/\w.cell? ⟨g,off+k*2+1,none⟩=some (.int .u32 (c.2.val:Int)):=by
 have hz:l≠[]:=by rintro rfl;simp at hk
 obtain⟨g,off,cap2,e,hg,hc⟩:=hv.cons hz
 have e2:a0=some ⟨g,off,none⟩:=by injection e
 exact⟨g,off,e2,hg,(hc k c hk).1,(hc k c hk).2⟩
theorem Tryz.infoInt:(Tryz.prog.info? 3).map (fun i=>(i.zero,i.size,i.bytes))=some (some (.int .i64 0),1,8):=by kernel_rfl
def encI (k:Nat):Value:=.int .i64 (k:Int)
def OwnsL (w:World) (base:Nat) (v:Value) (l:List Nat):Prop:=w.ownsRow base 3 1 v l.length (l.map encI)
def RowAt (w:World) (v:Value) (l:List Nat):Prop :=
 (v=.slice none 0 0/\l=[])\/∃ g cap,v=.slice (some ⟨g,0,none⟩) l.length cap/\g<w.heap.size/\∀ j,j<l.length->w.cell? ⟨g,j,none⟩=some (.int .i64 ((l[j]?.getD 0:Nat):Int))
theorem OwnsL.rowAt {w:World} {base:Nat} {v:Value} {l:List Nat} (h:OwnsL w base v l):RowAt w v l:=by
 have h0:=h
 obtain⟨h1,h2 | ⟨g,cap,cur,rfl,hg,hh,hn,hc,hs,ht⟩⟩:=h
 ·exact .inl ⟨h2.1,List.length_eq_zero_iff.1 h2.2⟩
 ·refine .inr ⟨g,cap,rfl,?_,fun j hj=>?_⟩
  ·exact (World.ownsRow.lt h0 g rfl).2
  ·have:=World.ownsRow.cellAt h0 j (by omega)
   rw [this]
   simp [encI,hj]
theorem RowAt.below {w w':World} {v:Value} {l:List Nat} (h:RowAt w v l) (hb:Below w.heap.size w w'):RowAt w' v l:=by
 rcases h with h|⟨g,cap,rfl,hg,hc⟩
 ·exact .inl h
 ·exact .inr ⟨g,cap,rfl,Nat.lt_of_lt_of_le hg hb.size,fun j hj=>(hb.cell (p:=⟨g,j,none⟩) hg).trans (hc j hj)⟩
attribute [local go_sem] Oper.semAt_some
def upTo (s k:Nat):List Nat:=(List.range k).filter (fun k=>s.testBit k)
theorem upTo_hit {s k:Nat} (h:s.testBit k=true):upTo s (k+1)=upTo s k ++ [k]:=by simp [upTo,List.range_succ,h]
theorem upTo_miss {s k:Nat} (h:s.testBit k=false):upTo s (k+1)=upTo s k:=by simp [upTo,List.range_succ,h]
theorem upTo_length_le (s k:Nat):(upTo s k).length<=k:=by
 have:=List.length_filter_le (fun k=>s.testBit k) (List.range k)
 simpa [upTo] using this
theorem refList_any (s:Nat) (w:World) (hs:s<4294967296) :
  Calls Tryz.prog 233 #[.int .u32 s] w fun e w'=>∃ v,e=.returned v/\OwnsL w' w.heap.size v (dimsOf s)/\Below w.heap.size w w':=by
 obtain⟨i0,hi,hz0,hz1,hz2⟩:=info_parts Tryz.infoInt
 go_enter Tryz.func233,Tryz.ntmps233
 go_wp2
 go_loopw [3,4] (fun v i wr=>∃ k:Nat,k<=24/\i=.int .i64 k/\wr.ownsRow w.heap.size 3 1 v (upTo s k).length ((upTo s k).map encI)/\Below w.heap.size w wr) (fun _ i _=>24 - (intOf i).toNat)
 case atStart=>exact⟨0,by omega,rfl,World.ownsRow_nil _ _ _ _,Below.refl _ _⟩
 case round =>
  obtain⟨k,hk,rfl,hown,hB⟩:=hrel
  have hul:=upTo_length_le s k
  by_cases hlt:k<24
  ·by_cases hb:s.testBit k=true
   ·have hh:hasB s (k:Int)=true:=by rw [hasB_nat hlt];exact hb
    have HU:Hid (upTo s (k+1)=upTo s k ++ [k]):=upTo_hit hb
    clear hb
    go_wp2_with (first
     | (go_at_call 206;refine (refHas_any _ _ _ hs).mono ?_;rintro e w' ⟨rfl,rfl⟩;rw [hh])
     | (at_builtin;refine wpList_append_own _ rfl _ _ 147 rfl w.heap.size 3 i0 (.int .i64 0) 1 8 Tryz.underlying147 hi hz0 hz1 hz2 rfl (by decide) _ _ _ rfl (hown.alloc _) ⟨_,0,none⟩ 1 1 [.int .i64 k] rfl rfl (cell_one_new _ _ _) (by simp [Value.oneCell']) (by unfold maxLen;omega) (by omega) (by have:=hB.size;simp;omega) ?_;intro v' w1 hown' hgrow _))
    go_roundw
    case rel=>exact⟨k+1,by omega,by go_num,by rw [HU.out];simpa [encI] using hown',(hB.alloc hB.size _).grown hgrow (by have:=hB.size;simp;omega) (fun k' e=>(World.ownsRow.lt hown k' e).1)⟩
    case measure=>simp [intOf];omega
   ·have hb:s.testBit k=false:=by simpa using hb
    have hh:hasB s (k:Int)=false:=by rw [hasB_nat hlt];exact hb
    have HU:Hid (upTo s (k+1)=upTo s k):=upTo_miss hb
    clear hb
    go_wp2_with (go_at_call 206;refine (refHas_any _ _ _ hs).mono ?_;rintro e w' ⟨rfl,rfl⟩;rw [hh])
    go_roundw
    case rel=>exact⟨k+1,by omega,by go_num,by rw [HU.out];exact hown,hB⟩
    case measure=>simp [intOf];omega
  ·obtain rfl:k=24:=by omega
   go_wp2
   go_ret
   exact⟨_,rfl,hown,hB⟩
theorem sumAll_take {l:List Nat} {k:Nat} (h:k<l.length):sumAll (l.take (k+1))=sumAll (l.take k) + 2 ^ (l[k]?.getD 0):=by
 rw [List.take_succ_eq_append_getElem h,sumAll_snoc];simp [h]
theorem sumAll_bd {l:List Nat} (h:∀ k∈l,k<24) (hl:l.length<=64) (k:Nat):sumAll (l.take k)<=1073741824:=by
 have h1:=sumFrom_le (l.take k) (fun x hx=>h x (List.mem_of_mem_take hx)) 0
 have h2:(l.take k).length<=l.length:=by simp;omega
 unfold sumAll;omega
theorem getD_lt {l:List Nat} (h:∀ k∈l,k<24) {k:Nat} (hk:k<l.length):l[k]?.getD 0<24:=by
 have:l[k]?.getD 0=l[k]:=by simp [hk]
 rw [this];exact h _ (List.getElem_mem hk)
def sumI (l:List Nat) (k:Nat):Int:=(sumAll (l.take k):Int)
theorem refSet_any (l:List Nat) (v:Value) (w:World) (hr:RowAt w v l) (h24:∀ k∈l,k<24) (hl:l.length<=64) :
  Calls Tryz.prog 237 #[v] w fun e w'=>e=.returned (.int .u32 (sumAll l:Nat))/\w'=w:=by
 rcases hr with ⟨rfl,rfl⟩|⟨g,cap,rfl,hg,hc⟩
 ·go_enter Tryz.func237,Tryz.ntmps237
  go_wp2
  go_loop [3,4] (fun n i=>i=.int .i64 0/\n=.int .i64 0) (fun _ _=>0)
  case atStart=>exact⟨rfl,rfl⟩
  case round =>
   obtain⟨rfl,rfl⟩:=hrel
   go_wp2
   go_ret
   exact⟨rfl,rfl⟩
 ·obtain⟨n,hn⟩:∃ n,n=l.length:=⟨_,rfl⟩
  rw [<- hn] at hc hl ⊢
  have HN:Hid (n=l.length):=hn
  clear hn
  go_enter Tryz.func237,Tryz.ntmps237
  go_wp2
  go_loop [3,4] (fun m i=>∃ k:Nat,k<=n/\i=.int .i64 k/\m=.int .i64 (sumI l k)) (fun _ i=>n - (intOf i).toNat)
  case atStart=>exact⟨0,Nat.zero_le _,rfl,rfl⟩
  case round =>
   obtain⟨k,hk,rfl,rfl⟩:=hrel
   have hsb:0<=sumI l k/\sumI l k<=1073741824:=by
    have:=sumAll_bd h24 (by rw [<- HN.out];exact hl) k
    unfold sumI;omega
   by_cases hlt:k<n
   ·have hck:=hc k hlt
    have hx:l[k]?.getD 0<24:=getD_lt h24 (by rw [<- HN.out];exact hlt)
    have hp:=powI_bd (n:=l[k]?.getD 0) (by omega)
    have HS:Hid (sumI l (k+1)=sumI l k+powI (l[k]?.getD 0)):=by
     have:=sumAll_take (l:=l) (k:=k) (by rw [<- HN.out];exact hlt)
     show sumI l (k+1)=_
     unfold sumI powI;rw [this];exact Int.natCast_add _ _
    clear hc h24
    go_wp2_with (go_at_call 236;refine (power_any _ _ (by omega)).mono ?_;rintro e w' ⟨rfl,rfl⟩)
    go_round
    case rel=>exact⟨k+1,by omega,by go_num,by rw [HS.out]⟩
    case measure=>simp [intOf];omega
   ·obtain rfl:k=n:=by omega
    have HE:Hid (sumI l k=((sumAll l:Nat):Int)):=by
     show sumI l k=_
     unfold sumI;rw [HN.out,List.take_length]
    go_wp2
    go_ret
    exact⟨ret_int (by rw [HE.out]),rfl⟩
def Reads (W:World) (a:Option Addr) (n:Nat) (d:List Nat) (v:Value):Prop:=n=0\/∃ g,a=some ⟨g,0,none⟩/\g<W.heap.size/\v.ownBlock≠some g/\∀ j,j<n->W.cell? ⟨g,j,none⟩=some (.int .i64 ((d[j]?.getD 0:Nat):Int))
theorem Reads.below {W W':World} {a:Option Addr} {n:Nat} {d:List Nat} {v:Value} (h:Reads W a n d v) (hb:Below W.heap.size W W'):Reads W' a n d v :=
 h.imp id fun ⟨g,h1,h2,h3,h4⟩=>⟨g,h1,Nat.lt_of_lt_of_le h2 hb.size,h3,fun j hj=>(hb.cell (p:=⟨g,j,none⟩) h2).trans (h4 j hj)⟩
theorem Reads.of {W:World} {base:Nat} {vl:Value} {d:List Nat} (h:OwnsL W base vl d):∃ a cap,vl=.slice a d.length cap/\∀ v:Value,(∀ g,v.ownBlock=some g->g<base)->Reads W a d.length d v:=by
 rcases OwnsL.rowAt h with ⟨rfl,rfl⟩|⟨g,cap,rfl,hg,hc⟩
 ·exact⟨none,0,rfl,fun v _=>.inl rfl⟩
 ·refine⟨_,cap,rfl,fun v hv=>.inr ⟨g,rfl,hg,fun e=>?_,hc⟩⟩
  have h1:=hv g e
  have h2:=(World.ownsRow.lt h g rfl).1
  omega
theorem rfright_any (l:List C) (v:Value) (w:World) (hv:CRow w v l) (hl:l.length<=100000) :
  Calls Tryz.prog 114 #[v] w fun e w'=>e=.returned (.bool (rightF l))/\Below w.heap.size w w':=by
 have c1:=refleastC l v w hv hl
 have hLen:=leastF_len l
 have HR:Hid (rightF l=decide (leastF l=(l,0))):=rfl
 have Hv:Hid (CRow w v l):=hv
 obtain⟨pa,ca,rfl⟩:=hv.len
 clear hv
 generalize hP:leastF l=P at c1 hLen HR
 have HP:Hid (leastF l=P):=hP
 clear hP
 obtain⟨M,er⟩:=P
 dsimp only at c1 hLen
 by_cases h0:er=0
 ·subst h0
  have HE:Hid (rightF l=decide (M=l)):=HR.out.trans (by rw [Bool.eq_iff_iff];simp)
  go_enter Tryz.func114,Tryz.ntmps114
  go_wp2_with fail
  refine c1.mono ?_
  rintro e w1 ⟨v1,rfl,hO1,hB1⟩
  clear c1
  have c2:=same_any M l v1 _ w1 (OwnsC.row hO1) (Hv.out.below hB1) (by omega)
  obtain⟨p1,q1,rfl⟩:=OwnsC.len hO1
  go_wp2_with fail
  refine c2.mono ?_
  rintro e w2 ⟨rfl,hB2⟩
  clear c2
  go_wp2
  go_ret
  exact⟨ret_bool HE.out.symm,chain hB1 hB2⟩
 ·have HE:Hid (rightF l=false):=HR.out.trans (by rw [decide_eq_false_iff_not];intro h;injection h with _ h2;exact h0 h2)
  go_enter Tryz.func114,Tryz.ntmps114
  go_wp2_with fail
  refine c1.mono ?_
  rintro e w1 ⟨v1,rfl,hO1,hB1⟩
  clear c1
  obtain⟨p1,q1,rfl⟩:=OwnsC.len hO1
  go_wp2
  go_ret
  exact⟨ret_bool HE.out.symm,hB1⟩
theorem has_row (l:List C) (v:Value) (w:World) (hv:CRow w v l) (hl:l.length<=100000) (p:C->Bool) (g:Nat) (lb:Array Value) (eg:∀ args w,(callFunc g args).run Tryz.prog w=.ok (.enter g args) w) (hp:PredBelow Tryz.prog g lb (fun x=>.agg (encC x).toArray) p w) :
  Calls Tryz.prog 143 #[v,.func (.func g) #[] lb] w fun e w'=>e=.returned (.bool (l.any p))/\Below w.heap.size w w':=by
 by_cases hz:l=[]
 ·subst hz
  obtain⟨a,cap,rfl⟩:=hv.len
  refine (has_none _ _ _ _).mono ?_
  rintro e w' ⟨rfl,rfl⟩
  exact⟨rfl,Below.refl _ _⟩
 ·obtain⟨b,off,cap,rfl,hg,hc⟩:=hv.cons hz
  have hcon:=AnyQ.slices_ContainsFunc hasC 2 Tryz.isAgg38 Tryz.sizeOf38 encC (fun _=>rfl) p g lb eg b off l.length cap l w hp (Nat.le_refl _) (by omega) hg (fun j hj i u hi=>by
   have h1:=hc j l[j] (List.getElem?_eq_getElem hj)
   have e:l[j]! = l[j]:=getElem!_pos l j hj
   rw [e] at hi
   match i,hi with
   | 0,hi=>simp [encC] at hi;rw [<- hi];exact h1.1
   | 1,hi=>simp [encC] at hi;rw [<- hi];exact h1.2
   | i+2,hi=>simp [encC] at hi)
  rw [List.take_of_length_le (Nat.le_refl _)] at hcon
  exact hcon
def PredC (fid:Nat) (cap:Array Value) (p:C->Bool) (wb:World):Prop:=∀ W c,Below wb.heap.size wb W->Calls Tryz.prog fid (#[clV c] ++ cap) W fun e w'=>e=.returned (.bool (p c))/\Below W.heap.size W w'
theorem PredC.pred {fid:Nat} {cap:Array Value} {p:C->Bool} {w:World} (h:PredC fid cap p w):PredBelow Tryz.prog fid cap (fun x=>.agg (encC x).toArray) p w:=fun W x hb =>
 (h W x hb).mono fun e w' h2=>⟨h2.1,chain hb h2.2⟩
theorem clash_pred (w:World):PredC 144 #[] clashC w:=fun W c _=>(clash_any c W).mono fun e w' h=>⟨h.1,h.2.below⟩
theorem clash_eg:∀ args w,(callFunc 144 args).run Tryz.prog w=.ok (.enter 144 args) w:=enters_of Tryz.func144 (by kernel_rfl) rfl
theorem all_ok (l:List C):l.all okC = !l.any clashC:=by
 induction l with
 | nil=>rfl
 | cons c l ih=>simp only [List.all_cons,List.any_cons,ih,okC,Bool.not_or]
theorem aright_any (l:List C) (v:Value) (w:World) (hv:FRow w v l) (hl:l.length<=100000) :
  Calls Tryz.prog 96 #[v] w fun e w'=>e=.returned (.bool (rightA l))/\Below w.heap.size w w':=by
 have c1:=fright_any l v w hv hl
 have c2:=fun w1 (h:Below w.heap.size w w1)=>has_row l v w1 (hv.row.below h) hl clashC 144 #[] clash_eg (clash_pred w1).pred
 have HR:Hid (rightA l=(rightF l && !l.any clashC)):=by
  show _=_
  rw [<- all_ok];rfl
 obtain⟨pa,ca,rfl⟩:=hv.len
 clear hv
 generalize l.length=n at *
 cases hf:rightF l
 ·rw [hf] at c1 HR
  go_enter Tryz.func96,Tryz.ntmps96
  go_wp2_with fail
  refine c1.mono ?_
  rintro e w1 ⟨rfl,hB1⟩
  clear c1
  go_wp2
  go_ret
  exact⟨ret_bool HR.out.symm,hB1⟩
 ·rw [hf] at c1 HR
  go_enter Tryz.func96,Tryz.ntmps96
  go_wp2_with fail
  refine c1.mono ?_
  rintro e w1 ⟨rfl,hB1⟩
  clear c1
  replace c2:=c2 w1 hB1
  go_wp2_with fail
  refine c2.mono ?_
  rintro e w2 ⟨rfl,hB2⟩
  clear c2
  go_wp2
  go_ret
  exact⟨ret_bool HR.out.symm,chain hB1 hB2⟩
theorem clashC_iff {c:C}:clashC c=true↔∃ k,k<24/\c.1.val.testBit k=true/\c.2.val.testBit k=true:=by
 unfold clashC
 rw [decide_eq_true_eq]
 constructor
 ·intro h
  obtain⟨k,hk⟩:=Nat.exists_testBit_of_ne_zero h
  rw [testBit_low,Nat.testBit_and] at hk
  simp only [Bool.and_eq_true,decide_eq_true_eq] at hk
  exact⟨k,hk.1,hk.2.1,hk.2.2⟩
 ·rintro⟨k,hk,h1,h2⟩ h
  have:(c.1.val &&& c.2.val &&& 16777215).testBit k=false:=by rw [h];simp
  rw [testBit_low,Nat.testBit_and,h1,h2] at this
  simp [hk] at this
theorem refclash_any (c:C) (w:World) :
  Calls Tryz.prog 232 #[clV c] w fun e w'=>e=.returned (.bool (clashC c))/\Below w.heap.size w w':=by
 have hb1:=c.1.isLt
 have hb2:=c.2.isLt
 go_enter Tryz.func232,Tryz.ntmps232
 go_wp2
 go_loop [3] (fun i=>∃ k:Nat,k<=24/\i=.int .i64 k/\∀ j,j<k->c.1.val.testBit j=true->c.2.val.testBit j=false) (fun i=>24 - (intOf i).toNat)
 case atStart=>exact⟨0,by omega,rfl,fun j hj=>absurd hj (by omega)⟩
 case round =>
  obtain⟨k,hk,rfl,hno⟩:=hrel
  have HN:Hid (∀ j,j<k->c.1.val.testBit j=true->c.2.val.testBit j=false):=hno
  clear hno
  by_cases hlt:k<24
  ·have HX:Hid (hasB c.1.val (k:Int)=c.1.val.testBit k):=hasB_nat hlt
   have HY:Hid (hasB c.2.val (k:Int)=c.2.val.testBit k):=hasB_nat hlt
   cases hx:hasB c.1.val (k:Int)
   ·go_wp2_with (go_at_call 206;refine (refHas_any _ _ _ (by assumption)).mono ?_;rintro e w' ⟨rfl,rfl⟩)
    go_round
    case rel=>exact⟨k+1,by omega,by go_num,fun j hj h=>by
     rcases Nat.lt_or_ge j k with h1|h1
     ·exact HN.out j h1 h
     ·obtain rfl:j=k:=by omega
      rw [<- HX.out,hx] at h;cases h⟩
    case measure=>simp [intOf];omega
   ·cases hy:hasB c.2.val (k:Int)
    ·go_wp2_with (go_at_call 206;refine (refHas_any _ _ _ (by assumption)).mono ?_;rintro e w' ⟨rfl,rfl⟩)
     go_round
     case rel=>exact⟨k+1,by omega,by go_num,fun j hj h=>by
      rcases Nat.lt_or_ge j k with h1|h1
      ·exact HN.out j h1 h
      ·obtain rfl:j=k:=by omega
       rw [<- HY.out,hy]⟩
     case measure=>simp [intOf];omega
    ·have HC:Hid (clashC c=true):=clashC_iff.2 ⟨k,hlt,by rw [<- HX.out];exact hx,by rw [<- HY.out];exact hy⟩
     go_wp2_with (go_at_call 206;refine (refHas_any _ _ _ (by assumption)).mono ?_;rintro e w' ⟨rfl,rfl⟩)
     go_ret
     exact⟨ret_bool HC.out.symm,below_alloc _ _⟩
  ·have HC:Hid (clashC c=false):=by
    cases h:clashC c
    ·rfl
    ·obtain⟨j,hj,h1,h2⟩:=clashC_iff.1 h
     have:=HN.out j (by omega) h1
     rw [h2] at this;cases this
   go_wp2
   go_ret
   exact⟨ret_bool HC.out.symm,below_alloc _ _⟩
theorem all_step {l:List C} {k:Nat} {c:C} (p:C->Bool) (h:l[k]? = some c):(l.take (k+1)).all p=((l.take k).all p && p c):=by
 have e:l.take (k+1)=l.take k ++ [c]:=by rw [List.take_add_one,h];rfl
 rw [e,List.all_append];simp
theorem all_no {l:List C} {k:Nat} {c:C} {p:C->Bool} (h:l[k]? = some c) (hp:p c=false):l.all p=false:=by
 cases e:l.all p
 ·rfl
 ·rw [List.all_eq_true.1 e c (List.mem_of_getElem? h)] at hp;exact absurd hp (by simp)
theorem raright_any (l:List C) (v:Value) (w:World) (hv:CRow w v l) (hl:l.length<=100000) :
  Calls Tryz.prog 201 #[v] w fun e w'=>e=.returned (.bool (rightA l))/\Below w.heap.size w w':=by
 have c1:=rfright_any l v w hv hl
 have HR:Hid (rightA l=(rightF l && l.all okC)):=rfl
 have Ha:Hid (∀ W,Below w.heap.size w W->CRow W v l):=fun W h=>hv.below h
 obtain⟨pa,ca,rfl⟩:=hv.len
 clear hv
 obtain⟨n,hn⟩:∃ n,n=l.length:=⟨_,rfl⟩
 have Hn:Hid (n=l.length):=hn
 rw [<- hn] at hl Ha c1 ⊢
 clear hn
 cases hf:rightF l
 ·rw [hf] at c1 HR
  go_enter Tryz.func201,Tryz.ntmps201
  go_wp2_with fail
  refine c1.mono ?_
  rintro e w1 ⟨rfl,hB1⟩
  clear c1
  go_wp2
  go_ret
  exact⟨ret_bool HR.out.symm,hB1⟩
 ·rw [hf] at c1 HR
  go_enter Tryz.func201,Tryz.ntmps201
  go_wp2_with fail
  refine c1.mono ?_
  rintro e w1 ⟨rfl,hB1⟩
  clear c1
  go_wp2
  go_loopw [3] (fun i wr=>∃ k:Nat,k<=n/\i=.int .i64 k/\Hid ((l.take k).all okC=true)/\Below w.heap.size w wr) (fun i _=>n - (intOf i).toNat)
  case atStart=>exact⟨0,Nat.zero_le _,rfl,rfl,hB1⟩
  case round =>
   obtain⟨k,hk,rfl,HN,hny⟩:=hrel
   by_cases hlt:k<n
   ·obtain⟨c,hck⟩:=get_some (l:=l) (k:=k) (by rw [<- Hn.out];exact hlt)
    obtain⟨g,off,rfl,hg,x0,x1⟩:=(Ha.out _ hny).at hck
    have HC:Hid (l[k]? = some c):=hck
    clear hck
    cases hcl:clashC c
    ·have HT:Hid ((l.take (k+1)).all okC=true):=by
      show _=_
      rw [all_step okC HC.out,HN.out];simp [okC,hcl]
     go_wp2_with (go_at_call 232;refine (refclash_any c _).mono ?_;rintro e w2 ⟨rfl,hB2⟩;rw [hcl])
     go_roundw
     case rel=>exact⟨k+1,by omega,by go_num,HT,chain hny hB2⟩
     case measure=>simp [intOf];omega
    ·have HT:Hid (rightA l=false):=by
      show _=_
      rw [HR.out,all_no HC.out (by simp [okC,hcl])];rfl
     go_wp2_with (go_at_call 232;refine (refclash_any c _).mono ?_;rintro e w2 ⟨rfl,hB2⟩;rw [hcl])
     go_ret
     exact⟨ret_bool HT.out.symm,chain hny hB2⟩
   ·obtain rfl:k=n:=by omega
    have HT:Hid (rightA l=true):=by
     have h:=HN.out
     rw [List.take_of_length_le (by rw [<- Hn.out];exact Nat.le_refl _)] at h
     show _=_
     rw [HR.out,h];rfl
    go_wp2
    go_ret
    exact⟨ret_bool HT.out.symm,hny⟩
theorem dims1_nat (s p n:Nat) (w:World) (hs:s<4294967296) (hp:p<4294967296) (hn:n<4294967296) :
  Calls Tryz.prog 82 #[.int .u32 s,.agg #[.int .u32 p,.int .u32 n]] w fun e w'=>e=.returned (.tuple #[.int .u32 ((s ||| ((p ||| n) &&& 16777215):Nat):Int),.int .i64 0])/\Below w.heap.size w w':=by
 have h1:Hid (bits BinOp.or IntKind.u32 (s:Int) (bits BinOp.and IntKind.u32 (bits BinOp.or IntKind.u32 (p:Int) (n:Int)) 16777215)=((s ||| ((p ||| n) &&& 16777215):Nat):Int)):=by
  show _=_
  rw [or_low p n hp hn,bits_or32 _ _ hs (Nat.lt_trans (low_lt _) (by decide))]
 go_enter Tryz.func82,Tryz.ntmps82
 go_wp2
 go_ret2
 exact⟨by rw [h1.out];rfl,below_alloc _ _⟩
theorem dims1_any (s:Nat) (c:C) (w:World) (hs:s<4294967296) :
  Calls Tryz.prog 82 #[.int .u32 s,clV c] w fun e w'=>e=.returned (.tuple #[.int .u32 ((stepD s c:Nat):Int),.int .i64 0])/\Below w.heap.size w w' :=
 dims1_nat s c.1.val c.2.val w hs c.1.isLt c.2.isLt
theorem dimsN_take_step {l:List C} {k:Nat} {c:C} (h:l[k]? = some c):dimsN (l.take (k+1))=stepD (dimsN (l.take k)) c:=by
 have e:l.take (k+1)=l.take k ++ [c]:=by rw [List.take_add_one,h];rfl
 rw [e,dimsN_snoc]
theorem dimsN_lt32 (f:List C):dimsN f<4294967296:=Nat.lt_trans (dimsN_lt f) (by decide)
theorem foldD_any (l:List C) (vs:Value) (w:World) (hv:CRow w vs l) (hl:l.length<=100000) :
  Calls Tryz.prog 81 #[vs,.int .u32 0,.func (.func 82) #[] #[]] w fun e w'=>e=.returned (.tuple #[.int .u32 ((dimsN l:Nat):Int),.int .i64 0])/\Below w.heap.size w w':=by
 obtain⟨pa,ca,rfl⟩:=hv.len
 have Ha:Hid (CRow w (.slice pa l.length ca) l):=hv
 clear hv
 obtain⟨n,hn1⟩:∃ n,n=l.length:=⟨_,rfl⟩
 have Hn:Hid (n=l.length):=hn1
 rw [<- hn1] at hl Ha ⊢
 clear hn1
 go_enter Tryz.func81,Tryz.ntmps81
 go_wp2
 go_loopw [8,16] (fun v i wr=>∃ k:Nat,k<=n/\i=.int .i64 k/\v=.int .u32 ((dimsN (l.take k):Nat):Int)/\Below w.heap.size w wr) (fun _ i _=>n - (intOf i).toNat)
 case atStart=>exact⟨0,Nat.zero_le _,rfl,rfl,Below.refl _ _⟩
 case round =>
  obtain⟨k,hk,rfl,rfl,hny⟩:=hrel
  by_cases hlt:k<n
  ·obtain⟨c,hck⟩:=get_some (l:=l) (k:=k) (by rw [<- Hn.out];exact hlt)
   obtain⟨g,off,rfl,hg,x0,x1⟩:=(Ha.out.below hny).at hck
   have HS:Hid (dimsN (l.take (k+1))=stepD (dimsN (l.take k)) c):=dimsN_take_step hck
   have cD:=dims1_any (dimsN (l.take k)) c (wr.alloc (.cells #[.int .u32 (c.1.val:Int),.int .u32 (c.2.val:Int)] 38)) (dimsN_lt32 _)
   clear hck
   have hb:=below_alloc wr (.cells #[.int .u32 (c.1.val:Int),.int .u32 (c.2.val:Int)] 38)
   generalize dimsN (l.take k)=s at cD HS ⊢
   go_wp2_with fail
   refine cD.mono ?_
   rintro e w2 ⟨rfl,hB2⟩
   clear cD
   go_wp2
   go_roundw
   case rel=>exact⟨k+1,by omega,by go_num,by rw [HS.out],chain (chain hny hb) hB2⟩
   case measure=>simp [intOf];omega
  ·obtain rfl:k=n:=by omega
   have e:l.take k=l:=List.take_of_length_le (by rw [<- Hn.out];exact Nat.le_refl _)
   rw [e]
   go_wp2
   go_ret2
   exact⟨rfl,hny⟩
theorem Dims_any (l:List C) (v:Value) (w:World) (hv:CRow w v l) (hl:l.length<=100000) :
  Calls Tryz.prog 30 #[v] w fun e w'=>e=.returned (.int .u32 ((dimsN l:Nat):Int))/\Below w.heap.size w w':=by
 have c1:=foldD_any l v w hv hl
 obtain⟨pa,ca,rfl⟩:=hv.len
 clear hv
 go_enter Tryz.func30,Tryz.ntmps30
 go_wp2_with fail
 refine c1.mono ?_
 rintro e w1 ⟨rfl,hB1⟩
 clear c1
 go_wp2
 go_ret
 exact⟨rfl,hB1⟩
def dimsTo (l:List C) (k:Nat):List Nat:=(List.range k).filter (fun j=>inF l j)
theorem dimsTo_hit {l:List C} {k:Nat} (h:inF l k=true):dimsTo l (k+1)=dimsTo l k ++ [k]:=by simp [dimsTo,List.range_succ,h]
theorem dimsTo_miss {l:List C} {k:Nat} (h:inF l k=false):dimsTo l (k+1)=dimsTo l k:=by simp [dimsTo,List.range_succ,h]
theorem dimsTo_length (l:List C) (k:Nat):(dimsTo l k).length<=k:=by
 have:=List.length_filter_le (fun j=>inF l j) (List.range k)
 simpa [dimsTo] using this
theorem dimsTo_sum (l:List C):sumAll (dimsTo l 24)=dimsN l:=by
 unfold dimsTo
 rw [sumAll_eq (List.Nodup.sublist List.filter_sublist List.nodup_range)]
 exact dimsN_orAll l
theorem inF_take_step {l:List C} {q k:Nat} {c:C} (h:l[q]? = some c):inF (l.take (q+1)) k=(inF (l.take q) k || (c.1.val.testBit k || c.2.val.testBit k)):=by
 have e:l.take (q+1)=l.take q ++ [c]:=by rw [List.take_add_one,h];rfl
 rw [e,inF_snoc]
theorem rDims_any (l:List C) (a:Value) (w:World) (ha:CRow w a l) (hl:l.length<=40000) :
  Calls Tryz.prog 207 #[a] w fun e w'=>e=.returned (.int .u32 ((dimsN l:Nat):Int))/\Below w.heap.size w w':=by
 obtain⟨i0,hi,hz0,hz1,hz2⟩:=info_parts Tryz.infoInt
 have Ha:Hid (∀ w1,Below w.heap.size w w1->CRow w1 a l):=fun w1 h=>ha.below h
 obtain⟨pa,ca,rfl⟩:=ha.len
 clear ha
 obtain⟨n,hn⟩:∃ n,n=l.length:=⟨_,rfl⟩
 have Hn:Hid (n=l.length):=hn
 rw [<- hn] at hl Ha ⊢
 clear hn
 go_enter Tryz.func207,Tryz.ntmps207
 go_wp2
 go_loopw [3,4] (fun v i wr=>∃ k:Nat,k<=24/\i=.int .i64 k/\wr.ownsRow w.heap.size 3 1 v (dimsTo l k).length ((dimsTo l k).map encI)/\Below w.heap.size w wr) (fun _ i _=>24 - (intOf i).toNat)
 case atStart=>exact⟨0,by omega,rfl,World.ownsRow_nil _ _ _ _,Below.refl _ _⟩
 case round =>
  obtain⟨k,hk,rfl,hown,hB⟩:=hrel
  have hul:=dimsTo_length l k
  by_cases hlt:k<24
  ·have hlt':(k:Int) < 24:=by omega
   go_wp2
   go_loopw [5,6] (fun b j wr2=>∃ q:Nat,q<=n/\j=.int .i64 q/\b=.bool (inF (l.take q) k)/\wr2=wr) (fun _ j _=>n - (intOf j).toNat)
   case atStart=>exact⟨0,Nat.zero_le _,rfl,rfl,rfl⟩
   case round =>
    obtain⟨q,hq,rfl,rfl,hwr⟩:=hrel
    subst hwr
    by_cases hlq:q<n
    ·obtain⟨c,hcq⟩:=get_some (l:=l) (k:=q) (by rw [<- Hn.out];exact hlq)
     obtain⟨g,off,rfl,hg,x0,x1⟩:=(Ha.out _ hB).at hcq
     have HS:Hid (inF (l.take (q+1)) k=(inF (l.take q) k || (c.1.val.testBit k || c.2.val.testBit k))):=inF_take_step hcq
     have hP:hasB c.1.val (k:Int)=c.1.val.testBit k:=hasB_nat hlt
     have hQ:hasB c.2.val (k:Int)=c.2.val.testBit k:=hasB_nat hlt
     have hc1:=c.1.isLt
     have hc2:=c.2.isLt
     clear hcq
     generalize inF (l.take q) k=b at HS ⊢
     cases b
     ·cases hp:c.1.val.testBit k
      ·cases hr:c.2.val.testBit k
       ·rw [hp] at hP HS
        rw [hr] at hQ HS
        go_wp2_with (go_at_call 206;refine (refHas_any _ _ _ (by assumption)).mono ?_;rintro e w0 ⟨rfl,hw0⟩;replace hw0:=hw0.symm;subst hw0;first | rw [hP] | rw [hQ])
        go_roundw
        case rel=>exact⟨q+1,by omega,by go_num,by rw [HS.out];rfl,by first | trivial | rfl⟩
        case measure=>simp [intOf];omega
       ·rw [hp] at hP HS
        rw [hr] at hQ HS
        go_wp2_with (go_at_call 206;refine (refHas_any _ _ _ (by assumption)).mono ?_;rintro e w0 ⟨rfl,hw0⟩;replace hw0:=hw0.symm;subst hw0;first | rw [hP] | rw [hQ])
        go_roundw
        case rel=>exact⟨q+1,by omega,by go_num,by rw [HS.out];rfl,by first | trivial | rfl⟩
        case measure=>simp [intOf];omega
      ·rw [hp] at hP HS
       go_wp2_with (go_at_call 206;refine (refHas_any _ _ _ (by assumption)).mono ?_;rintro e w0 ⟨rfl,hw0⟩;replace hw0:=hw0.symm;subst hw0;rw [hP])
       go_roundw
       case rel=>exact⟨q+1,by omega,by go_num,by rw [HS.out];rfl,by first | trivial | rfl⟩
       case measure=>simp [intOf];omega
     ·go_wp2
      go_roundw
      case rel=>exact⟨q+1,by omega,by go_num,by rw [HS.out];rfl,by first | trivial | rfl⟩
      case measure=>simp [intOf];omega
    ·obtain rfl:q=n:=by omega
     have e:l.take q=l:=List.take_of_length_le (by rw [<- Hn.out];exact Nat.le_refl _)
     rw [e]
     cases hb:inF l k
     ·have HU:Hid (dimsTo l (k+1)=dimsTo l k):=dimsTo_miss hb
      go_wp2
      go_roundw
      case rel=>exact⟨k+1,by omega,by go_num,by rw [HU.out];exact hown,hB⟩
      case measure=>simp [intOf];omega
     ·have HU:Hid (dimsTo l (k+1)=dimsTo l k ++ [k]):=dimsTo_hit hb
      go_wp2_with (at_builtin;refine wpList_append_own _ rfl _ _ 147 rfl w.heap.size 3 i0 (.int .i64 0) 1 8 Tryz.underlying147 hi hz0 hz1 hz2 rfl (by decide) _ _ _ rfl (hown.alloc _) ⟨_,0,none⟩ 1 1 [.int .i64 k] rfl rfl (cell_one_new _ _ _) (by simp [Value.oneCell']) (by unfold maxLen;omega) (by omega) (by have:=hB.size;simp;omega) ?_;intro v' w1 hown' hgrow _)
      go_roundw
      case rel=>exact⟨k+1,by omega,by go_num,by rw [HU.out];simpa [encI] using hown',(hB.alloc hB.size _).grown hgrow (by have:=hB.size;simp;omega) (fun k' e=>(World.ownsRow.lt hown k' e).1)⟩
      case measure=>simp [intOf];omega
  ·obtain rfl:k=24:=by omega
   have hrow:RowAt wr _ (dimsTo l 24):=OwnsL.rowAt hown
   have cS:=refSet_any (dimsTo l 24) _ wr hrow (fun j hj=>by have:=(List.mem_filter.1 hj).1;simpa using this) (by omega)
   rw [dimsTo_sum] at cS
   have hlen:=World.ownsRow.lt hown
   go_wp2_with fail
   refine cS.mono ?_
   rintro e w1 ⟨rfl,hw1⟩
   have hB1:Below w.heap.size w w1:=by rw [hw1];exact hB
   clear cS hw1
   go_wp2
   go_ret
   exact⟨rfl,hB1⟩
section
variable {H:Type} {enc:TypeId × Value->H}
theorem shutB {W W':World} {t:TypeId} {v:Value} {d:DataW H} {ps:List MemPlace} (hr:Tryz.prog.readableRec t=true) (hrow:t<Tryz.prog.types.size) (h:DataW.Trod enc Tryz.prog W 0 (fun _=>true) true t v d ps) (hb:Below W.heap.size W W') :
  DataW.Trod enc Tryz.prog W' 0 (fun b=>decide (b<W.heap.size)) true t v d ps :=
 Below.trod Tryz.laidOut hr hrow h hb (fun x hx=>by obtain⟨n,hn⟩:=h;exact DataW.trod_lt n _ _ _ hn x hx)
theorem bounds_wf {n:Int} (h:(Lit.int .u32 n).wf=true):∃ x:Fin 4294967296,n=(x.val:Int):=by
 have h2:0<=n/\n<=4294967295:=by
  simp [Lit.wf,IntKind.min,IntKind.max,IntKind.bits,IntKind.signed] at h
  omega
 exact⟨⟨n.toNat,by omega⟩,by show n=((n.toNat:Nat):Int);omega⟩
end
section
variable {H:Type} {enc:TypeId × Value->H}
end
end Go.Proofs.YtblbhmnahoiecaaGreat
