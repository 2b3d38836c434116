/- Rows of clauses with their room; belowOne of the layer formula. Right: may a formula be? Nothing that lay before the call turns. append of a row of clauses onto a row of the call's own; Least as a function of the row. meet: what two formulas make, met, in new memory. Nothing that lay before the call turns. Slices of numbers in memory: owned, and read. The document's answer: Ints of two slices that hold the same numbers is true. mask.dimensions hands out 0 .. 23, rising, whatever the loop's body does; mask.Count, List, Free over it. The document's answer: List, Set, Without, With, Free: what they hand back; nothing that lay before the call turns. fold over a row of clauses, from a row on; opposites of a clause's literals. join: what two formulas make, joined, in new memory. Nothing that lay before the call turns. Not, and the exported Join, Meet, Dim, One, Zero: each answer in new memory; nothing that lay before the call turns. The document's answers of the layer formula: Right, Dim, Join; each answer in new memory; nothing that lay before the call turns. The layer face: those of a row that are wanted (kept); what is asked of a clause and of a row. Nothing that lay before the call turns. The document's answer: With and Free: what they hand back; nothing that lay before the call turns. The document's answer: Clash, union, Meet: what they hand back; nothing that lay before the call turns. The document's answers of the layer formula: Meet, turned, Not; each answer in new memory; nothing that lay before the call turns. The document's answers of the layer formula: turned, Not. The document's answers of the layer face: Right, calm, Of, OfZero, Join, Meet, Under, Entails, Single, Holds: rows in new memory; nothing that lay before the call turns. Dims: the dimensions of a formula's clauses. Nothing that lay before the call turns. The document's answers of the layer formula: Dims. How a clause, and a row of clauses, that came in lie in memory; what came in reads as it did where nothing old has turned. How a formula that came in lies in memory: a row of clauses with room for all of them. -/
import Derived.Test.YtblbhmnahoiecaaGreatGFA
import Derived.Test.YtblbhmnahoiecaaGreatGMA
import Derived.BigQuiet
import Derived.Lib.AppendZeros
import Derived.Maps.AppendAt
import Derived.WalkKit
import Derived.Laws.OwnMore
import Derived.OwnWalk
import Derived.Test.YtblbhmnahoiecaaGreatProg
import Derived.Deep.QuietTactic
import Derived.WalkSmall
import Derived.RangeFuncNested
import Derived.RangeFuncBound
import Derived.RangeFuncCalls
import Derived.RangeFuncLeaves
import Derived.RangeFuncFrom
import Derived.RangeFuncBox
import Derived.Shelf.Abstract
import Derived.Shelf.RegionOpen
import Derived.OwnWalkIn
import Derived.TacticsInMore
import Derived.LoopNIn
import Derived.LoopIn
import Derived.ProofKit
import Derived.OpenShut
import Derived.Lib.SmallJoins
import Derived.Deep.SlicePairs
set_option linter.unusedVariables false
set_option linter.unusedSimpArgs false
set_option maxRecDepth 100000
set_option maxHeartbeats 8000000
namespace Go.Proofs.YtblbhmnahoiecaaGreat
open Go.RowKit Go.Shelf Go.Sort
open Go.RowKit Go.Sort
open Go.RowKit
open Go.RowKit Go.Shelf
open Go.ChangeShapes Go.WideShapes Go.ChangeAt Go.RowKit
structure FRow (w:World) (v:Value) (l:List C):Prop where
 row:CRow w v l
 cap:∃ a n cap,v=.slice a n cap∧n≤cap
theorem FRow.below {w w':World} {v:Value} {l:List C} (h:FRow w v l) (hb:Below w.heap.size w w'):FRow w' v l:=⟨h.row.below hb,h.cap⟩
theorem FRow.form {w:World} {v:Value} {l:List C} (h:FRow w v l) (hl:l≠[]):∃ g off cap,v=.slice (some ⟨g,off,none⟩) l.length cap∧l.length≤cap∧g<w.heap.size∧CellsC w g off l:=by
 obtain⟨g,off,cap,rfl,hg,hc⟩:=h.row.cons hl
 obtain⟨a,n,cap',e,hle⟩:=h.cap
 injection e with e1 e2 e3
 subst e2 e3
 exact⟨g,off,cap,rfl,hle,hg,hc⟩
theorem FRow.len {w:World} {v:Value} {l:List C} (h:FRow w v l):∃ a cap,v=.slice a l.length cap:=h.row.len
theorem fpred_any (c:C) (B:Nat) (w:World) (hB:B<w.heap.size) (h0:w.cell? ⟨B,0,none⟩=some (.int .u32 (c.1.val:Int))) (h1:w.cell? ⟨B,1,none⟩=some (.int .u32 (c.2.val:Int))) :
  PredBelow Tryz.prog 191 #[.pointer (some ⟨B,0,none⟩)] (fun x=>.agg (encC x).toArray) (fun x=>belC c x) w:=fun W x hb=>by
 have g0:W.cell? ⟨B,0,none⟩=some (.int .u32 (c.1.val:Int)):=(hb.cell (p:=⟨B,0,none⟩) hB).trans h0
 have g1:W.cell? ⟨B,1,none⟩=some (.int .u32 (c.2.val:Int)):=(hb.cell (p:=⟨B,1,none⟩) hB).trans h1
 have hBW:B<W.heap.size:=Nat.lt_of_lt_of_le hB hb.size
 have hne:B≠W.heap.size:=by omega
 show Calls Tryz.prog 191 #[clV x,.pointer (some ⟨B,0,none⟩)] W _
 go_enter Tryz.func191,Tryz.ntmps191
 go_wp2_with (go_at_call 192;refine (bel_any c x _).mono ?_;rintro e w' ⟨rfl,hG⟩)
 go_ret
 exact⟨rfl,(hb.alloc hb.size _).trans (hG.below.mono (by have:=hb.size;simp;omega))⟩
theorem fbelowOne_any (c:C) (l:List C) (v:Value) (w:World) (hv:CRow w v l) (hl:l.length≤100000) :
  Calls Tryz.prog 152 #[clV c,v] w fun e w'=>e=.returned (.bool (l.any (fun b=>belC c b)))∧Below w.heap.size w w':=by
 have eg:∀ args w,(callFunc 191 args).run Tryz.prog w=.ok (.enter 191 args) w:=enters_of Tryz.func191 (by kernel_rfl) rfl
 by_cases hz:l=[]
 ·subst hz
  obtain⟨a,cap,rfl⟩:=hv.len
  clear hv
  go_enter Tryz.func152,Tryz.ntmps152
  go_wp2_with (go_at_call 143;refine (has_none _ _ _ _).mono ?_;rintro e w' ⟨rfl,rfl⟩)
  go_ret
  exact⟨rfl,below_alloc _ _⟩
 ·obtain⟨g,off,cap,rfl,hg,hc⟩:=hv.cons hz
  clear hv
  have hcon:=AnyQ.slices_ContainsFunc hasC 2 Tryz.isAgg38 Tryz.sizeOf38 encC (fun _=>rfl) (fun x=>belC c x) 191 #[.pointer (some ⟨w.heap.size,0,none⟩)] eg g off l.length cap l (w.alloc (.cells #[.int .u32 (c.1.val:Int),.int .u32 (c.2.val:Int)] 38))
   (fpred_any c w.heap.size _ (by simp) (by simp [go_sem]) (by simp [go_sem])) (Nat.le_refl _) (by omega) (by simp;omega) (fun j hj i u hi=>by
    refine Lib.cell?_alloc_some _ ?_
    have h1:=hc j l[j] (List.getElem?_eq_getElem hj)
    have e:l[j]! = l[j]:=getElem!_pos l j hj
    rw [e] at hi
    match i,hi with
    | 0,hi=>simp [encC] at hi;rw [← hi];exact h1.1
    | 1,hi=>simp [encC] at hi;rw [← hi];exact h1.2
    | i+2,hi=>simp [encC] at hi)
  change Calls Tryz.prog 143 _ _ _ at hcon
  rw [List.take_of_length_le (Nat.le_refl _)] at hcon
  clear hc
  generalize l.any (fun b=>belC c b)=r at hcon ⊢
  go_enter Tryz.func152,Tryz.ntmps152
  go_wp2_with (go_at_call 143;refine hcon.mono ?_;rintro e w' ⟨rfl,hb'⟩)
  go_ret
  exact⟨rfl,(below_alloc w _).trans (hb'.mono (by simp))⟩
theorem cright_q (c:C) (w:World) (d:Nat) (os:Array Obj):Calls Tryz.prog 150 #[clV c] (grow (redrawn w d) os) fun e w''=>e=.returned (.bool (rightC c))∧∃ p:Regrown,w''=grow (redrawn w p.d) p.os :=
 Calls.regrown_of ((cright_any c _).mono fun _ _ h=>⟨h.1,h.2.below⟩)
theorem cright_qt (c:C) (w:World) (d:Nat) (os:Array Obj) (h:rightC c=true):Calls Tryz.prog 150 #[clV c] (grow (redrawn w d) os) fun e w''=>e=.returned (.bool true)∧∃ p:Regrown,w''=grow (redrawn w p.d) p.os:=h ▸ cright_q c w d os
theorem cright_qf (c:C) (w:World) (d:Nat) (os:Array Obj) (h:rightC c=false):Calls Tryz.prog 150 #[clV c] (grow (redrawn w d) os) fun e w''=>e=.returned (.bool false)∧∃ p:Regrown,w''=grow (redrawn w p.d) p.os:=h ▸ cright_q c w d os
theorem cmp_q (a b:C) (w:World) (d:Nat) (os:Array Obj):Calls Tryz.prog 151 #[clV a,clV b] (grow (redrawn w d) os) fun e w''=>e=.returned (.int .i64 (cmpC a b))∧∃ p:Regrown,w''=grow (redrawn w p.d) p.os :=
 Calls.regrown_of ((cmp_any a b _).mono fun _ _ h=>⟨h.1,h.2.below⟩)
theorem cmp_qm (a b:C) (w:World) (d:Nat) (os:Array Obj) (h:cmpC a b = -1):Calls Tryz.prog 151 #[clV a,clV b] (grow (redrawn w d) os) fun e w''=>e=.returned (.int .i64 (-1))∧∃ p:Regrown,w''=grow (redrawn w p.d) p.os:=h ▸ cmp_q a b w d os
theorem cmp_qz (a b:C) (w:World) (d:Nat) (os:Array Obj) (h:cmpC a b=0):Calls Tryz.prog 151 #[clV a,clV b] (grow (redrawn w d) os) fun e w''=>e=.returned (.int .i64 0)∧∃ p:Regrown,w''=grow (redrawn w p.d) p.os:=h ▸ cmp_q a b w d os
theorem cmp_qp (a b:C) (w:World) (d:Nat) (os:Array Obj) (h:cmpC a b=1):Calls Tryz.prog 151 #[clV a,clV b] (grow (redrawn w d) os) fun e w''=>e=.returned (.int .i64 1)∧∃ p:Regrown,w''=grow (redrawn w p.d) p.os:=h ▸ cmp_q a b w d os
theorem fb_q (c:C) (l:List C) (v:Value) (w:World) (d:Nat) (os:Array Obj) (hv:CRow w v l) (hl:l.length≤100000):Calls Tryz.prog 152 #[clV c,v] (grow (redrawn w d) os) fun e w''=>e=.returned (.bool (l.any (fun b=>belC c b)))∧∃ p:Regrown,w''=grow (redrawn w p.d) p.os :=
 Calls.regrown_of (fbelowOne_any c l v _ (hv.below (below_regrown w d os)) hl)
theorem fb_qt (c:C) (l:List C) (v:Value) (w:World) (d:Nat) (os:Array Obj) (hv:CRow w v l) (hl:l.length≤100000) (h:l.any (fun b=>belC c b)=true):Calls Tryz.prog 152 #[clV c,v] (grow (redrawn w d) os) fun e w''=>e=.returned (.bool true)∧∃ p:Regrown,w''=grow (redrawn w p.d) p.os:=h ▸ fb_q c l v w d os hv hl
theorem fb_qf (c:C) (l:List C) (v:Value) (w:World) (d:Nat) (os:Array Obj) (hv:CRow w v l) (hl:l.length≤100000) (h:l.any (fun b=>belC c b)=false):Calls Tryz.prog 152 #[clV c,v] (grow (redrawn w d) os) fun e w''=>e=.returned (.bool false)∧∃ p:Regrown,w''=grow (redrawn w p.d) p.os:=h ▸ fb_q c l v w d os hv hl
theorem pre_step {f:List C} {k:Nat} {c:C} (h:PreOk (f.take k)) (hk:f[k]? = some c) (hr:rightC c=true) (hlt:∀ d,0<k→f[k - 1]? = some d→ltC d c=true) (ha:(f.take k).any (fun b=>belC c b)=false):PreOk (f.take (k+1)):=by
 have e:f.take (k+1)=f.take k ++ [c]:=by rw [List.take_add_one,hk];rfl
 rw [e]
 refine PreOk.snoc.2 ⟨h,hr,fun d hd=>?_,ha⟩
 have hkl:k<f.length:=by
  rcases Nat.lt_or_ge k f.length with h1|h1
  ·exact h1
  ·rw [List.getElem?_eq_none h1] at hk;exact absurd hk (by simp)
 rw [List.getLast?_eq_getElem?,List.length_take,Nat.min_eq_left (Nat.le_of_lt hkl)] at hd
 have h0:0<k:=by
  rcases Nat.eq_zero_or_pos k with rfl|h0
  ·simp at hd
  ·exact h0
 rw [List.getElem?_take,if_pos (by omega)] at hd
 exact hlt d h0 hd
theorem not_pre {f:List C} {k:Nat} {c:C} (hk:f[k]? = some c) (h:¬ (rightC c=true∧(∀ d,0<k→f[k - 1]? = some d→ltC d c=true)∧(f.take k).any (fun b=>belC c b)=false)):rightF f=false:=by
 cases hr:rightF f
 ·rfl
 ·obtain⟨hp,_⟩:=rightF_iff.1 hr
  have h1:=hp.take (k+1)
  have e:f.take (k+1)=f.take k ++ [c]:=by rw [List.take_add_one,hk];rfl
  rw [e] at h1
  obtain⟨_,h2,h3,h4⟩:=PreOk.snoc.1 h1
  refine absurd ⟨h2,fun d h0 hd=>h3 d ?_,h4⟩ h
  have hkl:k<f.length:=by
   rcases Nat.lt_or_ge k f.length with h1|h1
   ·exact h1
   ·rw [List.getElem?_eq_none h1] at hk;exact absurd hk (by simp)
  rw [List.getLast?_eq_getElem?,List.length_take,Nat.min_eq_left (Nat.le_of_lt hkl),List.getElem?_take,if_pos (by omega)]
  exact hd
theorem fright_any (l:List C) (v:Value) (w:World) (hv:FRow w v l) (hl:l.length≤100000) :
  Calls Tryz.prog 101 #[v] w fun e w'=>e=.returned (.bool (rightF l))∧Below w.heap.size w w':=by
 by_cases hbig:64<l.length
 ·have H:Hid (rightF l=false):=by
   cases hr:rightF l
   ·rfl
   ·have:=rightF_len hr;omega
  obtain⟨a0,cap,rfl⟩:=hv.len
  clear hv
  generalize l.length=n at *
  go_enter Tryz.func101,Tryz.ntmps101
  go_wp2
  go_ret
  exact⟨ret_bool H.out.symm,Below.refl _ _⟩
 by_cases hz:l=[]
 ·subst hz
  obtain⟨a0,cap,rfl⟩:=hv.len
  clear hv
  go_enter Tryz.func101,Tryz.ntmps101
  go_wp2
  go_loop [10] (fun i=>i=.int .i64 0) (fun _=>0)
  case atStart=>rfl
  case round =>
   subst hrel
   go_wp2
   go_ret
   exact⟨ret_bool rightF_nil.symm,Below.refl _ _⟩
 obtain⟨g,off,cap,rfl,hcap,hg,hc⟩:=hv.form hz
 clear hv hl
 have hl:l.length≤64:=by omega
 clear hbig
 obtain⟨n,hn⟩:∃ n,n=l.length:=⟨_,rfl⟩
 have Hn:Hid (n=l.length):=hn
 rw [← hn] at hl hcap ⊢
 clear hn
 go_enter Tryz.func101,Tryz.ntmps101
 go_wp2
 go_loopw [10] (fun i wr=>∃ k:Nat,k≤n∧i=.int .i64 k∧PreOk (l.take k)∧Below w.heap.size w wr) (fun i _=>n - (intOf i).toNat)
 case atStart=>exact⟨0,Nat.zero_le _,rfl,PreOk.nil,Below.refl _ _⟩
 case round =>
  obtain⟨k,hk,rfl,hpre,hny⟩:=hrel
  have HP:Hid (PreOk (l.take k)):=hpre
  clear hpre
  by_cases hlt:k<n
  ·obtain⟨c,hck⟩:=get_some (l:=l) (k:=k) (by rw [← Hn.out];exact hlt)
   have HC:Hid (l[k]? = some c):=hck
   obtain⟨x0,x1⟩:=(hc.below hny hg) k c hck
   have htl:(l.take k).length=k:=by rw [List.length_take,← Hn.out];omega
   have hgr:g<wr.heap.size:=Nat.lt_of_lt_of_le hg hny.size
   have hrow:CRow wr (.slice (some ⟨g,off,none⟩) k cap) (l.take k):=by
    have h1:CellsC wr g off (l.take k):=CellsC.take (hc.below hny hg) k
    exact .inr ⟨g,off,cap,by rw [htl],hgr,h1⟩
   have hrl:(l.take k).length≤100000:=by omega
   have hA:=At.made wr c 38
   have hBb:=below_alloc wr (.cells #[.int .u32 (c.1.val:Int),.int .u32 (c.2.val:Int)] 38)
   cases hrc:rightC c
   ·have HT:Hid (rightF l=false):=not_pre hck (fun h=>by rw [h.1] at hrc;exact absurd hrc (by simp))
    clear hck hrow htl hrl
    go_wp2
    generalize wr.alloc (.cells #[.int .u32 (c.1.val:Int),.int .u32 (c.2.val:Int)] 38)=wb at hA hBb ⊢
    obtain⟨A0,A1⟩:=hA.regrown
    refine wp_region_quiet_below (by kernel_rfl) (by kernel_rfl) ?_
    repeat (first | go_big_quiet_step ((refine cright_qf _ _ _ _ ?_;with_reducible assumption)) | quiet_step ((refine cright_qf _ _ _ _ ?_;with_reducible assumption)))
    refine wpQuiet_nil ?_
    intro _ hw'
    obtain⟨⟨dq,osq⟩,hw''⟩:=hw'
    subst hw''
    go_wp2
    go_ret
    exact⟨ret_bool HT.out.symm,chain (chain hny hBb) (below_regrown _ dq osq)⟩
   ·replace hrow:=hrow.below hBb
    rcases Nat.eq_zero_or_pos k with rfl|h0
    ·simp only [Nat.zero_mul,Nat.add_zero] at x0 x1
     have hany:(l.take 0).any (fun b=>belC c b)=false:=rfl
     have HT:Hid (PreOk (l.take (0+1))):=pre_step HP.out hck hrc (fun d h _=>absurd h (by omega)) hany
     clear hck htl
     go_wp2
     generalize wr.alloc (.cells #[.int .u32 (c.1.val:Int),.int .u32 (c.2.val:Int)] 38)=wb at hA hBb hrow ⊢
     obtain⟨A0,A1⟩:=hA.regrown
     refine wp_region_quiet_below (by kernel_rfl) (by kernel_rfl) ?_
     repeat (first | go_big_quiet_step (first | (refine cright_qt _ _ _ _ ?_;with_reducible assumption) | (refine fb_qf _ _ _ _ _ _ hrow hrl ?_;with_reducible assumption)) | quiet_step (first | (refine cright_qt _ _ _ _ ?_;with_reducible assumption) | (refine fb_qf _ _ _ _ _ _ hrow hrl ?_;with_reducible assumption)))
     refine wpQuiet_nil ?_
     intro _ hw'
     obtain⟨⟨dq,osq⟩,hw''⟩:=hw'
     subst hw''
     go_wp2
     go_roundw
     case rel=>exact⟨0+1,by omega,by go_num,HT.out,chain (chain hny hBb) (below_regrown _ dq osq)⟩
     case measure=>simp [intOf];omega
    ·obtain⟨j,rfl⟩:∃ j,k=j+1:=⟨k - 1,by omega⟩
     have hj1:wrap64 ((j:Int) + 1 - 1)=(j:Int):=by unfold wrap64;omega
     have hj2:((j:Int) + 1) > 0:=by omega
     obtain⟨d,hdk⟩:=get_some (l:=l) (k:=j) (by rw [← Hn.out];omega)
     have hpv:=(CellsC.below (hc.below hny hg) hBb hgr)
     have HD:Hid (l[j+1 - 1]? = some d):=hdk
     rcases cmpC_cases d c with ⟨hlt2,hcm⟩|⟨hlt2,hcm⟩|⟨hlt2,hcm⟩
     ·cases hany:(l.take (j+1)).any (fun b=>belC c b)
      ·have HT:Hid (PreOk (l.take (j+1+1))):=pre_step HP.out hck hrc (fun d2 _ h2=>by rw [HD.out] at h2;rw [← Option.some.inj h2];exact hlt2) hany
       go_wp2
       generalize wr.alloc (.cells #[.int .u32 (c.1.val:Int),.int .u32 (c.2.val:Int)] 38)=wb at hA hBb hrow hpv ⊢
       obtain⟨A0,A1⟩:=hA.regrown
       obtain⟨D0,D1⟩:=hpv.regrown hdk
       clear hdk hck hpv htl
       refine wp_region_quiet_below (by kernel_rfl) (by kernel_rfl) ?_
       repeat (first | go_big_quiet_step (first | (refine cright_qt _ _ _ _ ?_;with_reducible assumption) | (refine cmp_qm _ _ _ _ _ ?_;with_reducible assumption) | (refine fb_qf _ _ _ _ _ _ hrow hrl ?_;with_reducible assumption)) | quiet_step (first | (refine cright_qt _ _ _ _ ?_;with_reducible assumption) | (refine cmp_qm _ _ _ _ _ ?_;with_reducible assumption) | (refine fb_qf _ _ _ _ _ _ hrow hrl ?_;with_reducible assumption)))
       refine wpQuiet_nil ?_
       intro _ hw'
       obtain⟨⟨dq,osq⟩,hw''⟩:=hw'
       subst hw''
       go_wp2
       go_roundw
       case rel=>exact⟨j+1+1,by omega,by go_num,HT.out,chain (chain hny hBb) (below_regrown _ dq osq)⟩
       case measure=>simp [intOf];omega
      ·have HT:Hid (rightF l=false):=not_pre hck (fun h=>by rw [h.2.2] at hany;exact absurd hany (by simp))
       go_wp2
       generalize wr.alloc (.cells #[.int .u32 (c.1.val:Int),.int .u32 (c.2.val:Int)] 38)=wb at hA hBb hrow hpv ⊢
       obtain⟨A0,A1⟩:=hA.regrown
       obtain⟨D0,D1⟩:=hpv.regrown hdk
       clear hdk hck hpv htl
       refine wp_region_quiet_below (by kernel_rfl) (by kernel_rfl) ?_
       repeat (first | go_big_quiet_step (first | (refine cright_qt _ _ _ _ ?_;with_reducible assumption) | (refine cmp_qm _ _ _ _ _ ?_;with_reducible assumption) | (refine fb_qt _ _ _ _ _ _ hrow hrl ?_;with_reducible assumption)) | quiet_step (first | (refine cright_qt _ _ _ _ ?_;with_reducible assumption) | (refine cmp_qm _ _ _ _ _ ?_;with_reducible assumption) | (refine fb_qt _ _ _ _ _ _ hrow hrl ?_;with_reducible assumption)))
       refine wpQuiet_nil ?_
       intro _ hw'
       obtain⟨⟨dq,osq⟩,hw''⟩:=hw'
       subst hw''
       go_wp2
       go_ret
       exact⟨ret_bool HT.out.symm,chain (chain hny hBb) (below_regrown _ dq osq)⟩
     ·have HT:Hid (rightF l=false):=not_pre hck (fun h=>by have:=h.2.1 d (by omega) HD.out;rw [ltC_asymm hlt2] at this;exact absurd this (by simp))
      go_wp2
      generalize wr.alloc (.cells #[.int .u32 (c.1.val:Int),.int .u32 (c.2.val:Int)] 38)=wb at hA hBb hrow hpv ⊢
      obtain⟨A0,A1⟩:=hA.regrown
      obtain⟨D0,D1⟩:=hpv.regrown hdk
      clear hdk hck hpv htl
      refine wp_region_quiet_below (by kernel_rfl) (by kernel_rfl) ?_
      repeat (first | go_big_quiet_step (first | (refine cright_qt _ _ _ _ ?_;with_reducible assumption) | (refine cmp_qp _ _ _ _ _ ?_;with_reducible assumption)) | quiet_step (first | (refine cright_qt _ _ _ _ ?_;with_reducible assumption) | (refine cmp_qp _ _ _ _ _ ?_;with_reducible assumption)))
      refine wpQuiet_nil ?_
      intro _ hw'
      obtain⟨⟨dq,osq⟩,hw''⟩:=hw'
      subst hw''
      go_wp2
      go_ret
      exact⟨ret_bool HT.out.symm,chain (chain hny hBb) (below_regrown _ dq osq)⟩
     ·have HT:Hid (rightF l=false):=not_pre hck (fun h=>by have:=h.2.1 d (by omega) HD.out;rw [hlt2,ltC_irrefl] at this;exact absurd this (by simp))
      clear hlt2
      go_wp2
      generalize wr.alloc (.cells #[.int .u32 (c.1.val:Int),.int .u32 (c.2.val:Int)] 38)=wb at hA hBb hrow hpv ⊢
      obtain⟨A0,A1⟩:=hA.regrown
      obtain⟨D0,D1⟩:=hpv.regrown hdk
      clear hdk hck hpv htl
      refine wp_region_quiet_below (by kernel_rfl) (by kernel_rfl) ?_
      repeat (first | go_big_quiet_step (first | (refine cright_qt _ _ _ _ ?_;with_reducible assumption) | (refine cmp_qz _ _ _ _ _ ?_;with_reducible assumption)) | quiet_step (first | (refine cright_qt _ _ _ _ ?_;with_reducible assumption) | (refine cmp_qz _ _ _ _ _ ?_;with_reducible assumption)))
      refine wpQuiet_nil ?_
      intro _ hw'
      obtain⟨⟨dq,osq⟩,hw''⟩:=hw'
      subst hw''
      go_wp2
      go_ret
      exact⟨ret_bool HT.out.symm,chain (chain hny hBb) (below_regrown _ dq osq)⟩
  ·obtain rfl:k=n:=by omega
   have HT:Hid (rightF l=true):=by
    have h:=HP.out
    rw [List.take_of_length_le (by rw [← Hn.out];exact Nat.le_refl _)] at h
    exact rightF_iff.2 ⟨h,by rw [← Hn.out];exact hl⟩
   go_wp2
   go_ret
   exact⟨ret_bool HT.out.symm,hny⟩
theorem OwnsC.len {w:World} {base:Nat} {v:Value} {l:List C} (h:OwnsC w base v l):∃ a cap,v=.slice a l.length cap:=(OwnsC.row h).len
theorem CRow.at {w:World} {a0:Option Addr} {n cap:Nat} {l:List C} (hv:CRow w (.slice a0 n cap) l) {k:Nat} {c:C} (hk:l[k]? = some c):∃ g off,a0=some ⟨g,off,none⟩∧g<w.heap.size∧w.cell? ⟨g,off+k*2,none⟩=some (.int .u32 (c.1.val:Int))∧w.cell? ⟨g,off+k*2+1,none⟩=some (.int .u32 (c.2.val:Int)):=by
 have hz:l≠[]:=by rintro rfl;simp at hk
 obtain⟨g,off,cap2,e,hg,hc⟩:=hv.cons hz
 have e2:a0=some ⟨g,off,none⟩:=by injection e
 exact⟨g,off,e2,hg,(hc k c hk).1,(hc k c hk).2⟩
theorem Tryz.infoInt:(Tryz.prog.info? 3).map (fun i=>(i.zero,i.size,i.bytes))=some (some (.int .i64 0),1,8):=by kernel_rfl
def encI (k:Nat):Value:=.int .i64 (k:Int)
def OwnsL (w:World) (base:Nat) (v:Value) (l:List Nat):Prop:=w.ownsRow base 3 1 v l.length (l.map encI)
def RowAt (w:World) (v:Value) (l:List Nat):Prop :=
 (v=.slice none 0 0∧l=[])∨∃ g cap,v=.slice (some ⟨g,0,none⟩) l.length cap∧g<w.heap.size∧∀ j,j<l.length→w.cell? ⟨g,j,none⟩=some (.int .i64 ((l[j]?.getD 0:Nat):Int))
theorem OwnsL.rowAt {w:World} {base:Nat} {v:Value} {l:List Nat} (h:OwnsL w base v l):RowAt w v l:=by
 have h0:=h
 obtain⟨h1,h2 | ⟨g,cap,cur,rfl,hg,hh,hn,hc,hs,ht⟩⟩:=h
 ·exact .inl ⟨h2.1,List.length_eq_zero_iff.1 h2.2⟩
 ·refine .inr ⟨g,cap,rfl,?_,fun j hj=>?_⟩
  ·exact (World.ownsRow.lt h0 g rfl).2
  ·have:=World.ownsRow.cellAt h0 j (by omega)
   rw [this]
   simp [encI,hj]
theorem RowAt.below {w w':World} {v:Value} {l:List Nat} (h:RowAt w v l) (hb:Below w.heap.size w w'):RowAt w' v l:=by
 rcases h with h|⟨g,cap,rfl,hg,hc⟩
 ·exact .inl h
 ·exact .inr ⟨g,cap,rfl,Nat.lt_of_lt_of_le hg hb.size,fun j hj=>(hb.cell (p:=⟨g,j,none⟩) hg).trans (hc j hj)⟩
attribute [local go_sem] Oper.semAt_some
theorem getD_lt {l:List Nat} (h:∀ k∈l,k<24) {k:Nat} (hk:k<l.length):l[k]?.getD 0<24:=by
 have:l[k]?.getD 0=l[k]:=by simp [hk]
 rw [this];exact h _ (List.getElem_mem hk)
def Reads (W:World) (a:Option Addr) (n:Nat) (d:List Nat) (v:Value):Prop:=n=0∨∃ g,a=some ⟨g,0,none⟩∧g<W.heap.size∧v.ownBlock≠some g∧∀ j,j<n→W.cell? ⟨g,j,none⟩=some (.int .i64 ((d[j]?.getD 0:Nat):Int))
theorem Reads.below {W W':World} {a:Option Addr} {n:Nat} {d:List Nat} {v:Value} (h:Reads W a n d v) (hb:Below W.heap.size W W'):Reads W' a n d v :=
 h.imp id fun ⟨g,h1,h2,h3,h4⟩=>⟨g,h1,Nat.lt_of_lt_of_le h2 hb.size,h3,fun j hj=>(hb.cell (p:=⟨g,j,none⟩) h2).trans (h4 j hj)⟩
theorem Reads.of {W:World} {base:Nat} {vl:Value} {d:List Nat} (h:OwnsL W base vl d):∃ a cap,vl=.slice a d.length cap∧∀ v:Value,(∀ g,v.ownBlock=some g→g<base)→Reads W a d.length d v:=by
 rcases OwnsL.rowAt h with ⟨rfl,rfl⟩|⟨g,cap,rfl,hg,hc⟩
 ·exact⟨none,0,rfl,fun v _=>.inl rfl⟩
 ·refine⟨_,cap,rfl,fun v hv=>.inr ⟨g,rfl,hg,fun e=>?_,hc⟩⟩
  have h1:=hv g e
  have h2:=(World.ownsRow.lt h g rfl).1
  omega
theorem has_row (l:List C) (v:Value) (w:World) (hv:CRow w v l) (hl:l.length≤100000) (p:C→Bool) (g:Nat) (lb:Array Value) (eg:∀ args w,(callFunc g args).run Tryz.prog w=.ok (.enter g args) w) (hp:PredBelow Tryz.prog g lb (fun x=>.agg (encC x).toArray) p w) :
  Calls Tryz.prog 143 #[v,.func (.func g) #[] lb] w fun e w'=>e=.returned (.bool (l.any p))∧Below w.heap.size w w':=by
 by_cases hz:l=[]
 ·subst hz
  obtain⟨a,cap,rfl⟩:=hv.len
  refine (has_none _ _ _ _).mono ?_
  rintro e w' ⟨rfl,rfl⟩
  exact⟨rfl,Below.refl _ _⟩
 ·obtain⟨b,off,cap,rfl,hg,hc⟩:=hv.cons hz
  have hcon:=AnyQ.slices_ContainsFunc hasC 2 Tryz.isAgg38 Tryz.sizeOf38 encC (fun _=>rfl) p g lb eg b off l.length cap l w hp (Nat.le_refl _) (by omega) hg (fun j hj i u hi=>by
   have h1:=hc j l[j] (List.getElem?_eq_getElem hj)
   have e:l[j]! = l[j]:=getElem!_pos l j hj
   rw [e] at hi
   match i,hi with
   | 0,hi=>simp [encC] at hi;rw [← hi];exact h1.1
   | 1,hi=>simp [encC] at hi;rw [← hi];exact h1.2
   | i+2,hi=>simp [encC] at hi)
  rw [List.take_of_length_le (Nat.le_refl _)] at hcon
  exact hcon
def PredC (fid:Nat) (cap:Array Value) (p:C→Bool) (wb:World):Prop:=∀ W c,Below wb.heap.size wb W→Calls Tryz.prog fid (#[clV c] ++ cap) W fun e w'=>e=.returned (.bool (p c))∧Below W.heap.size W w'
theorem PredC.pred {fid:Nat} {cap:Array Value} {p:C→Bool} {w:World} (h:PredC fid cap p w):PredBelow Tryz.prog fid cap (fun x=>.agg (encC x).toArray) p w:=fun W x hb =>
 (h W x hb).mono fun e w' h2=>⟨h2.1,chain hb h2.2⟩
theorem clash_pred (w:World):PredC 144 #[] clashC w:=fun W c _=>(clash_any c W).mono fun e w' h=>⟨h.1,h.2.below⟩
theorem clash_eg:∀ args w,(callFunc 144 args).run Tryz.prog w=.ok (.enter 144 args) w:=enters_of Tryz.func144 (by kernel_rfl) rfl
theorem all_ok (l:List C):l.all okC = !l.any clashC:=by
 induction l with
 | nil=>rfl
 | cons c l ih=>simp only [List.all_cons,List.any_cons,ih,okC,Bool.not_or]
theorem aright_any (l:List C) (v:Value) (w:World) (hv:FRow w v l) (hl:l.length≤100000) :
  Calls Tryz.prog 96 #[v] w fun e w'=>e=.returned (.bool (rightA l))∧Below w.heap.size w w':=by
 have c1:=fright_any l v w hv hl
 have c2:=fun w1 (h:Below w.heap.size w w1)=>has_row l v w1 (hv.row.below h) hl clashC 144 #[] clash_eg (clash_pred w1).pred
 have HR:Hid (rightA l=(rightF l && !l.any clashC)):=by
  show _=_
  rw [← all_ok];rfl
 obtain⟨pa,ca,rfl⟩:=hv.len
 clear hv
 generalize l.length=n at *
 cases hf:rightF l
 ·rw [hf] at c1 HR
  go_enter Tryz.func96,Tryz.ntmps96
  go_wp2_with fail
  refine c1.mono ?_
  rintro e w1 ⟨rfl,hB1⟩
  clear c1
  go_wp2
  go_ret
  exact⟨ret_bool HR.out.symm,hB1⟩
 ·rw [hf] at c1 HR
  go_enter Tryz.func96,Tryz.ntmps96
  go_wp2_with fail
  refine c1.mono ?_
  rintro e w1 ⟨rfl,hB1⟩
  clear c1
  replace c2:=c2 w1 hB1
  go_wp2_with fail
  refine c2.mono ?_
  rintro e w2 ⟨rfl,hB2⟩
  clear c2
  go_wp2
  go_ret
  exact⟨ret_bool HR.out.symm,chain hB1 hB2⟩
theorem dims1_nat (s p n:Nat) (w:World) (hs:s<4294967296) (hp:p<4294967296) (hn:n<4294967296) :
  Calls Tryz.prog 82 #[.int .u32 s,.agg #[.int .u32 p,.int .u32 n]] w fun e w'=>e=.returned (.tuple #[.int .u32 ((s ||| ((p ||| n) &&& 16777215):Nat):Int),.int .i64 0])∧Below w.heap.size w w':=by
 have h1:Hid (bits BinOp.or IntKind.u32 (s:Int) (bits BinOp.and IntKind.u32 (bits BinOp.or IntKind.u32 (p:Int) (n:Int)) 16777215)=((s ||| ((p ||| n) &&& 16777215):Nat):Int)):=by
  show _=_
  rw [or_low p n hp hn,bits_or32 _ _ hs (Nat.lt_trans (low_lt _) (by decide))]
 go_enter Tryz.func82,Tryz.ntmps82
 go_wp2
 go_ret2
 exact⟨by rw [h1.out];rfl,below_alloc _ _⟩
theorem dims1_any (s:Nat) (c:C) (w:World) (hs:s<4294967296) :
  Calls Tryz.prog 82 #[.int .u32 s,clV c] w fun e w'=>e=.returned (.tuple #[.int .u32 ((stepD s c:Nat):Int),.int .i64 0])∧Below w.heap.size w w' :=
 dims1_nat s c.1.val c.2.val w hs c.1.isLt c.2.isLt
theorem dimsN_take_step {l:List C} {k:Nat} {c:C} (h:l[k]? = some c):dimsN (l.take (k+1))=stepD (dimsN (l.take k)) c:=by
 have e:l.take (k+1)=l.take k ++ [c]:=by rw [List.take_add_one,h];rfl
 rw [e,dimsN_snoc]
theorem dimsN_lt32 (f:List C):dimsN f<4294967296:=Nat.lt_trans (dimsN_lt f) (by decide)
theorem foldD_any (l:List C) (vs:Value) (w:World) (hv:CRow w vs l) (hl:l.length≤100000) :
  Calls Tryz.prog 81 #[vs,.int .u32 0,.func (.func 82) #[] #[]] w fun e w'=>e=.returned (.tuple #[.int .u32 ((dimsN l:Nat):Int),.int .i64 0])∧Below w.heap.size w w':=by
 obtain⟨pa,ca,rfl⟩:=hv.len
 have Ha:Hid (CRow w (.slice pa l.length ca) l):=hv
 clear hv
 obtain⟨n,hn1⟩:∃ n,n=l.length:=⟨_,rfl⟩
 have Hn:Hid (n=l.length):=hn1
 rw [← hn1] at hl Ha ⊢
 clear hn1
 go_enter Tryz.func81,Tryz.ntmps81
 go_wp2
 go_loopw [8,16] (fun v i wr=>∃ k:Nat,k≤n∧i=.int .i64 k∧v=.int .u32 ((dimsN (l.take k):Nat):Int)∧Below w.heap.size w wr) (fun _ i _=>n - (intOf i).toNat)
 case atStart=>exact⟨0,Nat.zero_le _,rfl,rfl,Below.refl _ _⟩
 case round =>
  obtain⟨k,hk,rfl,rfl,hny⟩:=hrel
  by_cases hlt:k<n
  ·obtain⟨c,hck⟩:=get_some (l:=l) (k:=k) (by rw [← Hn.out];exact hlt)
   obtain⟨g,off,rfl,hg,x0,x1⟩:=(Ha.out.below hny).at hck
   have HS:Hid (dimsN (l.take (k+1))=stepD (dimsN (l.take k)) c):=dimsN_take_step hck
   have cD:=dims1_any (dimsN (l.take k)) c (wr.alloc (.cells #[.int .u32 (c.1.val:Int),.int .u32 (c.2.val:Int)] 38)) (dimsN_lt32 _)
   clear hck
   have hb:=below_alloc wr (.cells #[.int .u32 (c.1.val:Int),.int .u32 (c.2.val:Int)] 38)
   generalize dimsN (l.take k)=s at cD HS ⊢
   go_wp2_with fail
   refine cD.mono ?_
   rintro e w2 ⟨rfl,hB2⟩
   clear cD
   go_wp2
   go_roundw
   case rel=>exact⟨k+1,by omega,by go_num,by rw [HS.out],chain (chain hny hb) hB2⟩
   case measure=>simp [intOf];omega
  ·obtain rfl:k=n:=by omega
   have e:l.take k=l:=List.take_of_length_le (by rw [← Hn.out];exact Nat.le_refl _)
   rw [e]
   go_wp2
   go_ret2
   exact⟨rfl,hny⟩
theorem Dims_any (l:List C) (v:Value) (w:World) (hv:CRow w v l) (hl:l.length≤100000) :
  Calls Tryz.prog 30 #[v] w fun e w'=>e=.returned (.int .u32 ((dimsN l:Nat):Int))∧Below w.heap.size w w':=by
 have c1:=foldD_any l v w hv hl
 obtain⟨pa,ca,rfl⟩:=hv.len
 clear hv
 go_enter Tryz.func30,Tryz.ntmps30
 go_wp2_with fail
 refine c1.mono ?_
 rintro e w1 ⟨rfl,hB1⟩
 clear c1
 go_wp2
 go_ret
 exact⟨rfl,hB1⟩
section
variable {H:Type} {enc:TypeId × Value→H}
theorem shutB {W W':World} {t:TypeId} {v:Value} {d:DataW H} {ps:List MemPlace} (hr:Tryz.prog.readableRec t=true) (hrow:t<Tryz.prog.types.size) (h:DataW.Trod enc Tryz.prog W 0 (fun _=>true) true t v d ps) (hb:Below W.heap.size W W') :
  DataW.Trod enc Tryz.prog W' 0 (fun b=>decide (b<W.heap.size)) true t v d ps :=
 Below.trod Tryz.laidOut hr hrow h hb (fun x hx=>by obtain⟨n,hn⟩:=h;exact DataW.trod_lt n _ _ _ hn x hx)
theorem bounds_wf {n:Int} (h:(Lit.int .u32 n).wf=true):∃ x:Fin 4294967296,n=(x.val:Int):=by
 have h2:0≤n∧n≤4294967295:=by
  simp [Lit.wf,IntKind.min,IntKind.max,IntKind.bits,IntKind.signed] at h
  omega
 exact⟨⟨n.toNat,by omega⟩,by show n=((n.toNat:Nat):Int);omega⟩
end
section
variable {H:Type} {enc:TypeId × Value→H}
end
end Go.Proofs.YtblbhmnahoiecaaGreat
