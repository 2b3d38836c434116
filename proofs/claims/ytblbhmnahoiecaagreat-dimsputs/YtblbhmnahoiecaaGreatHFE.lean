/- A part of the proof. -/
import Derived.Test.YtblbhmnahoiecaaGreatHFD
import Derived.Test.YtblbhmnahoiecaaGreatHYRSame
set_option linter.unusedVariables false
set_option linter.unusedSimpArgs false
set_option maxRecDepth 100000
set_option maxHeartbeats 8000000
namespace Go.Proofs.YtblbhmnahoiecaaGreat
open Go.RowKit
open Go.RowKit Go.Sort
open Go.RowKit Go.Shelf
open Go.RowKit Go.Shelf Go.Sort
open Go.RowKit Go.Maps
theorem bdN13 {B:Nat} {a w:World} (h:Below B a w) (n:Nat):Below B a (w.drewN n):=⟨h.os,h.tape,h.output,h.size,h.block⟩
attribute [local go_sem] Oper.semAt_some
theorem filter_take {l:List Nat} {k:Nat} (p:Nat->Bool) (h:k<l.length):(l.take (k+1)).filter p=(l.take k).filter p++(if p (l[k]?.getD 0) then [l[k]?.getD 0] else []):=by
 rw [List.take_succ_eq_append_getElem h,List.filter_append]
 have:l[k]?.getD 0=l[k]:=by simp [h]
 rw [this]
 by_cases hp:p l[k] <;> simp [hp]
def keepUp (l:List Nat) (i:Int) (k:Nat):List Nat:=(l.take k).filter (notI i)
theorem keepUp_length_le (l:List Nat) (i:Int) (k:Nat):(keepUp l i k).length<=k:=by
 have:=List.length_filter_le (notI i) (l.take k)
 have h2:(l.take k).length<=k:=List.length_take_le _ _
 unfold keepUp;omega
theorem refWithout_any (s:Nat) (i:Int) (w:World) (hs:s<4294967296) :
  Calls Tryz.prog 238 #[.int .u32 s,.int .i64 i] w fun e w'=>e=.returned (.int .u32 (withoutN s i:Nat))/\Below w.heap.size w w':=by
 obtain⟨i0,hi,hz0,hz1,hz2⟩:=info_parts Tryz.infoInt
 have h24:∀ k∈keepUp (dimsOf s) i (dimsOf s).length,k<24:=fun k hk=>dimsOf_lt k (List.mem_of_mem_take (List.mem_filter.1 hk).1)
 have hEnd:sumAll (keepUp (dimsOf s) i (dimsOf s).length)=withoutN s i:=by
  unfold keepUp
  rw [List.take_length,sumAll_eq (sorted_nodup (List.Pairwise.filter _ (dimsOf_sorted s))),orAll_dims_withoutN]
 have hkl:=keepUp_length_le (dimsOf s) i (dimsOf s).length
 have hdl:=dimsOf_length_le s
 have H24:Hid (∀ k∈keepUp (dimsOf s) i (dimsOf s).length,k<24):=h24
 have HE:Hid (sumAll (keepUp (dimsOf s) i (dimsOf s).length)=withoutN s i):=hEnd
 clear h24 hEnd
 go_enter Tryz.func238,Tryz.ntmps238
 go_wp2_with (go_at_call 233;refine (refList_any _ _ hs).mono ?_;rintro e w1 ⟨v,rfl,hL,hB1⟩)
 rcases hL.rowAt with ⟨rfl,hnil⟩|⟨g,cap,rfl,hg,hc⟩
 ·go_loopw [6,7] (fun v i wr=>i=.int .i64 0/\v=.slice none 0 0/\wr=w1) (fun _ _ _=>0)
  case atStart=>exact⟨rfl,rfl,rfl⟩
  case round =>
   obtain⟨rfl,rfl,rfl⟩:=hrel
   have hW0:withoutN s i=0:=by rw [<- HE.out,hnil];rfl
   have HW:Hid (withoutN s i=0):=hW0
   clear hW0 hnil
   go_wp2_with (go_at_call 237;refine (refSet_any [] _ _ (.inl ⟨rfl,rfl⟩) (by simp) (by simp)).mono ?_;rintro e w' ⟨rfl,rfl⟩)
   go_ret
   exact⟨ret_int (by rw [HW.out];rfl),hB1⟩
 ·obtain⟨l,hl⟩:∃ l,l=dimsOf s:=⟨_,rfl⟩
  rw [<- hl] at hc H24 HE hL hkl hdl ⊢
  obtain⟨n,hn⟩:∃ n,n=l.length:=⟨_,rfl⟩
  rw [<- hn] at hc H24 HE hkl hdl ⊢
  have HN:Hid (n=l.length):=hn
  clear hn hl hL
  go_loopw [6,7] (fun v i' wr=>∃ k:Nat,k<=n/\i'=.int .i64 k/\wr.ownsRow w1.heap.size 3 1 v (keepUp l i k).length ((keepUp l i k).map encI)/\Below w1.heap.size w1 wr) (fun _ i _=>n - (intOf i).toNat)
  case atStart=>exact⟨0,by omega,rfl,World.ownsRow_nil _ _ _ _,Below.refl _ _⟩
  case round =>
   obtain⟨k,hk,rfl,hown,hB⟩:=hrel
   have hul:=keepUp_length_le l i k
   by_cases hlt:k<n
   ·have hck:wr.cell? ⟨g,k,none⟩=some (.int .i64 ((l[k]?.getD 0:Nat):Int)):=(hB.cell (p:=⟨g,k,none⟩) hg).trans (hc k hlt)
    have hft:=filter_take (l:=l) (k:=k) (notI i) (by rw [<- HN.out];exact hlt)
    obtain⟨x,hx⟩:∃ x,x=l[k]?.getD 0:=⟨_,rfl⟩
    rw [<- hx] at hck hft
    by_cases hne:((x:Int) != i)=true
    ·have hp:notI i x=true:=by
      have:(x:Int)≠i:=by simpa using hne
      simpa [notI] using fun h=>this h.symm
     have HU:Hid (keepUp l i (k+1)=keepUp l i k ++ [x]):=by show keepUp l i (k+1)=_;unfold keepUp;rw [hft,hp];rfl
     clear hft hc hx hp
     go_wp2_with (at_builtin;refine wpList_append_own _ rfl _ _ 147 rfl w1.heap.size 3 i0 (.int .i64 0) 1 8 Tryz.underlying147 hi hz0 hz1 hz2 rfl (by decide) _ _ _ rfl (hown.alloc _) ⟨_,0,none⟩ 1 1 [.int .i64 x] rfl rfl (cell_one_new _ _ _) (by simp [Value.oneCell']) (by unfold maxLen;omega) (by omega) (by have:=hB.size;simp;omega) ?_;intro v' w2 hown' hgrow _)
     go_roundw
     case rel=>exact⟨k+1,by omega,by go_num,by rw [HU.out];simpa [encI] using hown',(hB.alloc hB.size _).grown hgrow (by have:=hB.size;simp;omega) (fun k' e=>(World.ownsRow.lt hown k' e).1)⟩
     case measure=>simp [intOf];omega
    ·have hne:((x:Int) != i)=false:=by simpa using hne
     have hp:notI i x=false:=by
      have:(x:Int)=i:=by simpa using hne
      simp [notI,this]
     have HU:Hid (keepUp l i (k+1)=keepUp l i k):=by show keepUp l i (k+1)=_;unfold keepUp;rw [hft,hp];simp
     clear hft hc hx hp
     go_wp2
     go_roundw
     case rel=>exact⟨k+1,by omega,by go_num,by rw [HU.out];exact hown,hB⟩
     case measure=>simp [intOf];omega
   ·obtain rfl:k=n:=by omega
    have hL:OwnsL wr w1.heap.size _ (keepUp l i k):=hown
    have hR:=hL.rowAt
    clear hL hown
    go_wp2_with (go_at_call 237;refine (refSet_any _ _ _ hR H24.out (by omega)).mono ?_;rintro e w' ⟨rfl,rfl⟩)
    go_ret
    exact⟨ret_int (by rw [HE.out]),hB1.trans (hB.mono hB1.size)⟩
theorem refWith_any (s:Nat) (i:Int) (w:World) (hs:s<4294967296) :
  Calls Tryz.prog 268 #[.int .u32 s,.int .i64 i] w fun e w'=>e=.returned (.int .u32 (withN s i:Nat))/\Below w.heap.size w w':=by
 by_cases h0:i<0
 ·have HE:Hid (withoutN s (-1)=withN s i):=(withoutN_no (isDimB_lo (by omega))).trans (withN_no (isDimB_lo h0)).symm
  go_enter Tryz.func268,Tryz.ntmps268
  go_wp2_with (go_at_call 238;refine (refWithout_any _ _ _ hs).mono ?_;rintro e w1 ⟨rfl,hB1⟩)
  go_ret
  exact⟨ret_int (by rw [HE.out]),hB1⟩
 ·by_cases h1:24<=i
  ·have HE:Hid (withoutN s (-1)=withN s i):=(withoutN_no (isDimB_lo (by omega))).trans (withN_no (isDimB_hi h1)).symm
   go_enter Tryz.func268,Tryz.ntmps268
   go_wp2_with (go_at_call 238;refine (refWithout_any _ _ _ hs).mono ?_;rintro e w1 ⟨rfl,hB1⟩)
   go_ret
   exact⟨ret_int (by rw [HE.out]),hB1⟩
  ·obtain⟨j,rfl⟩:=Int.eq_ofNat_of_zero_le (by omega:0<=i)
   have hj:j<24:=by omega
   have hxl:withoutN s (j:Int) < 4294967296:=by have:=withoutN_lt s (j:Int);omega
   have hdl:=dimsOf_length_le (withoutN s (j:Int))
   have HE:Hid (sumAll (dimsOf (withoutN s (j:Int)) ++ [j])=withN s (j:Int)):=with_sum s j hj
   have H24:Hid (∀ k∈dimsOf (withoutN s (j:Int)) ++ [j],k<24):=fun k hk=>by
    rcases List.mem_append.1 hk with h|h
    ·exact dimsOf_lt k h
    ·simp at h;omega
   obtain⟨i0,hi,hz0,hz1,hz2⟩:=info_parts Tryz.infoInt
   obtain⟨x,hx⟩:∃ x,x=withoutN s (j:Int):=⟨_,rfl⟩
   have hw:=refWithout_any s (j:Int) w hs
   rw [<- hx] at hxl hdl HE H24 hw
   clear hx
   go_enter Tryz.func268,Tryz.ntmps268
   go_wp2_with (first
    | (go_at_call 238;refine hw.mono ?_;rintro e w1 ⟨rfl,hB1⟩)
    | (go_at_call 233;refine (refList_any _ _ hxl).mono ?_;rintro e w2 ⟨v,rfl,hL,hB2⟩)
    | (at_builtin;refine wpList_append_own _ rfl _ _ 147 rfl w1.heap.size 3 i0 (.int .i64 0) 1 8 Tryz.underlying147 hi hz0 hz1 hz2 rfl (by decide) _ _ _ rfl (World.ownsRow.alloc hL _) ⟨_,0,none⟩ 1 1 [.int .i64 j] rfl rfl (cell_one_new _ _ _) (by simp [Value.oneCell']) (by unfold maxLen;omega) (by omega) (by have:=hB2.size;simp;omega) ?_;intro v' w3 hown' hgrow _;have hL3:OwnsL w3 w1.heap.size v' (dimsOf x ++ [j]):=(by simpa [OwnsL,encI] using hown');have hR3:=hL3.rowAt;have hB3:Below w1.heap.size w1 w3:=(hB2.alloc hB2.size _).grown hgrow (by have:=hB2.size;simp;omega) (fun k' e=>(World.ownsRow.lt hL k' e).1);clear hL3 hown' hgrow)
    | (go_at_call 237;refine (refSet_any _ _ _ hR3 H24.out (by simp;omega)).mono ?_;rintro e w4 ⟨rfl,rfl⟩))
   go_ret
   exact⟨ret_int (by rw [HE.out]),hB1.trans (hB3.mono hB1.size)⟩
theorem encI_set {l:List Nat} {k x:Nat}:(l.map encI).set k (encI x)=(l.set k x).map encI:=by rw [List.map_set]
theorem ret_two {k1 k2:IntKind} {a b c d:Int} (h:a=b) (h2:c=d):Ending.returned (.tuple #[.int k1 a,.int k2 c])=.returned (.tuple #[.int k1 b,.int k2 d]):=by rw [h,h2]
theorem nil_or_row {w:World} {base:Nat} {v:Value} {l:List Nat} (h:OwnsL w base v l):(v=.slice none 0 0/\l=[])\/∃ g cap,v=.slice (some ⟨g,0,none⟩) l.length cap/\base<=g:=by
 obtain⟨h1,h2 | ⟨g,cap,cur,rfl,hg,hh,hn,hc,hs,ht⟩⟩:=h
 ·exact .inl ⟨h2.1,List.length_eq_zero_iff.1 h2.2⟩
 ·exact .inr ⟨g,cap,rfl,hg⟩
theorem refLift_any (s:Nat) (fr by_:Int) (w:World) (hs:s<4294967296) :
  Calls Tryz.prog 213 #[.int .u32 s,.int .i64 fr,.int .i64 by_] w fun e w'=>e=.returned (.tuple #[.int .u32 (liftN s fr by_:Nat),.int .i64 (liftE s fr by_)])/\Below w.heap.size w w':=by
 by_cases h0:fr<0
 ·have HE:=lift_arg (s:=s) (argB_from (by_:=by_) h0)
  have H1:Hid (liftN s fr by_=0):=HE.1
  have H2:Hid (liftE s fr by_=2):=HE.2
  clear HE
  go_enter Tryz.func213,Tryz.ntmps213
  go_wp2_with fail
  go_ret2
  exact⟨ret_two (by rw [H1.out];rfl) (by rw [H2.out]),Below.refl _ _⟩
 ·by_cases h1:by_<0
  ·have HE:=lift_arg (s:=s) (argB_by (from_:=fr) h1)
   have H1:Hid (liftN s fr by_=0):=HE.1
   have H2:Hid (liftE s fr by_=2):=HE.2
   clear HE
   go_enter Tryz.func213,Tryz.ntmps213
   go_wp2_with fail
   go_ret2
   exact⟨ret_two (by rw [H1.out];rfl) (by rw [H2.out]),Below.refl _ _⟩
  ·have ha:argB fr by_=false:=argB_no (by omega) (by omega)
   have HBad:Hid (liftBad fr by_ (dimsOf s)=true->liftN s fr by_=0/\liftE s fr by_=10):=fun h=>lift_bad ha h
   have HOk:Hid (liftBad fr by_ (dimsOf s)=false->sumAll ((dimsOf s).map (upK fr by_))=liftN s fr by_/\liftE s fr by_=0):=fun h=>by
    rw [(lift_ok ha h).1,(lift_ok ha h).2]
    exact⟨sumAll_eq (sorted_nodup (up_sorted (by omega) (dimsOf_sorted s))),rfl⟩
   have H24:Hid (liftBad fr by_ (dimsOf s)=false->∀ k∈(dimsOf s).map (upK fr by_),k<24):=fun h=>up_bd (by omega) dimsOf_lt h
   have HD24:Hid (∀ k∈dimsOf s,k<24):=dimsOf_lt
   have hdl:=dimsOf_length_le s
   have hList:=refList_any s w hs
   obtain⟨l,hl⟩:∃ l,l=dimsOf s:=⟨_,rfl⟩
   rw [<- hl] at HBad HOk H24 HD24 hdl hList
   clear hl ha
   go_enter Tryz.func213,Tryz.ntmps213
   go_wp2_with (go_at_call 233;refine hList.mono ?_;rintro e w1 ⟨v,rfl,hL,hB1⟩)
   rcases nil_or_row hL with ⟨rfl,hnil⟩|⟨g,cap,rfl,hg⟩
   ·have hE:=HOk.out (by rw [hnil];rfl)
    rw [hnil] at hE
    have H1:Hid (liftN s fr by_=0):=hE.1.symm
    have H2:Hid (liftE s fr by_=0):=hE.2
    clear hE hnil
    go_loopw [9] (fun i wr=>i=.int .i64 0/\wr=w1) (fun _ _=>0)
    case atStart=>exact⟨rfl,rfl⟩
    case round =>
     obtain⟨rfl,rfl⟩:=hrel
     go_wp2_with (go_at_call 237;refine (refSet_any [] _ _ (.inl ⟨rfl,rfl⟩) (by simp) (by simp)).mono ?_;rintro e w' ⟨rfl,rfl⟩)
     go_ret2
     exact⟨ret_two (by rw [H1.out];rfl) (by rw [H2.out]),hB1⟩
   ·obtain⟨n,hn⟩:∃ n,n=l.length:=⟨_,rfl⟩
    unfold OwnsL at hL
    rw [<- hn] at hL hdl ⊢
    have HN:Hid (n=l.length):=hn
    clear hn
    go_loopw [9] (fun i wr=>∃ k:Nat,k<=n/\i=.int .i64 k/\wr.ownsRow w.heap.size 3 1 (.slice (some ⟨g,0,none⟩) n cap) n ((midL (upK fr by_) l k).map encI)/\Below w.heap.size w wr/\Hid (∀ j,j<k->badK fr by_ (l[j]?.getD 0)=false)) (fun i _=>n - (intOf i).toNat)
    case atStart=>exact⟨0,by omega,rfl,by rw [midL_zero];exact hL,hB1,fun j hj=>by omega⟩
    case round =>
     obtain⟨k,hk,rfl,hown,hB,HA⟩:=hrel
     by_cases hlt:k<n
     ·have hk':k<l.length:=by rw [<- HN.out];exact hlt
      have hck:wr.cell? ⟨g,k,none⟩=some (.int .i64 ((l[k]?.getD 0:Nat):Int)):=by
       rw [World.ownsRow.cellAt hown k (by omega),List.getElem?_map,midL_at _ _ _ hk'];rfl
      have hfk:=World.ownsRow.frozenAt hown k
      have hx24:l[k]?.getD 0<24:=getD_lt HD24.out hk'
      have hmem:l[k]?.getD 0∈l:=by
       have:l[k]?.getD 0=l[k]:=by simp [hk']
       rw [this];exact List.getElem_mem hk'
      have hset:=midL_set (upK fr by_) l k hk'
      have hsame:=midL_same (upK fr by_) l k hk'
      have HA':Hid (badK fr by_ (l[k]?.getD 0)=false->∀ j,j<k+1->badK fr by_ (l[j]?.getD 0)=false):=fun h j hj=>by
       by_cases e:j=k
       ·rw [e];exact h
       ·exact HA.out j (by omega)
      obtain⟨x,hx⟩:∃ x,x=l[k]?.getD 0:=⟨_,rfl⟩
      rw [<- hx] at hck hx24 hmem hset hsame HA'
      clear hx hL
      by_cases hlo:(x:Int) < fr
      ·have hb:badK fr by_ x=false:=by simp [badK];omega
       have HM:Hid (midL (upK fr by_) l (k+1)=midL (upK fr by_) l k):=hsame (by simp [upK,hlo])
       have HA2:Hid (∀ j,j<k+1->badK fr by_ (l[j]?.getD 0)=false):=HA'.out hb
       clear hset hsame hb hmem
       go_wp2
       go_roundw
       case rel=>exact⟨k+1,by omega,by go_num,by rw [HM.out];exact hown,hB,HA2⟩
       case measure=>simp [intOf];omega
      ·by_cases hbig:24 - (x:Int)<=by_
       ·have hb:badK fr by_ x=true:=by simp [badK];omega
        have hE:=HBad.out (liftBad_mem hmem hb)
        have H1:Hid (liftN s fr by_=0):=hE.1
        have H2:Hid (liftE s fr by_=10):=hE.2
        clear hset hsame hb hmem hE
        go_wp2
        go_ret2
        exact⟨ret_two (by rw [H1.out];rfl) (by rw [H2.out]),hB⟩
       ·have hb:badK fr by_ x=false:=by simp [badK];omega
        have HA2:Hid (∀ j,j<k+1->badK fr by_ (l[j]?.getD 0)=false):=HA'.out hb
        have hup:upK fr by_ x=x+by_.toNat:=by simp [upK,hlo]
        have hst:=(World.ownsRow.stored hown k (.int .i64 ((x:Int) + by_))).1
        have e1:((midL (upK fr by_) l k).map encI).set k (.int .i64 ((x:Int) + by_))=(midL (upK fr by_) l (k+1)).map encI:=by
         rw [<- hset,hup,<- encI_set]
         congr 1
         simp only [encI]
         congr 1
         omega
        rw [e1] at hst
        have hBs:Below w.heap.size w (wr.setCell ⟨g,k,none⟩ (.int .i64 ((x:Int) + by_))):=hB.setCell (p:=⟨g,k,none⟩) hg _
        clear hset hsame hb hmem e1 hown hup
        go_wp2
        go_roundw
        case rel=>exact⟨k+1,by omega,by go_num,hst,hBs,HA2⟩
        case measure=>simp [intOf];omega
     ·obtain rfl:k=n:=by omega
      have hok:liftBad fr by_ l=false:=by
       simp only [liftBad,List.any_eq_false]
       intro x hx
       obtain⟨j,hj,rfl⟩:=List.getElem_of_mem hx
       have:=HA.out j (by rw [HN.out];exact hj)
       simpa [hj] using this
      have hE:=HOk.out hok
      have h24:=H24.out hok
      have hL2:OwnsL wr w.heap.size (.slice (some ⟨g,0,none⟩) k cap) (l.map (upK fr by_)):=by
       unfold OwnsL
       have e:(l.map (upK fr by_)).length=k:=by rw [List.length_map];exact HN.out.symm
       have e2:midL (upK fr by_) l k=l.map (upK fr by_):=by rw [HN.out,midL_end]
       rw [e,<- e2];exact hown
      have hR:=hL2.rowAt
      have hlen:(l.map (upK fr by_)).length<=64:=by rw [List.length_map,<- HN.out];omega
      have H1:Hid (sumAll (l.map (upK fr by_))=liftN s fr by_):=hE.1
      have H2:Hid (liftE s fr by_=0):=hE.2
      have HH:Hid (∀ k∈l.map (upK fr by_),k<24):=h24
      clear hE h24 hok hL2 hown hL
      go_wp2_with (go_at_call 237;refine (refSet_any _ _ _ hR HH.out hlen).mono ?_;rintro e w' ⟨rfl,rfl⟩)
      go_ret2
      exact⟨ret_two (by rw [H1.out]) (by rw [H2.out]),hB⟩
attribute [local go_sem] Oper.semAt_some
attribute [local go_sem] Oper.semAt_some
theorem refclift_any (c:C) (fr by_:Int) (w:World) :
  Calls Tryz.prog 172 #[clV c,.int .i64 fr,.int .i64 by_] w fun e w'=>e=.returned (.tuple #[clV (liftC c fr by_),.int .i64 (liftCE c fr by_)])/\Below w.heap.size w w':=by
 have h1:=c.1.isLt
 have h2:=c.2.isLt
 have hK:=Kept.start w c
 have hK0:∀ {W:World},Kept w W c->Kept w W c:=fun h=>h
 cases hr:rightC c
 ·have H1:Hid (liftC c fr by_=cl00):=if_neg (by simp [hr])
  have H2:Hid (liftCE c fr by_=2):=if_neg (by simp [hr])
  go_enter Tryz.func172,Tryz.ntmps172
  go_wp2_with (first
   | (go_at_call 203;refine (refcright_any _ _).mono ?_;rintro e w2 ⟨rfl,hG⟩;replace hK:=hK.next hG.below;obtain⟨hB,hs,c0,c1,y0,y1,z0,z1⟩:=hK0 hK)
   | (go_at_call 213;refine (refLift_any _ _ _ _ (by assumption)).mono ?_;rintro e w3 ⟨rfl,hB3⟩;replace hK:=hK.next hB3;obtain⟨hB,hs,c0,c1,y0,y1,z0,z1⟩:=hK0 hK))
  exact bodyPost_ret (v:=.tuple #[.agg #[.int .u32 0,.int .u32 0],.int .i64 2]) (by simp [results,Tryz.results172,go_sem, *]) rfl ⟨ret_lift H1.out.symm H2.out.symm,(hK.below.setCell (by simp) _).setCell (by simp) _⟩
 ·by_cases g1:liftE c.1.val fr by_=0
  ·by_cases g2:liftE c.2.val fr by_=0
   ·have H1:Hid (liftC c fr by_=(⟨liftN c.1.val fr by_,liftN_lt32 _ _ _⟩,⟨liftN c.2.val fr by_,liftN_lt32 _ _ _⟩)):=if_pos ⟨hr,g1,g2⟩
    have H2:Hid (liftCE c fr by_=0):=(if_pos hr).trans ((if_pos g1).trans g2)
    go_enter Tryz.func172,Tryz.ntmps172
    go_wp2_with (first
   | (go_at_call 203;refine (refcright_any _ _).mono ?_;rintro e w2 ⟨rfl,hG⟩;replace hK:=hK.next hG.below;obtain⟨hB,hs,c0,c1,y0,y1,z0,z1⟩:=hK0 hK)
   | (go_at_call 213;refine (refLift_any _ _ _ _ (by assumption)).mono ?_;rintro e w3 ⟨rfl,hB3⟩;replace hK:=hK.next hB3;obtain⟨hB,hs,c0,c1,y0,y1,z0,z1⟩:=hK0 hK))
    exact bodyPost_ret (v:=.tuple #[.agg #[.int .u32 (liftN c.1.val fr by_:Nat),.int .u32 (liftN c.2.val fr by_:Nat)],.int .i64 0]) (by simp [results,Tryz.results172,go_sem, *]) rfl ⟨ret_lift H1.out.symm H2.out.symm,(hK.below.setCell (by simp) _).setCell (by simp) _⟩
   ·have H1:Hid (liftC c fr by_=cl00):=if_neg (fun h=>g2 h.2.2)
    have H2:Hid (liftCE c fr by_=liftE c.2.val fr by_):=(if_pos hr).trans (if_pos g1)
    go_enter Tryz.func172,Tryz.ntmps172
    go_wp2_with (first
   | (go_at_call 203;refine (refcright_any _ _).mono ?_;rintro e w2 ⟨rfl,hG⟩;replace hK:=hK.next hG.below;obtain⟨hB,hs,c0,c1,y0,y1,z0,z1⟩:=hK0 hK)
   | (go_at_call 213;refine (refLift_any _ _ _ _ (by assumption)).mono ?_;rintro e w3 ⟨rfl,hB3⟩;replace hK:=hK.next hB3;obtain⟨hB,hs,c0,c1,y0,y1,z0,z1⟩:=hK0 hK))
    exact bodyPost_ret (v:=.tuple #[.agg #[.int .u32 0,.int .u32 0],.int .i64 (liftE c.2.val fr by_)]) (by simp [results,Tryz.results172,go_sem, *]) rfl ⟨ret_lift H1.out.symm H2.out.symm,(hK.below.setCell (by simp) _).setCell (by simp) _⟩
  ·have H1:Hid (liftC c fr by_=cl00):=if_neg (fun h=>g1 h.2.1)
   have H2:Hid (liftCE c fr by_=liftE c.1.val fr by_):=(if_pos hr).trans (if_neg g1)
   go_enter Tryz.func172,Tryz.ntmps172
   go_wp2_with (first
   | (go_at_call 203;refine (refcright_any _ _).mono ?_;rintro e w2 ⟨rfl,hG⟩;replace hK:=hK.next hG.below;obtain⟨hB,hs,c0,c1,y0,y1,z0,z1⟩:=hK0 hK)
   | (go_at_call 213;refine (refLift_any _ _ _ _ (by assumption)).mono ?_;rintro e w3 ⟨rfl,hB3⟩;replace hK:=hK.next hB3;obtain⟨hB,hs,c0,c1,y0,y1,z0,z1⟩:=hK0 hK))
   exact bodyPost_ret (v:=.tuple #[.agg #[.int .u32 0,.int .u32 0],.int .i64 (liftE c.1.val fr by_)]) (by simp [results,Tryz.results172,go_sem, *]) rfl ⟨ret_lift H1.out.symm H2.out.symm,(hK.below.setCell (by simp) _).setCell (by simp) _⟩
theorem refset1 (k:Nat) (hk:k<24) (w:World):Calls Tryz.prog 237 #[.slice (some ⟨w.heap.size,0,none⟩) 1 1] (w.alloc (.cells #[.int .i64 (k:Int)] 3)) fun e w'=>e=.returned (.int .u32 ((bitF k).val:Int))/\w'=w.alloc (.cells #[.int .i64 (k:Int)] 3):=by
 have h:=refSet_any [k] (.slice (some ⟨w.heap.size,0,none⟩) 1 1) (w.alloc (.cells #[.int .i64 (k:Int)] 3)) (.inr ⟨w.heap.size,1,rfl,by simp,fun j hj=>by
  have:j=0:=by simpa using hj
  subst this
  simp [go_sem]⟩) (by simpa using hk) (by simp)
 have e:sumAll [k]=(bitF k).val:=by rw [bitF_val hk];simp [sumAll,sumFrom]
 rw [e] at h
 exact h
theorem rJoin_any (l m:List C) (a b:Value) (w:World) (ha:CRow w a l) (hb:CRow w b m) (hl:l.length<=40000) (hm:m.length<=40000) :
  Calls Tryz.prog 245 #[a,b] w fun e w'=>∃ v,e=.returned (.tuple #[v,.int .i64 (joinF l m).2])/\OwnsC w' w.heap.size v (joinF l m).1/\Below w.heap.size w w':=by
 have c1:=rfright_any l a w ha (by omega)
 have c2:=fun w1 (h:Below w.heap.size w w1)=>rfright_any m b w1 (hb.below h) (by omega)
 have Ha:Hid (∀ w1,Below w.heap.size w w1->CRow w1 a l):=fun w1 h=>ha.below h
 have Hb:Hid (∀ w1,Below w.heap.size w w1->CRow w1 b m):=fun w1 h=>hb.below h
 have Hl:Hid (l.length<=40000):=hl
 have Hm:Hid (m.length<=40000):=hm
 obtain⟨pa,ca,rfl⟩:=ha.len
 obtain⟨pb,cb,rfl⟩:=hb.len
 have HJ:Hid (joinF l m=if rightF l && rightF m then joinR l m else ([],2)):=rfl
 clear ha hb hl hm
 generalize l.length=n1 at c1 Ha ⊢
 generalize m.length=n2 at c2 Hb ⊢
 cases hf:rightF l
 ·rw [hf] at c1 HJ
  go_enter Tryz.func245,Tryz.ntmps245
  go_wp2_with fail
  refine c1.mono ?_
  rintro e w1 ⟨rfl,hB1⟩
  clear c1
  go_wp2
  go_ret2
  rw [HJ.out]
  exact⟨_,rfl,World.ownsRow_nil _ _ _ _,hB1⟩
 ·cases hg:rightF m
  ·rw [hf] at c1 HJ
   rw [hg] at HJ
   simp only [hg] at c2
   go_enter Tryz.func245,Tryz.ntmps245
   go_wp2_with fail
   refine c1.mono ?_
   rintro e w1 ⟨rfl,hB1⟩
   clear c1
   replace c2:=c2 w1 hB1
   go_wp2_with fail
   refine c2.mono ?_
   rintro e w2 ⟨rfl,hB2⟩
   clear c2
   go_wp2
   go_ret2
   rw [HJ.out]
   exact⟨_,rfl,World.ownsRow_nil _ _ _ _,chain hB1 hB2⟩
  ·rw [hf] at c1 HJ
   rw [hg] at HJ
   simp only [hg] at c2
   go_enter Tryz.func245,Tryz.ntmps245
   go_wp2_with fail
   refine c1.mono ?_
   rintro e w1 ⟨rfl,hB1⟩
   clear c1
   replace c2:=c2 w1 hB1
   go_wp2_with fail
   refine c2.mono ?_
   rintro e w2 ⟨rfl,hB2⟩
   clear c2
   have hB:=chain hB1 hB2
   have hE:OwnsC (w2.alloc (.cells #[] 38)) w.heap.size (.slice (some ⟨w2.heap.size,0,none⟩) 0 0) []:=empty_row w2 _ hB.size
   have hB3:=chain hB (below_alloc w2 (.cells #[] 38))
   go_wp2_with (first
    | (at_builtin;refine wpList_append_row rfl _ _ rfl w.heap.size _ _ [] l rfl rfl hE (Ha.out _ hB3) (by have:=Hl.out;simp;omega) hB3.size ?_;intro v4 w4 hO4 hg4 hv4;have hB4:=hB3.trans (own_grown hE hg4 hB3.size))
    | (at_builtin;refine wpList_append_row rfl _ _ rfl w.heap.size _ _ _ m rfl rfl hO4 (Hb.out _ hB4) (by have:=Hl.out;have:=Hm.out;simp;omega) hB4.size ?_;intro v5 w5 hO5 hg5 hv5;have hB5:=hB4.trans (own_grown hO4 hg5 hB4.size))
    | (go_at_call 163;refine (refleastC _ _ _ (OwnsC.row hO5) (by have:=Hl.out;have:=Hm.out;simp;omega)).mono ?_;rintro e w6 ⟨v6,rfl,hO6,hB6⟩))
   go_ret2
   rw [HJ.out]
   exact⟨_,rfl,OwnsC.mono hO6 hB5.size,chain hB5 hB6⟩
theorem orFrom_lt {a:Nat} (ha:a<16777216) {l:List Nat} (h:∀ k∈l,k<24):orFrom a l<16777216:=by
 have:orFrom a l<2 ^ 24:=Nat.lt_pow_two_of_testBit _ (fun i hi=>by
  rw [testBit_orFrom,Nat.testBit_lt_two_pow (Nat.lt_of_lt_of_le ha (Nat.pow_le_pow_right (n:=2) (by decide) hi)),Bool.false_or]
  exact decide_eq_false (fun hm=>by have:=h i hm;omega))
 exact this
theorem orFrom_snoc (a:Nat) (l:List Nat) (k:Nat):orFrom a (l ++ [k])=orFrom a l ||| 2 ^ k:=by simp [orFrom]
theorem union_end {a b:Nat} (hb:b<16777216):orFrom a (dimsOf b)=a ||| b:=by
 apply Nat.eq_of_testBit_eq
 intro k
 rw [testBit_orFrom,Nat.testBit_or]
 congr 1
 rw [Bool.eq_iff_iff,decide_eq_true_eq,mem_dimsOf]
 exact⟨fun h=>h.2,fun h=>⟨bit_lt24 hb h,h⟩⟩
theorem withN_low {s k:Nat} (hs:s<16777216) (hk:k<24):withN s (k:Int)=s ||| 2 ^ k:=by
 rw [withN,isDimB_nat hk]
 simp [low_of_lt hs]
theorem union_any (a b:Nat) (w:World) (ha:a<16777216) (hb:b<16777216) :
  Calls Tryz.prog 262 #[.int .u32 a,.int .u32 b] w fun e w'=>e=.returned (.int .u32 (a ||| b:Nat))/\Below w.heap.size w w':=by
 have hb32:b<4294967296:=by omega
 obtain⟨l,hl⟩:∃ l,l=dimsOf b:=⟨_,rfl⟩
 have HL:Hid (l=dimsOf b):=hl
 have hlen:l.length<=24:=by rw [hl];exact dimsOf_length_le b
 have h24:∀ k∈l,k<24:=by rw [hl];exact dimsOf_lt
 have cL:=refList_any b w hb32
 rw [<- hl] at cL
 have HE:Hid (orFrom a l=a ||| b):=by rw [hl];exact union_end hb
 clear hl
 go_enter Tryz.func262,Tryz.ntmps262
 go_wp2_with fail
 refine cL.mono ?_
 rintro e w1 ⟨v,rfl,hO,hB1⟩
 clear cL
 have hR:=hO.rowAt
 clear hO
 obtain⟨n,hn⟩:∃ n,n=l.length:=⟨_,rfl⟩
 have Hn:Hid (n=l.length):=hn
 rcases hR with ⟨rfl,rfl⟩|⟨g,cap,rfl,hg,hc⟩
 ·go_wp2
  go_loop [0,6] (fun x i=>x=.int .u32 a/\i=.int .i64 0) (fun _ _=>0)
  case atStart=>exact⟨rfl,rfl⟩
  case round =>
   obtain⟨rfl,rfl⟩:=hrel
   go_wp2
   go_ret
   exact⟨ret_int (by rw [<- HE.out];rfl),hB1⟩
 ·rw [<- hn] at hc hlen ⊢
  clear hn
  go_wp2
  go_loopw [0,6] (fun x i wr=>∃ k:Nat,k<=n/\i=.int .i64 k/\x=.int .u32 (orFrom a (l.take k):Nat)/\Below w1.heap.size w1 wr) (fun _ i _=>n - (intOf i).toNat)
  case atStart=>exact⟨0,Nat.zero_le _,rfl,rfl,Below.refl _ _⟩
  case round =>
   obtain⟨k,hk,rfl,rfl,hB⟩:=hrel
   have hlo:orFrom a (l.take k) < 16777216:=orFrom_lt ha (fun x hx=>h24 x (List.mem_of_mem_take hx))
   have hlo32:orFrom a (l.take k) < 4294967296:=by omega
   by_cases hlt:k<n
   ·obtain⟨j,hj⟩:=get_some (l:=l) (k:=k) (by rw [<- Hn.out];exact hlt)
    have x0:=(hB.cell (p:=⟨g,k,none⟩) hg).trans (hc k hlt)
    rw [hj] at x0
    simp only [Option.getD_some] at x0
    have hj24:j<24:=h24 j (List.mem_of_getElem? hj)
    have hS:orFrom a (l.take (k+1))=withN (orFrom a (l.take k)) (j:Int):=by
     have e:l.take (k+1)=l.take k ++ [j]:=by rw [List.take_add_one,hj];rfl
     rw [e,orFrom_snoc,withN_low hlo hj24]
    have HS:Hid (orFrom a (l.take (k+1))=withN (orFrom a (l.take k)) (j:Int)):=hS
    clear hS
    clear hj hc
    go_wp2_with (go_at_call 268;refine (refWith_any _ _ _ (by assumption)).mono ?_;rintro e w2 ⟨rfl,hB2⟩)
    go_roundw
    case rel=>exact⟨k+1,by omega,by go_num,by rw [HS.out],chain hB hB2⟩
    case measure=>simp [intOf];omega
   ·obtain rfl:k=n:=by omega
    have e:l.take k=l:=List.take_of_length_le (by rw [<- Hn.out];exact Nat.le_refl _)
    rw [e] at hlo hlo32 ⊢
    go_wp2
    go_ret
    exact⟨ret_int (by rw [HE.out]),chain hB1 hB⟩
theorem ms_next {w W W':World} {a b:C} (hb:Below W.heap.size W W') (h:W.cell? ⟨w.heap.size,0,none⟩=some (.int .u32 (a.1.val:Int))/\W.cell? ⟨w.heap.size,1,none⟩=some (.int .u32 (a.2.val:Int))/\W.cell? ⟨w.heap.size+1,0,none⟩=some (.int .u32 (b.1.val:Int))/\W.cell? ⟨w.heap.size+1,1,none⟩=some (.int .u32 (b.2.val:Int))) :
  W'.cell? ⟨w.heap.size,0,none⟩=some (.int .u32 (a.1.val:Int))/\W'.cell? ⟨w.heap.size,1,none⟩=some (.int .u32 (a.2.val:Int))/\W'.cell? ⟨w.heap.size+1,0,none⟩=some (.int .u32 (b.1.val:Int))/\W'.cell? ⟨w.heap.size+1,1,none⟩=some (.int .u32 (b.2.val:Int)):=by
 obtain⟨h1,h2,h3,h4⟩:=h
 have l1:=World.block_lt_of_cell? _ _ h1
 have l3:=World.block_lt_of_cell? _ _ h3
 exact⟨(hb.cell l1).trans h1,(hb.cell (p:=⟨w.heap.size,1,none⟩) l1).trans h2,(hb.cell l3).trans h3,(hb.cell (p:=⟨w.heap.size+1,1,none⟩) l3).trans h4⟩
theorem far_cell (W:World) (p q:Addr) (x:Value) (h:p.block≠q.block):(W.setCell p x).cell? q=W.cell? q:=World.cell?_setCell_far W p q x h
theorem ms_store {w W:World} {a b:C} {x y:Value} (h:W.cell? ⟨w.heap.size,0,none⟩=some (.int .u32 (a.1.val:Int))/\W.cell? ⟨w.heap.size,1,none⟩=some (.int .u32 (a.2.val:Int))/\W.cell? ⟨w.heap.size+1,0,none⟩=some (.int .u32 (b.1.val:Int))/\W.cell? ⟨w.heap.size+1,1,none⟩=some (.int .u32 (b.2.val:Int))) :
  ((W.setCell ⟨w.heap.size+1+1,0,none⟩ x).setCell ⟨w.heap.size+1+1,1,none⟩ y).cell? ⟨w.heap.size,0,none⟩=some (.int .u32 (a.1.val:Int))/\((W.setCell ⟨w.heap.size+1+1,0,none⟩ x).setCell ⟨w.heap.size+1+1,1,none⟩ y).cell? ⟨w.heap.size,1,none⟩=some (.int .u32 (a.2.val:Int))/\((W.setCell ⟨w.heap.size+1+1,0,none⟩ x).setCell ⟨w.heap.size+1+1,1,none⟩ y).cell? ⟨w.heap.size+1,0,none⟩=some (.int .u32 (b.1.val:Int))/\((W.setCell ⟨w.heap.size+1+1,0,none⟩ x).setCell ⟨w.heap.size+1+1,1,none⟩ y).cell? ⟨w.heap.size+1,1,none⟩=some (.int .u32 (b.2.val:Int)):=by
 obtain⟨h1,h2,h3,h4⟩:=h
 exact⟨by rw [far_cell _ _ _ _ (by simp;omega),far_cell _ _ _ _ (by simp;omega)];exact h1,by rw [far_cell _ _ _ _ (by simp;omega),far_cell _ _ _ _ (by simp;omega)];exact h2,by rw [far_cell _ _ _ _ (by simp),far_cell _ _ _ _ (by simp)];exact h3,by rw [far_cell _ _ _ _ (by simp),far_cell _ _ _ _ (by simp)];exact h4⟩
structure Waits (W:World) (g:Nat):Prop where
 y0:W.cell? ⟨g,0,none⟩=some (.int .u32 0)
 y1:W.cell? ⟨g,1,none⟩=some (.int .u32 0)
 z0:W.frozen? ⟨g,0,none⟩=false
 z1:W.frozen? ⟨g,1,none⟩=false
theorem Waits.next {W W':World} {g:Nat} (h:Waits W g) (hb:Below W.heap.size W W'):Waits W' g:=by
 have l:=World.block_lt_of_cell? _ _ h.y0
 exact⟨(hb.cell l).trans h.y0,(hb.cell (p:=⟨g,1,none⟩) l).trans h.y1,(hb.frozen (p:=⟨g,0,none⟩) l).trans h.z0,(hb.frozen (p:=⟨g,1,none⟩) l).trans h.z1⟩
theorem refmeet_any (a b:C) (w:World) (ra:rightC a=true) (rb:rightC b=true) :
  Calls Tryz.prog 250 #[clV a,clV b] w fun e w'=>e=.returned (clV (meetC a b))/\Below w.heap.size w w':=by
 obtain⟨pa,na⟩:=rightC_iff.1 ra
 obtain⟨pb,nb⟩:=rightC_iff.1 rb
 have HP:Hid (a.1.val ||| b.1.val=meetP a b):=(low_of_lt (Nat.or_lt_two_pow (n:=24) pa pb)).symm
 have HN:Hid (a.2.val ||| b.2.val=meetN a b):=(low_of_lt (Nat.or_lt_two_pow (n:=24) na nb)).symm
 have hB:Below w.heap.size w ((((w.alloc (.cells #[.int .u32 (a.1.val:Int),.int .u32 (a.2.val:Int)] 38)).alloc (.cells #[.int .u32 (b.1.val:Int),.int .u32 (b.2.val:Int)] 38)).alloc (.cells #[.int .u32 0,.int .u32 0] 38)).drew) :=
  bdN13 (((below_alloc w _).alloc (by simp) _).alloc (by simp;omega) _) 1
 have hY:Waits ((((w.alloc (.cells #[.int .u32 (a.1.val:Int),.int .u32 (a.2.val:Int)] 38)).alloc (.cells #[.int .u32 (b.1.val:Int),.int .u32 (b.2.val:Int)] 38)).alloc (.cells #[.int .u32 0,.int .u32 0] 38)).drew) (w.heap.size+1+1) :=
  ⟨by simp [go_sem],by simp [go_sem],by simp [go_sem],by simp [go_sem]⟩
 clear ra rb
 go_enter Tryz.func250,Tryz.ntmps250
 go_wp2
 go_region_held3 (fun w'=>w'.cell? ⟨w.heap.size,0,none⟩=some (.int .u32 (a.1.val:Int))/\w'.cell? ⟨w.heap.size,1,none⟩=some (.int .u32 (a.2.val:Int))/\w'.cell? ⟨w.heap.size+1,0,none⟩=some (.int .u32 (b.1.val:Int))/\w'.cell? ⟨w.heap.size+1,1,none⟩=some (.int .u32 (b.2.val:Int))) (first | (exact ms_next hB1 (by assumption)) | (exact ms_store (by assumption)) | (simp [go_sem];done) | go_keep)
  (first | (go_at_call 262;refine (union_any _ _ _ (by assumption) (by assumption)).mono ?_;rintro e w1 ⟨rfl,hB1⟩;replace hB:=chain hB hB1;replace hY:=hY.next hB1;have y0:=hY.y0;have y1:=hY.y1;have z0:=hY.z0;have z1:=hY.z1))
 go_wp2
 exact bodyPost_ret (v:=.agg #[.int .u32 (a.1.val ||| b.1.val:Nat),.int .u32 (a.2.val ||| b.2.val:Nat)]) (by simp [results,Tryz.results250,go_sem, *]) rfl ⟨by rw [HP.out,HN.out];rfl,(hB.setCell (by simp;omega) _).setCell (by simp;omega) _⟩
theorem rm_next {B g off k g2 off2 j:Nat} {c d:C} {W W':World} (hb:Below B W W') (hg:g<B) (hg2:g2<B)
  (h:W.cell? ⟨g,off+k*2,none⟩=some (.int .u32 (c.1.val:Int))/\W.cell? ⟨g,off+k*2+1,none⟩=some (.int .u32 (c.2.val:Int))/\W.cell? ⟨g2,off2+j*2,none⟩=some (.int .u32 (d.1.val:Int))/\W.cell? ⟨g2,off2+j*2+1,none⟩=some (.int .u32 (d.2.val:Int))) :
  W'.cell? ⟨g,off+k*2,none⟩=some (.int .u32 (c.1.val:Int))/\W'.cell? ⟨g,off+k*2+1,none⟩=some (.int .u32 (c.2.val:Int))/\W'.cell? ⟨g2,off2+j*2,none⟩=some (.int .u32 (d.1.val:Int))/\W'.cell? ⟨g2,off2+j*2+1,none⟩=some (.int .u32 (d.2.val:Int)) :=
 ⟨(hb.cell (p:=⟨g,off+k*2,none⟩) hg).trans h.1,(hb.cell (p:=⟨g,off+k*2+1,none⟩) hg).trans h.2.1,(hb.cell (p:=⟨g2,off2+j*2,none⟩) hg2).trans h.2.2.1,(hb.cell (p:=⟨g2,off2+j*2+1,none⟩) hg2).trans h.2.2.2⟩
theorem rMeet_ok (l m:List C) (a b:Value) (w:World) (ha:CRow w a l) (hb:CRow w b m) (hf:rightF l=true) (hg:rightF m=true) :
  Calls Tryz.prog 243 #[a,b] w fun e w'=>∃ v,e=.returned (.tuple #[v,.int .i64 (meetR l m).2])/\OwnsC w' w.heap.size v (meetR l m).1/\Below w.heap.size w w':=by
 have hl:l.length<=64:=rightF_len hf
 have hm:m.length<=64:=rightF_len hg
 have c1:=rfright_any l a w ha (by omega)
 have c2:=fun w1 (h:Below w.heap.size w w1)=>rfright_any m b w1 (hb.below h) (by omega)
 rw [hf] at c1
 simp only [hg] at c2
 have hpl:=fun k=>pairs_take_le l m k (by omega) (by omega)
 have HRl:Hid (∀ c∈l,rightC c=true):=List.all_eq_true.1 (rightF_all hf)
 have HRm:Hid (∀ c∈m,rightC c=true):=List.all_eq_true.1 (rightF_all hg)
 have Ha:Hid (∀ w1,Below w.heap.size w w1->CRow w1 a l):=fun w1 h=>ha.below h
 have Hb:Hid (∀ w1,Below w.heap.size w w1->CRow w1 b m):=fun w1 h=>hb.below h
 have HCa:Hid (∀ (k:Nat) c,l[k]? = some c->∃ g off n cap,a=.slice (some ⟨g,off,none⟩) n cap/\g<w.heap.size):=fun k c hk=>by
  obtain⟨g,off,cap,e,h1,_⟩:=ha.cons (by rintro rfl;simp at hk)
  exact⟨g,off,_,cap,e,h1⟩
 have HCb:Hid (∀ (k:Nat) c,m[k]? = some c->∃ g off n cap,b=.slice (some ⟨g,off,none⟩) n cap/\g<w.heap.size):=fun k c hk=>by
  obtain⟨g,off,cap,e,h1,_⟩:=hb.cons (by rintro rfl;simp at hk)
  exact⟨g,off,_,cap,e,h1⟩
 obtain⟨pa,ca,rfl⟩:=ha.len
 obtain⟨pb,cb,rfl⟩:=hb.len
 clear ha hb hf hg
 obtain⟨n1,hn1⟩:∃ n1,n1=l.length:=⟨_,rfl⟩
 obtain⟨n2,hn2⟩:∃ n2,n2=m.length:=⟨_,rfl⟩
 have Hn1:Hid (n1=l.length):=hn1
 have Hn2:Hid (n2=m.length):=hn2
 rw [<- hn1] at hl Ha HCa c1 ⊢
 rw [<- hn2] at hm Hb HCb c2 ⊢
 clear hn1 hn2
 go_enter Tryz.func243,Tryz.ntmps243
 go_wp2_with fail
 refine c1.mono ?_
 rintro e w1 ⟨rfl,hB1⟩
 clear c1
 replace c2:=c2 w1 hB1
 go_wp2_with fail
 refine c2.mono ?_
 rintro e w2 ⟨rfl,hB2⟩
 clear c2
 have hB:=chain hB1 hB2
 go_wp2
 go_loopw [6,7] (fun v i wr=>∃ k:Nat,k<=n1/\i=.int .i64 k/\OwnsC wr w.heap.size v (pairsC (l.take k) m)/\Below w.heap.size w wr) (fun _ i _=>n1 - (intOf i).toNat)
 case atStart=>exact⟨0,Nat.zero_le _,rfl,World.ownsRow_nil _ _ _ _,hB⟩
 case round =>
  obtain⟨k,hk,rfl,hO,hny⟩:=hrel
  by_cases hlt:k<n1
  ·obtain⟨c,hck⟩:=get_some (l:=l) (k:=k) (by rw [<- Hn1.out];exact hlt)
   have HC:Hid (l[k]? = some c):=hck
   have hrc:rightC c=true:=HRl.out c (List.mem_of_getElem? hck)
   clear hck
   go_wp2
   go_loopw [6,8] (fun v i wr2=>∃ j:Nat,j<=n2/\i=.int .i64 j/\OwnsC wr2 w.heap.size v (pairsC (l.take k) m++(m.take j).map (meetC c))/\Below w.heap.size w wr2) (fun _ i _=>n2 - (intOf i).toNat)
   case atStart=>exact⟨0,Nat.zero_le _,rfl,by simp only [List.take_zero,List.map_nil,List.append_nil];exact hO,hny⟩
   case round =>
    obtain⟨j,hj,rfl,hO2,hny2⟩:=hrel
    by_cases hlt2:j<n2
    ·obtain⟨d,hdj⟩:=get_some (l:=m) (k:=j) (by rw [<- Hn2.out];exact hlt2)
     have hrd:rightC d=true:=HRm.out d (List.mem_of_getElem? hdj)
     obtain⟨g,off,rfl,hg0,x0,x1⟩:=(Ha.out _ hny2).at HC.out
     obtain⟨g2,off2,rfl,hg20,y0,y1⟩:=(Hb.out _ hny2).at hdj
     have hg:g<w.heap.size:=by
      obtain⟨g',off',n',cap',e,h⟩:=HCa.out k c HC.out
      injection e with e1;injection e1 with e1;injection e1 with e1;rw [e1];exact h
     have hg2:g2<w.heap.size:=by
      obtain⟨g',off',n',cap',e,h⟩:=HCb.out j d hdj
      injection e with e1;injection e1 with e1;injection e1 with e1;rw [e1];exact h
     have HD:Hid (m[j]? = some d):=hdj
     have hlen:Hid ((pairsC (l.take k) m++(m.take j).map (meetC c)).length + [meetC c d].length<=200000):=by
      have h1:=hpl k
      have h2:=List.length_take_le j m
      show (pairsC (l.take k) m++(m.take j).map (meetC c)).length+1<=200000
      rw [List.length_append,List.length_map]
      omega
     clear hdj hg0 hg20
     have hO0:OwnsC wr.drew w.heap.size _ (pairsC (l.take k) m++(m.take j).map (meetC c)):=hO2
     have hny0:w.heap.size<=wr.drew.heap.size:=hny2.size
     go_wp2
     go_region_held3 (fun w'=>w'.cell? ⟨g,off+k*2,none⟩=some (.int .u32 (c.1.val:Int))/\w'.cell? ⟨g,off+k*2+1,none⟩=some (.int .u32 (c.2.val:Int))/\w'.cell? ⟨g2,off2+j*2,none⟩=some (.int .u32 (d.1.val:Int))/\w'.cell? ⟨g2,off2+j*2+1,none⟩=some (.int .u32 (d.2.val:Int))) (first | (exact rm_next hBk hg hg2 (by assumption)) | go_keep)
      (first
       | (go_at_call 250;refine (refmeet_any _ _ _ (by assumption) (by assumption)).mono ?_;rintro e w5 ⟨rfl,hB5⟩;have hBk:=hB5.mono hny0;have hO5:=OwnsC.below hO0 hB5)
       | (refine step_append_row rfl (.tmp 29) (.tmp 39) rfl w.heap.size _ _ _ [meetC c d] rfl rfl (OwnsC.below hO5 (below_alloc _ _)) (row_one _ _) hlen.out (Nat.le_trans hny0 (Nat.le_trans hB5.size (by simp))) ?_;intro v6 w6 hO6 hg6 hv6;have hBk:=own_grown (OwnsC.below hO5 (below_alloc w5 (.cells #[.int .u32 ((meetC c d).1.val:Int),.int .u32 ((meetC c d).2.val:Int)] 38))) hg6 (Nat.le_trans hny0 (Nat.le_trans hB5.size (by simp)))))
     have hB6:Below w.heap.size w w6:=by
      have h1:Below w.heap.size w w5:=hny2.trans ((bdN13 (Below.refl _ wr) 1).trans (hB5.mono hny0))
      exact (h1.alloc h1.size _).trans hBk
     go_wp2
     go_roundw
     case rel=>exact⟨j+1,by omega,by go_num,by rw [map_take_step HD.out,<- List.append_assoc];exact hO6,hB6⟩
     case measure=>simp [intOf];omega
    ·obtain rfl:j=n2:=by omega
     have e2:m.take j=m:=List.take_of_length_le (by rw [<- Hn2.out];exact Nat.le_refl _)
     rw [e2,<- pairs_take_step HC.out] at hO2
     go_wp2
     go_roundw
     case rel=>exact⟨k+1,by omega,by go_num,hO2,hny2⟩
     case measure=>simp [intOf];omega
  ·obtain rfl:k=n1:=by omega
   have e:l.take k=l:=List.take_of_length_le (by rw [<- Hn1.out];exact Nat.le_refl _)
   rw [e] at hO
   have hrl:(pairsC l m).length<=100000:=by have:=hpl k;rw [e] at this;omega
   have cL:=refleastC _ _ wr (OwnsC.row hO) hrl
   obtain⟨p9,q9,rfl⟩:=OwnsC.len hO
   go_wp2_with fail
   refine cL.mono ?_
   rintro e w3 ⟨v3,rfl,hO3,hB3⟩
   clear cL
   go_wp2
   go_ret2
   exact⟨_,rfl,OwnsC.mono hO3 hny.size,chain hny hB3⟩
def oppJ (c:C) (j:Nat):List C:=(if c.1.val.testBit j then [negB j] else []) ++ (if c.2.val.testBit j then [posB j] else [])
def oppI (c:C) (k:Nat):List C:=(List.range k).flatMap (oppJ c)
theorem oppI_succ (c:C) (k:Nat):oppI c (k+1)=oppI c k++oppJ c k:=by simp [oppI,List.range_succ]
theorem oppI_length (c:C) (k:Nat):(oppI c k).length<=k*2:=by
 induction k with
 | zero=>simp [oppI]
 | succ k ih =>
  rw [oppI_succ,List.length_append]
  have:(oppJ c k).length<=2:=by
   unfold oppJ
   cases c.1.val.testBit k <;> cases c.2.val.testBit k <;> simp
  omega
theorem oppI_mem (c x:C):x∈oppI c 24↔x∈oppC c:=by
 unfold oppI oppC
 simp only [List.mem_flatMap,List.mem_range,List.mem_append,List.mem_map,mem_dimsOf]
 constructor
 ·rintro⟨k,hk,h⟩
  unfold oppJ at h
  rcases List.mem_append.1 h with h|h
  ·split at h
   ·rename_i hb
    exact .inl ⟨k,⟨hk,hb⟩,(List.mem_singleton.1 h).symm⟩
   ·simp at h
  ·split at h
   ·rename_i hb
    exact .inr ⟨k,⟨hk,hb⟩,(List.mem_singleton.1 h).symm⟩
   ·simp at h
 ·rintro (⟨k,⟨hk,hb⟩,rfl⟩ | ⟨k,⟨hk,hb⟩,rfl⟩)
  ·exact⟨k,hk,by unfold oppJ;simp [hb]⟩
  ·exact⟨k,hk,by unfold oppJ;simp [hb]⟩
theorem oppI_turn (c:C):leastF (oppI c 24)=(turnF c,0):=(leastF_congr (oppI_mem c)).trans (turn_told c)
theorem turned_any (c:C) (w:World) :
  Calls Tryz.prog 251 #[clV c] w fun e w'=>∃ v,e=.returned v/\OwnsC w' w.heap.size v (turnF c)/\Below w.heap.size w w':=by
 have hA:=At.made w c 38
 have hB:=below_alloc w (.cells #[.int .u32 (c.1.val:Int),.int .u32 (c.2.val:Int)] 38)
 have hc1:=c.1.isLt
 have hc2:=c.2.isLt
 have hLt:=oppI_length c 24
 have HT:Hid (leastF (oppI c 24)=(turnF c,0)):=oppI_turn c
 have HS:Hid (∀ k,oppI c (k+1)=oppI c k++oppJ c k):=oppI_succ c
 have HL:Hid (∀ k,(oppI c k).length<=k*2):=oppI_length c
 go_enter Tryz.func251,Tryz.ntmps251
 go_wp2_with fail
 generalize w.alloc (.cells #[.int .u32 (c.1.val:Int),.int .u32 (c.2.val:Int)] 38)=wb at hA hB ⊢
 have HA:Hid (At wb w.heap.size c):=hA
 clear hA
 go_loopw [3,4] (fun v i wr=>∃ k:Nat,k<=24/\i=.int .i64 k/\OwnsC wr wb.heap.size v (oppI c k)/\Below wb.heap.size wb wr) (fun _ i _=>24 - (intOf i).toNat)
 case atStart=>exact⟨0,Nat.zero_le _,rfl,World.ownsRow_nil _ _ _ _,Below.refl _ _⟩
 case round =>
  obtain⟨k,hk,rfl,hO,hny⟩:=hrel
  by_cases hlt:k<24
  ·have hP:hasB c.1.val (k:Int)=c.1.val.testBit k:=hasB_nat hlt
   have hQ:hasB c.2.val (k:Int)=c.2.val.testBit k:=hasB_nat hlt
   have hlen:=HL.out k
   have HJ:Hid (oppI c (k+1)=oppI c k++((if c.1.val.testBit k then [negB k] else []) ++ (if c.2.val.testBit k then [posB k] else []))):=HS.out k
   have hset:=refset1 k hlt wr
   have hny1:=chain hny (below_alloc wr (.cells #[.int .i64 (k:Int)] 3))
   have hO1:=OwnsC.below hO (below_alloc wr (.cells #[.int .i64 (k:Int)] 3))
   have hat1:=HA.out.below hny1
   obtain⟨z0,z1,z2⟩:=hat1
   go_wp2_with fail
   generalize wr.alloc (.cells #[.int .i64 (k:Int)] 3)=w1 at hset hny1 hO1 z0 z1 z2 ⊢
   refine hset.mono ?_
   rintro e w0 ⟨rfl,hw0⟩
   replace hw0:=hw0.symm
   subst hw0
   clear hset hO hny
   cases hp:c.1.val.testBit k
   ·cases hq:c.2.val.testBit k
    ·rw [hp] at hP HJ
     rw [hq] at hQ HJ
     go_wp2_with (first
      | (go_at_call 206;refine (refHas_any _ _ _ (by assumption)).mono ?_;rintro e w0 ⟨rfl,hw0⟩;replace hw0:=hw0.symm;subst hw0;first | rw [hP] | rw [hQ]))
     go_roundw
     case rel=>exact⟨k+1,by omega,by go_num,by rw [HJ.out];simpa using hO1,hny1⟩
     case measure=>simp [intOf];omega
    ·rw [hp] at hP HJ
     rw [hq] at hQ HJ
     go_wp2_with (first
      | (go_at_call 206;refine (refHas_any _ _ _ (by assumption)).mono ?_;rintro e w0 ⟨rfl,hw0⟩;replace hw0:=hw0.symm;subst hw0;first | rw [hP] | rw [hQ])
      | (at_builtin;refine wpList_append_row rfl _ _ rfl wb.heap.size _ _ (oppI c k) [posB k] rfl rfl (OwnsC.below hO1 (below_alloc w1 (.cells #[.int .u32 ((bitF k).val:Int),.int .u32 0] 38))) (row_pos _ _) (by simp;omega) (Nat.le_trans hny1.size (by simp)) ?_;intro v5 w5 hO5 hg5 hv5;have hB5:=(chain hny1 (below_alloc w1 (.cells #[.int .u32 ((bitF k).val:Int),.int .u32 0] 38))).trans (own_grown (OwnsC.below hO1 (below_alloc w1 (.cells #[.int .u32 ((bitF k).val:Int),.int .u32 0] 38))) hg5 (Nat.le_trans hny1.size (by simp)))))
     go_roundw
     case rel=>exact⟨k+1,by omega,by go_num,by rw [HJ.out];simpa using hO5,hB5⟩
     case measure=>simp [intOf];omega
   ·cases hq:c.2.val.testBit k
    ·rw [hp] at hP HJ
     rw [hq] at hQ HJ
     go_wp2_with (first
      | (go_at_call 206;refine (refHas_any _ _ _ (by assumption)).mono ?_;rintro e w0 ⟨rfl,hw0⟩;replace hw0:=hw0.symm;subst hw0;first | rw [hP] | rw [hQ])
      | (at_builtin;refine wpList_append_row rfl _ _ rfl wb.heap.size _ _ (oppI c k) [negB k] rfl rfl (OwnsC.below hO1 (below_alloc w1 (.cells #[.int .u32 0,.int .u32 ((bitF k).val:Int)] 38))) (row_neg _ _) (by simp;omega) (Nat.le_trans hny1.size (by simp)) ?_;intro v4 w4 hO4 hg4 hv4;have hB4:=(chain hny1 (below_alloc w1 (.cells #[.int .u32 0,.int .u32 ((bitF k).val:Int)] 38))).trans (own_grown (OwnsC.below hO1 (below_alloc w1 (.cells #[.int .u32 0,.int .u32 ((bitF k).val:Int)] 38))) hg4 (Nat.le_trans hny1.size (by simp)));have hA4:=HA.out.below hB4;have y0:=hA4.1;have y1:=hA4.2.1))
     go_roundw
     case rel=>exact⟨k+1,by omega,by go_num,by rw [HJ.out];simpa using hO4,hB4⟩
     case measure=>simp [intOf];omega
    ·rw [hp] at hP HJ
     rw [hq] at hQ HJ
     go_wp2_with (first
      | (go_at_call 206;refine (refHas_any _ _ _ (by assumption)).mono ?_;rintro e w0 ⟨rfl,hw0⟩;replace hw0:=hw0.symm;subst hw0;first | rw [hP] | rw [hQ])
      | (at_builtin;refine wpList_append_row rfl _ _ rfl wb.heap.size _ _ (oppI c k) [negB k] rfl rfl (OwnsC.below hO1 (below_alloc w1 (.cells #[.int .u32 0,.int .u32 ((bitF k).val:Int)] 38))) (row_neg _ _) (by simp;omega) (Nat.le_trans hny1.size (by simp)) ?_;intro v4 w4 hO4 hg4 hv4;have hB4:=(chain hny1 (below_alloc w1 (.cells #[.int .u32 0,.int .u32 ((bitF k).val:Int)] 38))).trans (own_grown (OwnsC.below hO1 (below_alloc w1 (.cells #[.int .u32 0,.int .u32 ((bitF k).val:Int)] 38))) hg4 (Nat.le_trans hny1.size (by simp)));have hA4:=HA.out.below hB4;have y0:=hA4.1;have y1:=hA4.2.1)
      | (at_builtin;refine wpList_append_row rfl _ _ rfl wb.heap.size _ _ (oppI c k ++ [negB k]) [posB k] rfl rfl (OwnsC.below hO4 (below_alloc w4 (.cells #[.int .u32 ((bitF k).val:Int),.int .u32 0] 38))) (row_pos _ _) (by simp;omega) (Nat.le_trans hB4.size (by simp)) ?_;intro v5 w5 hO5 hg5 hv5;have hB5:=(chain hB4 (below_alloc w4 (.cells #[.int .u32 ((bitF k).val:Int),.int .u32 0] 38))).trans (own_grown (OwnsC.below hO4 (below_alloc w4 (.cells #[.int .u32 ((bitF k).val:Int),.int .u32 0] 38))) hg5 (Nat.le_trans hB4.size (by simp)))))
     go_roundw
     case rel=>exact⟨k+1,by omega,by go_num,by rw [HJ.out];simpa using hO5,hB5⟩
     case measure=>simp [intOf];omega
  ·obtain rfl:k=24:=by omega
   have cL:=refleastC _ _ wr (OwnsC.row hO) (by omega)
   rw [HT.out] at cL
   obtain⟨p9,q9,rfl⟩:=OwnsC.len hO
   go_wp2_with fail
   refine cL.mono ?_
   rintro e w3 ⟨v3,rfl,hO3,hB3⟩
   clear cL
   go_wp2
   go_ret
   exact⟨_,rfl,OwnsC.mono hO3 (chain hB hny).size,chain (chain hB hny) hB3⟩
theorem rNot_any (l:List C) (a:Value) (w:World) (ha:CRow w a l) (hl:l.length<=40000) :
  Calls Tryz.prog 244 #[a] w fun e w'=>∃ v,e=.returned (.tuple #[v,.int .i64 (notF l).2])/\OwnsC w' w.heap.size v (notF l).1/\Below w.heap.size w w':=by
 have c1:=rfright_any l a w ha (by omega)
 have Ha:Hid (∀ w1,Below w.heap.size w w1->CRow w1 a l):=fun w1 h=>ha.below h
 have HJ:Hid (notF l=if rightF l then notR l else ([],2)):=rfl
 obtain⟨pa,ca,rfl⟩:=ha.len
 clear ha
 obtain⟨n,hn⟩:∃ n,n=l.length:=⟨_,rfl⟩
 have Hn:Hid (n=l.length):=hn
 rw [<- hn] at hl Ha c1 ⊢
 clear hn
 cases hf:rightF l
 ·rw [hf] at c1 HJ
  go_enter Tryz.func244,Tryz.ntmps244
  go_wp2_with fail
  refine c1.mono ?_
  rintro e w1 ⟨rfl,hB1⟩
  clear c1
  go_wp2
  go_ret2
  rw [HJ.out]
  exact⟨_,rfl,World.ownsRow_nil _ _ _ _,hB1⟩
 ·rw [hf] at c1 HJ
  have HJ2:Hid (notF l=notR l):=HJ.out
  clear HJ hf
  go_enter Tryz.func244,Tryz.ntmps244
  go_wp2_with fail
  refine c1.mono ?_
  rintro e w1 ⟨rfl,hB1⟩
  clear c1
  go_wp2_with fail
  go_loopw [4,5,6] (fun v er i wr=>∃ k:Nat,k<=n/\i=.int .i64 k/\er=.int .i64 (notR (l.take k)).2/\OwnsC wr w.heap.size v (notR (l.take k)).1/\Below w.heap.size w wr) (fun _ _ i _=>n - (intOf i).toNat)
  case atStart=>exact⟨0,Nat.zero_le _,rfl,rfl,own_one1 w1 top0 _ hB1.size,chain hB1 (below_alloc _ _)⟩
  case round =>
   obtain⟨k,hk,rfl,rfl,hO,hny⟩:=hrel
   have HStep:Hid (∀ c,l[k]? = some c->(notR (l.take k)).2=0->notR (l.take (k+1))=meetR (notR (l.take k)).1 (turnF c)):=fun c h h0=>notR_take_step h h0
   have HStuck:Hid ((notR (l.take k)).2≠0->notR l=notR (l.take k)):=fun h=>(notR_stuck k h).trans ((notR_cases (l.take k)).resolve_left (fun x=>h x.1)).symm
   have HRk:Hid (rightF (notR (l.take k)).1=true):=notR_right _
   generalize hP:notR (l.take k)=P at hO HStep HStuck HRk ⊢
   have HP:Hid (notR (l.take k)=P):=hP
   clear hP
   obtain⟨M,er⟩:=P
   dsimp only at hO HStep HStuck HRk ⊢
   by_cases hlt:k<n
   ·by_cases h0:er=0
    ·subst h0
     obtain⟨c,hck⟩:=get_some (l:=l) (k:=k) (by rw [<- Hn.out];exact hlt)
     obtain⟨g,off,rfl,hg,x0,x1⟩:=(Ha.out _ hny).at hck
     have HN:Hid (notR (l.take (k+1))=meetR M (turnF c)):=HStep.out c hck rfl
     have cT:=turned_any c wr
     clear hck
     obtain⟨p9,q9,rfl⟩:=OwnsC.len hO
     go_wp2_with fail
     refine cT.mono ?_
     rintro e w2 ⟨v2,rfl,hO2,hB2⟩
     clear cT
     have cM:=rMeet_ok M (turnF c) _ v2 w2 ((OwnsC.row hO).below hB2) (OwnsC.row hO2) HRk.out (turn_right c)
     obtain⟨p8,q8,rfl⟩:=OwnsC.len hO2
     go_wp2_with fail
     refine cM.mono ?_
     rintro e w3 ⟨v3,rfl,hO3,hB3⟩
     clear cM
     have hB3':=chain (chain hny hB2) hB3
     go_wp2
     go_roundw
     case rel=>exact⟨k+1,by omega,by go_num,by rw [HN.out],by rw [HN.out];exact OwnsC.mono hO3 (chain hny hB2).size,hB3'⟩
     case measure=>simp [intOf];omega
    ·have HE:Hid (notR l=(M,er)):=HStuck.out h0
     obtain⟨p9,q9,rfl⟩:=OwnsC.len hO
     go_wp2
     go_ret2
     rw [HJ2.out,HE.out]
     exact⟨_,rfl,hO,hny⟩
   ·obtain rfl:k=n:=by omega
    have HE:Hid (notR l=(M,er)):=by
     have h:=HP.out
     rwa [List.take_of_length_le (by rw [<- Hn.out];exact Nat.le_refl _)] at h
    obtain⟨p9,q9,rfl⟩:=OwnsC.len hO
    go_wp2
    go_ret2
    rw [HJ2.out,HE.out]
    exact⟨_,rfl,hO,hny⟩
theorem rLift_any (l:List C) (fr by_:Int) (a:Value) (w:World) (ha:CRow w a l) (hl:l.length<=40000) :
  Calls Tryz.prog 122 #[a,.int .i64 fr,.int .i64 by_] w fun e w'=>∃ v,e=.returned (.tuple #[v,.int .i64 (liftFF l fr by_).2])/\OwnsC w' w.heap.size v (liftFF l fr by_).1/\Below w.heap.size w w':=by
 have c1:=rfright_any l a w ha (by omega)
 have Ha:Hid (∀ w1,Below w.heap.size w w1->CRow w1 a l):=fun w1 h=>ha.below h
 have HJ:Hid (liftFF l fr by_=if rightF l then (if (liftS l fr by_).2=0 then leastF (liftS l fr by_).1 else ([],(liftS l fr by_).2)) else ([],2)):=rfl
 obtain⟨pa,ca,rfl⟩:=ha.len
 clear ha
 obtain⟨n,hn⟩:∃ n,n=l.length:=⟨_,rfl⟩
 have Hn:Hid (n=l.length):=hn
 rw [<- hn] at hl Ha c1 ⊢
 clear hn
 cases hf:rightF l
 ·rw [hf] at c1 HJ
  go_enter Tryz.func122,Tryz.ntmps122
  go_wp2_with fail
  refine c1.mono ?_
  rintro e w1 ⟨rfl,hB1⟩
  clear c1
  go_wp2
  go_ret2
  rw [HJ.out]
  exact⟨_,rfl,World.ownsRow_nil _ _ _ _,hB1⟩
 ·rw [hf] at c1 HJ
  go_enter Tryz.func122,Tryz.ntmps122
  go_wp2_with fail
  refine c1.mono ?_
  rintro e w1 ⟨rfl,hB1⟩
  clear c1
  go_wp2_with fail
  go_loopw [8,9] (fun v i wr=>∃ k:Nat,k<=n/\i=.int .i64 k/\(liftS (l.take k) fr by_).2=0/\OwnsC wr w.heap.size v (liftS (l.take k) fr by_).1/\Below w.heap.size w wr) (fun _ i _=>n - (intOf i).toNat)
  case atStart=>exact⟨0,Nat.zero_le _,rfl,rfl,World.ownsRow_nil _ _ _ _,hB1⟩
  case round =>
   obtain⟨k,hk,rfl,hz,hO,hny⟩:=hrel
   have HZ:Hid ((liftS (l.take k) fr by_).2=0):=hz
   clear hz
   have hlen:=liftS_len (l.take k) fr by_
   have hlen2:(l.take k).length<=n:=by rw [List.length_take,<- Hn.out];omega
   by_cases hlt:k<n
   ·obtain⟨c,hck⟩:=get_some (l:=l) (k:=k) (by rw [<- Hn.out];exact hlt)
    obtain⟨g,off,rfl,hg,x0,x1⟩:=(Ha.out _ hny).at hck
    have HS:Hid (liftS (l.take (k+1)) fr by_=if liftCE c fr by_=0 then ((liftS (l.take k) fr by_).1 ++ [liftC c fr by_],0) else ([],liftCE c fr by_)):=liftS_take_step hck HZ.out
    have HK:Hid ((liftS (l.take (k+1)) fr by_).2≠0->liftS l fr by_=liftS (l.take (k+1)) fr by_):=fun h=>liftS_stuck (k+1) h
    have HL:Hid ((liftS (l.take k) fr by_).1.length + [liftC c fr by_].length<=200000):=by show (liftS (l.take k) fr by_).1.length+1<=200000;omega
    clear hck
    obtain⟨p9,q9,rfl⟩:=OwnsC.len hO
    have cL:=refclift_any c fr by_ wr
    generalize liftC c fr by_=d at cL HS HL
    generalize liftCE c fr by_=er at cL HS
    go_wp2_with fail
    refine cL.mono ?_
    rintro e w2 ⟨rfl,hB2⟩
    clear cL
    have hB02:=chain hny hB2
    have hO2:=OwnsC.below hO hB2
    by_cases h0:er=0
    ·subst h0
     have HS2:Hid (liftS (l.take (k+1)) fr by_=((liftS (l.take k) fr by_).1 ++ [d],0)):=HS.out
     go_wp2_with (at_builtin;refine wpList_append_row rfl _ _ rfl w.heap.size _ _ _ [d] rfl rfl (OwnsC.below (OwnsC.below hO2 (below_alloc w2 (.cells #[.int .u32 (d.1.val:Int),.int .u32 (d.2.val:Int)] 38))) (below_alloc _ _)) (row_one1 _ _ _) HL.out (Nat.le_trans hB02.size (by simp;omega)) ?_;intro v4 w4 hO4 hg4 hv4)
     have bX:=chain hB02 (chain (below_alloc w2 (.cells #[.int .u32 (d.1.val:Int),.int .u32 (d.2.val:Int)] 38)) (below_alloc _ (.cells #[.int .u32 (d.1.val:Int),.int .u32 (d.2.val:Int)] 38)))
     have hOX:=OwnsC.below (OwnsC.below hO2 (below_alloc w2 (.cells #[.int .u32 (d.1.val:Int),.int .u32 (d.2.val:Int)] 38))) (below_alloc _ (.cells #[.int .u32 (d.1.val:Int),.int .u32 (d.2.val:Int)] 38))
     have hBB:=bX.trans (own_grown hOX hg4 bX.size)
     go_roundw
     case rel=>exact⟨k+1,by omega,by go_num,by rw [HS2.out],by rw [HS2.out];exact hO4,hBB⟩
     case measure=>simp [intOf];omega
    ·have HS2:Hid (liftS (l.take (k+1)) fr by_=([],er)):=HS.out.trans (if_neg h0)
     have HE:Hid (liftFF l fr by_=([],er)):=by
      have h1:liftS l fr by_=([],er):=(HK.out (by rw [HS2.out];exact h0)).trans HS2.out
      show liftFF l fr by_=([],er)
      rw [HJ.out,h1]
      simp [h0]
     go_wp2
     go_ret2
     rw [HE.out]
     exact⟨_,rfl,World.ownsRow_nil _ _ _ _,chain hB02 (below_alloc _ _)⟩
   ·obtain rfl:k=n:=by omega
    have e:l.take k=l:=List.take_of_length_le (by rw [<- Hn.out];exact Nat.le_refl _)
    rw [e] at hO hlen HZ
    have HE:Hid (liftFF l fr by_=leastF (liftS l fr by_).1):=HJ.out.trans (by simp [HZ.out])
    have cL:=refleastC _ _ wr (OwnsC.row hO) (by rw [<- Hn.out] at hlen;omega)
    obtain⟨p9,q9,rfl⟩:=OwnsC.len hO
    go_wp2_with fail
    refine cL.mono ?_
    rintro e w3 ⟨v3,rfl,hO3,hB3⟩
    clear cL
    go_wp2
    go_ret2
    rw [HE.out]
    exact⟨_,rfl,OwnsC.mono hO3 hny.size,chain hny hB3⟩
theorem At.next {W W':World} {g:Nat} {c:C} (hb:Below W.heap.size W W') (hg:g<W.heap.size) (h:W.cell? ⟨g,0,none⟩=some (.int .u32 (c.1.val:Int))/\W.cell? ⟨g,1,none⟩=some (.int .u32 (c.2.val:Int))):W'.cell? ⟨g,0,none⟩=some (.int .u32 (c.1.val:Int))/\W'.cell? ⟨g,1,none⟩=some (.int .u32 (c.2.val:Int)) :=
 ⟨(hb.cell (p:=⟨g,0,none⟩) hg).trans h.1,(hb.cell (p:=⟨g,1,none⟩) hg).trans h.2⟩
theorem rPut_ok (l r:List C) (i:Int) (vl vr:Value) (w:World) (hl:CRow w vl l) (hr:CRow w vr r) (hf:rightF l=true) (hg:rightF r=true) (hi0:¬ i<0) (hi1:¬ 24<=i) :
  Calls Tryz.prog 209 #[vl,.int .i64 i,vr] w fun e w'=>∃ v,e=.returned (.tuple #[v,.int .i64 (putR l i r).2])/\OwnsC w' w.heap.size v (putR l i r).1/\Below w.heap.size w w':=by
 have hll:=rightF_len hf
 have hrl:=rightF_len hg
 have c1:=rfright_any l vl w hl (by omega)
 have c2:=fun W (h:Below w.heap.size w W)=>rfright_any r vr W (hr.below h) (by omega)
 have cN:=fun W (h:Below w.heap.size w W)=>rNot_any r vr W (hr.below h) (by omega)
 have hNF:notF r=notR r:=by unfold notF;rw [hg];rfl
 rw [hf] at c1
 simp only [hg] at c2
 simp only [hNF] at cN
 have tS:=Told.not r
 have HJ:Hid (putR l i r=putS l i r (notR r)):=rfl
 have Hl:Hid (∀ w1,Below w.heap.size w w1->CRow w1 vl l):=fun w1 h=>hl.below h
 have Hr:Hid (∀ w1,Below w.heap.size w w1->CRow w1 vr r):=fun w1 h=>hr.below h
 have rR:Hid (rightF r=true):=hg
 obtain⟨pl,cl,rfl⟩:=hl.len
 obtain⟨pr,cr,rfl⟩:=hr.len
 clear hl hr hf hg hNF
 generalize notR r=S at cN tS HJ
 obtain⟨N,se⟩:=S
 dsimp only at cN
 have rN:Hid (rightF N=true):=tS.right
 have TS:Hid (Told (N,se)):=tS
 clear tS
 obtain⟨n,hn⟩:∃ n,n=l.length:=⟨_,rfl⟩
 have Hn:Hid (n=l.length):=hn
 rw [<- hn] at hll Hl c1 ⊢
 clear hn
 go_enter Tryz.func209,Tryz.ntmps209
 go_wp2_with fail
 refine c1.mono ?_
 rintro e w1 ⟨rfl,hB1⟩
 clear c1
 replace c2:=c2 w1 hB1
 go_wp2_with fail
 refine c2.mono ?_
 rintro e w2 ⟨rfl,hB2⟩
 clear c2
 have hB:=chain hB1 hB2
 go_wp2_with fail
 go_loopw [8,9] (fun v j wr=>∃ k:Nat,k<=n/\j=.int .i64 k/\(putS (l.take k) i r (N,se)).2=0/\OwnsC wr w.heap.size v (putS (l.take k) i r (N,se)).1/\Below w.heap.size w wr) (fun _ j _=>n - (intOf j).toNat)
 case atStart=>exact⟨0,Nat.zero_le _,rfl,rfl,World.ownsRow_nil _ _ _ _,hB⟩
 case round =>
  obtain⟨k,hk,rfl,hz,hO,hny⟩:=hrel
  have HZ:Hid ((putS (l.take k) i r (N,se)).2=0):=hz
  have HRM:Hid (rightF (putS (l.take k) i r (N,se)).1=true):=(Told.put (l.take k) i r TS.out).right
  clear hz hB
  by_cases hlt:k<n
  ·obtain⟨c,hck⟩:=get_some (l:=l) (k:=k) (by rw [<- Hn.out];exact hlt)
   obtain⟨g,off,rfl,hg,x0,x1⟩:=(Hl.out _ hny).at hck
   have HStep:Hid (putS (l.take (k+1)) i r (N,se)=stepP i r (N,se) ((putS (l.take k) i r (N,se)).1,0) c):=putS_take_step hck HZ.out
   have HStuck:Hid ((putS (l.take (k+1)) i r (N,se)).2≠0->putS (l.take (k+1)) i r (N,se)=([],3)/\putS l i r (N,se)=([],3)):=fun h=>⟨(Told.put (l.take (k+1)) i r TS.out).no h,putS_stuck TS.out (k+1) h⟩
   have hc1:=c.1.isLt
   have hc2:=c.2.isLt
   clear hck
   generalize (putS (l.take k) i r (N,se)).1=M at hO HRM HStep
   have rM:rightF M=true:=HRM.out
   have hMl:=rightF_len rM
   have hAb:=At.made wr c 38
   have hBb:=below_alloc wr (.cells #[.int .u32 (c.1.val:Int),.int .u32 (c.2.val:Int)] 38)
   obtain⟨pM,qM,rfl⟩:=OwnsC.len hO
   go_wp2
   generalize wr.alloc (.cells #[.int .u32 (c.1.val:Int),.int .u32 (c.2.val:Int)] 38)=wb at hAb hBb ⊢
   obtain⟨z0,z1,z2⟩:=hAb
   have hBk:Below wb.heap.size wb wb.drew:=below_drew wb
   go_region_held3 (fun w'=>w'.cell? ⟨wr.heap.size,0,none⟩=some (.int .u32 (c.1.val:Int))/\w'.cell? ⟨wr.heap.size,1,none⟩=some (.int .u32 (c.2.val:Int))) (first | (exact At.next hBk z2 ⟨z0,z1⟩) | go_keep)
    (first | (go_at_call 238;refine (refWithout_any _ _ _ (by assumption)).mono ?_;rintro e w5 ⟨rfl,hB5⟩;replace hBk:=chain hBk hB5))
   go_wp2_with fail
   have hA7:=(At.below ⟨z0,z1,z2⟩ (chain hBk (below_alloc w5 (.cells #[.int .u32 (withoutN c.1.val i:Nat),.int .u32 (withoutN c.2.val i:Nat)] 38))))
   have hB7:=chain (chain hny hBb) (chain hBk (below_alloc w5 (.cells #[.int .u32 (withoutN c.1.val i:Nat),.int .u32 (withoutN c.2.val i:Nat)] 38)))
   have hOM:=OwnsC.below hO (chain hBb (chain hBk (below_alloc w5 (.cells #[.int .u32 (withoutN c.1.val i:Nat),.int .u32 (withoutN c.2.val i:Nat)] 38))))
   have hOg:OwnsC (w5.alloc (.cells #[.int .u32 (withoutN c.1.val i:Nat),.int .u32 (withoutN c.2.val i:Nat)] 38)) w.heap.size (.slice (some ⟨w5.heap.size,0,none⟩) 1 1) [outC c i]:=own_one1 w5 (outC c i) _ (chain (chain hny hBb) hBk).size
   generalize hw7:w5.alloc (.cells #[.int .u32 (withoutN c.1.val i:Nat),.int .u32 (withoutN c.2.val i:Nat)] 38)=w7 at hA7 hB7 hOM hOg ⊢
   clear hw7 z0 z1
   have z0:=hA7.1
   have z1:=hA7.2.1
   have hbb:=hBb
   cases hp:hasB c.1.val i
   ·have HA:Hid (partA c i r=([outC c i],0)):=by show partA c i r=([outC c i],0);unfold partA;rw [hp];simp
    cases hq:hasB c.2.val i
    ·have HF:Hid (partF c i r (N,se)=([outC c i],0)):=by show partF c i r (N,se)=([outC c i],0);unfold partF;rw [HA.out,hq];simp
     have rG:rightF ([outC c i])=true:=(rightF_one (out_right c i))
     go_wp2_with (go_at_call 206;refine (refHas_any _ _ _ (by assumption)).mono ?_;rintro e w0 ⟨rfl,hw0⟩;replace hw0:=hw0.symm;subst hw0;first | rw [hp] | rw [hq])
     have cJ:=rJoin_any M ([outC c i]) _ _ w7 (OwnsC.row hOM) (OwnsC.row hOg) (by omega) (by have:=rightF_len rG;omega)
     rw [joinF_ok rM rG] at cJ
     have HST:Hid (putS (l.take (k+1)) i r (N,se)=joinR M ([outC c i])):=HStep.out.trans (by rw [stepP_some,HF.out];simp)
     generalize joinR M ([outC c i])=PJ at cJ HST
     obtain⟨J,je⟩:=PJ
     dsimp only at cJ HST
     refine cJ.mono ?_
     rintro e w20 ⟨v20,rfl,hO20,hB20⟩
     clear cJ
     have hBf:=chain hB7 hB20
     obtain⟨p20,q20,rfl⟩:=OwnsC.len hO20
     by_cases j0:je=0
     ·subst j0
      go_wp2
      go_roundw
      case rel=>exact⟨k+1,by omega,by go_num,by rw [HST.out],by rw [HST.out];exact OwnsC.mono hO20 hB7.size,hBf⟩
      case measure=>simp [intOf];omega
     ·have HE:=HStuck.out (by rw [HST.out];exact j0)
      have h3:je=3:=by have:=HST.out;rw [HE.1] at this;injection this with _ h;exact h.symm
      have HE2:Hid (putS l i r (N,se)=([],3)):=HE.2
      subst h3
      go_wp2
      go_ret2
      rw [HJ.out,HE2.out]
      exact⟨_,rfl,World.ownsRow_nil _ _ _ _,hBf⟩
    ·have cN2:=cN w7 hB7
     go_wp2_with (go_at_call 206;refine (refHas_any _ _ _ (by assumption)).mono ?_;rintro e w0 ⟨rfl,hw0⟩;replace hw0:=hw0.symm;subst hw0;first | rw [hp] | rw [hq])
     refine cN2.mono ?_
     rintro e w12 ⟨v12,rfl,hO12,hB12⟩
     clear cN2
     replace hB7:=chain hB7 hB12
     replace hOM:=OwnsC.below hOM hB12
     replace hOg:=OwnsC.below hOg hB12
     replace hA7:=hA7.below hB12
     clear z0 z1
     have z0:=hA7.1
     have z1:=hA7.2.1
     obtain⟨p12,q12,rfl⟩:=OwnsC.len hO12
     by_cases s0:se=0
     ·subst s0
      have cM2:=rMeet_ok ([outC c i]) N _ _ w12 (OwnsC.row hOg) (OwnsC.row hO12) ((rightF_one (out_right c i))) rN.out
      have HF:Hid (partF c i r (N,0)=meetR ([outC c i]) N):=by show partF c i r (N,0)=meetR ([outC c i]) N;unfold partF;rw [HA.out,hq];simp
      have tG:Told (meetR ([outC c i]) N):=Told.meet _ _
      generalize meetR ([outC c i]) N=PG at cM2 HF tG
      obtain⟨G,pe⟩:=PG
      dsimp only at cM2 HF
      go_wp2_with (go_at_call 206;refine (refHas_any _ _ _ (by assumption)).mono ?_;rintro e w0 ⟨rfl,hw0⟩;replace hw0:=hw0.symm;subst hw0;first | rw [hp] | rw [hq])
      refine cM2.mono ?_
      rintro e w13 ⟨v13,rfl,hO13,hB13⟩
      clear cM2
      replace hB7:=chain hB7 hB13
      replace hOM:=OwnsC.below hOM hB13
      replace hOg:=OwnsC.below hOg hB13
      replace hA7:=hA7.below hB13
      clear z0 z1
      have z0:=hA7.1
      have z1:=hA7.2.1
      obtain⟨p13,q13,rfl⟩:=OwnsC.len hO13
      by_cases pe0:pe=0
      ·subst pe0
       have rG:rightF G=true:=tG.right
       go_wp2_with fail
       have cJ:=rJoin_any M G _ _ w13 (OwnsC.row hOM) (OwnsC.row hO13) (by omega) (by have:=rightF_len rG;omega)
       rw [joinF_ok rM rG] at cJ
       have HST:Hid (putS (l.take (k+1)) i r (N,0)=joinR M G):=HStep.out.trans (by rw [stepP_some,HF.out];simp)
       generalize joinR M G=PJ at cJ HST
       obtain⟨J,je⟩:=PJ
       dsimp only at cJ HST
       refine cJ.mono ?_
       rintro e w20 ⟨v20,rfl,hO20,hB20⟩
       clear cJ
       have hBf:=chain hB7 hB20
       obtain⟨p20,q20,rfl⟩:=OwnsC.len hO20
       by_cases j0:je=0
       ·subst j0
        go_wp2
        go_roundw
        case rel=>exact⟨k+1,by omega,by go_num,by rw [HST.out],by rw [HST.out];exact OwnsC.mono hO20 hB7.size,hBf⟩
        case measure=>simp [intOf];omega
       ·have HE:=HStuck.out (by rw [HST.out];exact j0)
        have h3:je=3:=by have:=HST.out;rw [HE.1] at this;injection this with _ h;exact h.symm
        have HE2:Hid (putS l i r (N,0)=([],3)):=HE.2
        subst h3
        go_wp2
        go_ret2
        rw [HJ.out,HE2.out]
        exact⟨_,rfl,World.ownsRow_nil _ _ _ _,hBf⟩
      ·skip
       have HST:Hid (putS (l.take (k+1)) i r (N,0)=([],pe)):=HStep.out.trans (by rw [stepP_some,HF.out];simp [pe0])
       have HE:=HStuck.out (by rw [HST.out];exact pe0)
       have h3:pe=3:=by have:=HST.out;rw [HE.1] at this;injection this with _ h;exact h.symm
       have HE2:Hid (putS l i r (N,0)=([],3)):=HE.2
       subst h3
       go_wp2_with (go_at_call 206;refine (refHas_any _ _ _ (by assumption)).mono ?_;rintro e w0 ⟨rfl,hw0⟩;replace hw0:=hw0.symm;subst hw0;first | rw [hp] | rw [hq])
       go_ret2
       rw [HJ.out,HE2.out]
       exact⟨_,rfl,World.ownsRow_nil _ _ _ _,hB7⟩
     ·have HF:Hid (partF c i r (N,se)=([],se)):=by show partF c i r (N,se)=([],se);unfold partF;rw [HA.out,hq];simp [s0]
      have pe0:se≠0:=s0
      have HST:Hid (putS (l.take (k+1)) i r (N,se)=([],se)):=HStep.out.trans (by rw [stepP_some,HF.out];simp [pe0])
      have HE:=HStuck.out (by rw [HST.out];exact pe0)
      have h3:se=3:=by have:=HST.out;rw [HE.1] at this;injection this with _ h;exact h.symm
      have HE2:Hid (putS l i r (N,se)=([],3)):=HE.2
      subst h3
      go_wp2_with (go_at_call 206;refine (refHas_any _ _ _ (by assumption)).mono ?_;rintro e w0 ⟨rfl,hw0⟩;replace hw0:=hw0.symm;subst hw0;first | rw [hp] | rw [hq])
      go_ret2
      rw [HJ.out,HE2.out]
      exact⟨_,rfl,World.ownsRow_nil _ _ _ _,hB7⟩
   ·have cM1:=rMeet_ok [outC c i] r _ _ w7 (OwnsC.row hOg) (Hr.out w7 hB7) (rightF_one (out_right c i)) rR.out
    have HA0:Hid (partA c i r=meetR [outC c i] r):=by show partA c i r=meetR [outC c i] r;unfold partA;rw [hp];simp
    have tA:Told (meetR [outC c i] r):=Told.meet _ _
    generalize meetR [outC c i] r=PA at cM1 HA0 tA
    obtain⟨A,ae⟩:=PA
    dsimp only at cM1 HA0
    go_wp2_with (go_at_call 206;refine (refHas_any _ _ _ (by assumption)).mono ?_;rintro e w0 ⟨rfl,hw0⟩;replace hw0:=hw0.symm;subst hw0;first | rw [hp] | rw [hq])
    refine cM1.mono ?_
    rintro e w9 ⟨v9,rfl,hO9,hB9⟩
    clear cM1
    replace hB7:=chain hB7 hB9
    replace hOM:=OwnsC.below hOM hB9
    replace hOg:=OwnsC.below hOg hB9
    replace hA7:=hA7.below hB9
    clear z0 z1
    have z0:=hA7.1
    have z1:=hA7.2.1
    obtain⟨p9,q9,rfl⟩:=OwnsC.len hO9
    by_cases a0:ae=0
    ·subst a0
     have rA:rightF A=true:=tA.right
     cases hq:hasB c.2.val i
     ·have HF:Hid (partF c i r (N,se)=(A,0)):=by show partF c i r (N,se)=(A,0);unfold partF;rw [HA0.out,hq];simp
      have rG:rightF (A)=true:=rA
      go_wp2_with (go_at_call 206;refine (refHas_any _ _ _ (by assumption)).mono ?_;rintro e w0 ⟨rfl,hw0⟩;replace hw0:=hw0.symm;subst hw0;first | rw [hp] | rw [hq])
      have cJ:=rJoin_any M (A) _ _ w9 (OwnsC.row hOM) (OwnsC.row hO9) (by omega) (by have:=rightF_len rG;omega)
      rw [joinF_ok rM rG] at cJ
      have HST:Hid (putS (l.take (k+1)) i r (N,se)=joinR M (A)):=HStep.out.trans (by rw [stepP_some,HF.out];simp)
      generalize joinR M (A)=PJ at cJ HST
      obtain⟨J,je⟩:=PJ
      dsimp only at cJ HST
      refine cJ.mono ?_
      rintro e w20 ⟨v20,rfl,hO20,hB20⟩
      clear cJ
      have hBf:=chain hB7 hB20
      obtain⟨p20,q20,rfl⟩:=OwnsC.len hO20
      by_cases j0:je=0
      ·subst j0
       go_wp2
       go_roundw
       case rel=>exact⟨k+1,by omega,by go_num,by rw [HST.out],by rw [HST.out];exact OwnsC.mono hO20 hB7.size,hBf⟩
       case measure=>simp [intOf];omega
      ·have HE:=HStuck.out (by rw [HST.out];exact j0)
       have h3:je=3:=by have:=HST.out;rw [HE.1] at this;injection this with _ h;exact h.symm
       have HE2:Hid (putS l i r (N,se)=([],3)):=HE.2
       subst h3
       go_wp2
       go_ret2
       rw [HJ.out,HE2.out]
       exact⟨_,rfl,World.ownsRow_nil _ _ _ _,hBf⟩
     ·have cN2:=cN w9 hB7
      go_wp2_with (go_at_call 206;refine (refHas_any _ _ _ (by assumption)).mono ?_;rintro e w0 ⟨rfl,hw0⟩;replace hw0:=hw0.symm;subst hw0;first | rw [hp] | rw [hq])
      refine cN2.mono ?_
      rintro e w12 ⟨v12,rfl,hO12,hB12⟩
      clear cN2
      replace hB7:=chain hB7 hB12
      replace hOM:=OwnsC.below hOM hB12
      replace hO9:=OwnsC.below hO9 hB12
      replace hA7:=hA7.below hB12
      clear z0 z1
      have z0:=hA7.1
      have z1:=hA7.2.1
      obtain⟨p12,q12,rfl⟩:=OwnsC.len hO12
      by_cases s0:se=0
      ·subst s0
       have cM2:=rMeet_ok (A) N _ _ w12 (OwnsC.row hO9) (OwnsC.row hO12) (rA) rN.out
       have HF:Hid (partF c i r (N,0)=meetR (A) N):=by show partF c i r (N,0)=meetR (A) N;unfold partF;rw [HA0.out,hq];simp
       have tG:Told (meetR (A) N):=Told.meet _ _
       generalize meetR (A) N=PG at cM2 HF tG
       obtain⟨G,pe⟩:=PG
       dsimp only at cM2 HF
       go_wp2_with (go_at_call 206;refine (refHas_any _ _ _ (by assumption)).mono ?_;rintro e w0 ⟨rfl,hw0⟩;replace hw0:=hw0.symm;subst hw0;first | rw [hp] | rw [hq])
       refine cM2.mono ?_
       rintro e w13 ⟨v13,rfl,hO13,hB13⟩
       clear cM2
       replace hB7:=chain hB7 hB13
       replace hOM:=OwnsC.below hOM hB13
       replace hO9:=OwnsC.below hO9 hB13
       replace hA7:=hA7.below hB13
       clear z0 z1
       have z0:=hA7.1
       have z1:=hA7.2.1
       obtain⟨p13,q13,rfl⟩:=OwnsC.len hO13
       by_cases pe0:pe=0
       ·subst pe0
        have rG:rightF G=true:=tG.right
        go_wp2_with fail
        have cJ:=rJoin_any M G _ _ w13 (OwnsC.row hOM) (OwnsC.row hO13) (by omega) (by have:=rightF_len rG;omega)
        rw [joinF_ok rM rG] at cJ
        have HST:Hid (putS (l.take (k+1)) i r (N,0)=joinR M G):=HStep.out.trans (by rw [stepP_some,HF.out];simp)
        generalize joinR M G=PJ at cJ HST
        obtain⟨J,je⟩:=PJ
        dsimp only at cJ HST
        refine cJ.mono ?_
        rintro e w20 ⟨v20,rfl,hO20,hB20⟩
        clear cJ
        have hBf:=chain hB7 hB20
        obtain⟨p20,q20,rfl⟩:=OwnsC.len hO20
        by_cases j0:je=0
        ·subst j0
         go_wp2
         go_roundw
         case rel=>exact⟨k+1,by omega,by go_num,by rw [HST.out],by rw [HST.out];exact OwnsC.mono hO20 hB7.size,hBf⟩
         case measure=>simp [intOf];omega
        ·have HE:=HStuck.out (by rw [HST.out];exact j0)
         have h3:je=3:=by have:=HST.out;rw [HE.1] at this;injection this with _ h;exact h.symm
         have HE2:Hid (putS l i r (N,0)=([],3)):=HE.2
         subst h3
         go_wp2
         go_ret2
         rw [HJ.out,HE2.out]
         exact⟨_,rfl,World.ownsRow_nil _ _ _ _,hBf⟩
       ·skip
        have HST:Hid (putS (l.take (k+1)) i r (N,0)=([],pe)):=HStep.out.trans (by rw [stepP_some,HF.out];simp [pe0])
        have HE:=HStuck.out (by rw [HST.out];exact pe0)
        have h3:pe=3:=by have:=HST.out;rw [HE.1] at this;injection this with _ h;exact h.symm
        have HE2:Hid (putS l i r (N,0)=([],3)):=HE.2
        subst h3
        go_wp2_with (go_at_call 206;refine (refHas_any _ _ _ (by assumption)).mono ?_;rintro e w0 ⟨rfl,hw0⟩;replace hw0:=hw0.symm;subst hw0;first | rw [hp] | rw [hq])
        go_ret2
        rw [HJ.out,HE2.out]
        exact⟨_,rfl,World.ownsRow_nil _ _ _ _,hB7⟩
      ·have HF:Hid (partF c i r (N,se)=([],se)):=by show partF c i r (N,se)=([],se);unfold partF;rw [HA0.out,hq];simp [s0]
       have pe0:se≠0:=s0
       have HST:Hid (putS (l.take (k+1)) i r (N,se)=([],se)):=HStep.out.trans (by rw [stepP_some,HF.out];simp [pe0])
       have HE:=HStuck.out (by rw [HST.out];exact pe0)
       have h3:se=3:=by have:=HST.out;rw [HE.1] at this;injection this with _ h;exact h.symm
       have HE2:Hid (putS l i r (N,se)=([],3)):=HE.2
       subst h3
       go_wp2_with (go_at_call 206;refine (refHas_any _ _ _ (by assumption)).mono ?_;rintro e w0 ⟨rfl,hw0⟩;replace hw0:=hw0.symm;subst hw0;first | rw [hp] | rw [hq])
       go_ret2
       rw [HJ.out,HE2.out]
       exact⟨_,rfl,World.ownsRow_nil _ _ _ _,hB7⟩
    ·have HF:Hid (partF c i r (N,se)=([],ae)):=by
      have h3:=tA.no a0
      show partF c i r (N,se)=([],ae)
      injection h3 with h4 h5
      unfold partF;rw [HA0.out];simp [a0,h4]
     have pe0:ae≠0:=a0
     have HST:Hid (putS (l.take (k+1)) i r (N,se)=([],ae)):=HStep.out.trans (by rw [stepP_some,HF.out];simp [pe0])
     have HE:=HStuck.out (by rw [HST.out];exact pe0)
     have h3:ae=3:=by have:=HST.out;rw [HE.1] at this;injection this with _ h;exact h.symm
     have HE2:Hid (putS l i r (N,se)=([],3)):=HE.2
     subst h3
     go_wp2_with (go_at_call 206;refine (refHas_any _ _ _ (by assumption)).mono ?_;rintro e w0 ⟨rfl,hw0⟩;replace hw0:=hw0.symm;subst hw0;first | rw [hp] | rw [hq])
     go_ret2
     rw [HJ.out,HE2.out]
     exact⟨_,rfl,World.ownsRow_nil _ _ _ _,hB7⟩
  ·obtain rfl:k=n:=by omega
   have e:l.take k=l:=List.take_of_length_le (by rw [<- Hn.out];exact Nat.le_refl _)
   rw [e] at hO HZ
   have HE:Hid (putR l i r=((putS l i r (N,se)).1,0)):=HJ.out.trans (by rw [<- HZ.out])
   obtain⟨pM,qM,rfl⟩:=OwnsC.len hO
   go_wp2
   go_ret2
   rw [HE.out]
   exact⟨_,rfl,hO,hny⟩
theorem CRow.kept {w w':World} {v:Value} {l:List C} {row:Option Nat} (h:CRow w v l) (hg:w.grownBy w' row) (hne:v.ownBlock=none\/v.ownBlock≠row):CRow w' v l:=by
 rcases h with h|⟨g,off,cap,rfl,hgl,hc⟩
 ·exact .inl h
 ·have hne2:some g≠row:=by
   rcases hne with h|h
   ·simp [Value.ownBlock] at h
   ·exact h
  exact .inr ⟨g,off,cap,rfl,Nat.lt_of_lt_of_le hgl hg.size,fun j c hj=>⟨(hg.cell_far ⟨g,off+j*2,none⟩ hgl hne2).trans (hc j c hj).1,(hg.cell_far ⟨g,off+j*2+1,none⟩ hgl hne2).trans (hc j c hj).2⟩⟩
theorem rPut_any (l r:List C) (i:Int) (vl vr:Value) (w:World) (hl:CRow w vl l) (hr:CRow w vr r) (hll:l.length<=40000) (hrl:r.length<=40000) :
  Calls Tryz.prog 209 #[vl,.int .i64 i,vr] w fun e w'=>∃ v,e=.returned (.tuple #[v,.int .i64 (putF l i r).2])/\OwnsC w' w.heap.size v (putF l i r).1/\Below w.heap.size w w':=by
 by_cases hok:rightF l=true/\rightF r=true/\¬ i<0/\¬ 24<=i
 ·obtain⟨hf,hg,h0,h1⟩:=hok
  rw [putF_ok hf hg (isDimB_yes (by omega) (by omega))]
  exact rPut_ok l r i vl vr w hl hr hf hg h0 h1
 ·have HJ:Hid (putF l i r=([],2)):=by
   show putF l i r=([],2)
   unfold putF
   refine if_neg fun h=>hok ?_
   simp only [Bool.and_eq_true] at h
   have hd:0<=i/\i<24:=by simpa [isDimB] using h.2
   exact⟨h.1.1,h.1.2,by omega,by omega⟩
  have c1:=rfright_any l vl w hl (by omega)
  have c2:=fun W (h:Below w.heap.size w W)=>rfright_any r vr W (hr.below h) (by omega)
  obtain⟨pl,cl,rfl⟩:=hl.len
  obtain⟨pr,cr,rfl⟩:=hr.len
  clear hl hr
  cases hf:rightF l
  ·rw [hf] at c1
   go_enter Tryz.func209,Tryz.ntmps209
   go_wp2_with fail
   refine c1.mono ?_
   rintro e w1 ⟨rfl,hB1⟩
   clear c1
   go_wp2
   go_ret2
   rw [HJ.out]
   exact⟨_,rfl,World.ownsRow_nil _ _ _ _,hB1⟩
  ·rw [hf] at c1
   cases hg:rightF r
   ·simp only [hg] at c2
    go_enter Tryz.func209,Tryz.ntmps209
    go_wp2_with fail
    refine c1.mono ?_
    rintro e w1 ⟨rfl,hB1⟩
    clear c1
    replace c2:=c2 w1 hB1
    go_wp2_with fail
    refine c2.mono ?_
    rintro e w2 ⟨rfl,hB2⟩
    clear c2
    go_wp2
    go_ret2
    rw [HJ.out]
    exact⟨_,rfl,World.ownsRow_nil _ _ _ _,chain hB1 hB2⟩
   ·simp only [hg] at c2
    have hbad:i<0\/(¬ i<0/\24<=i):=by
     by_cases h0:i<0
     ·exact .inl h0
     ·by_cases h1:24<=i
      ·exact .inr ⟨h0,h1⟩
      ·exact absurd ⟨hf,hg,h0,h1⟩ hok
    clear hok
    rcases hbad with h0|⟨h0,h1⟩
    ·go_enter Tryz.func209,Tryz.ntmps209
     go_wp2_with fail
     refine c1.mono ?_
     rintro e w1 ⟨rfl,hB1⟩
     clear c1
     replace c2:=c2 w1 hB1
     go_wp2_with fail
     refine c2.mono ?_
     rintro e w2 ⟨rfl,hB2⟩
     clear c2
     go_wp2
     go_ret2
     rw [HJ.out]
     exact⟨_,rfl,World.ownsRow_nil _ _ _ _,chain hB1 hB2⟩
    ·go_enter Tryz.func209,Tryz.ntmps209
     go_wp2_with fail
     refine c1.mono ?_
     rintro e w1 ⟨rfl,hB1⟩
     clear c1
     replace c2:=c2 w1 hB1
     go_wp2_with fail
     refine c2.mono ?_
     rintro e w2 ⟨rfl,hB2⟩
     clear c2
     go_wp2
     go_ret2
     rw [HJ.out]
     exact⟨_,rfl,World.ownsRow_nil _ _ _ _,chain hB1 hB2⟩
theorem filt_stepR {l:List C} {k:Nat} {c:C} (p:C->Bool) (h:l[k]? = some c):(l.take (k+1)).filter p=(l.take k).filter p++if p c then [c] else []:=by
 have e:l.take (k+1)=l.take k ++ [c]:=by rw [List.take_add_one,h];rfl
 rw [e,List.filter_append]
 cases hp:p c <;> simp [hp]
theorem filt_lenR (l:List C) (p:C->Bool) (k:Nat):((l.take k).filter p).length<=l.length:=Nat.le_trans (List.length_filter_le _ _) (by rw [List.length_take];omega)
theorem rcalm_any (l:List C) (v:Value) (w:World) (hv:CRow w v l) (hl:l.length<=100000) :
  Calls Tryz.prog 249 #[v] w fun e w'=>∃ v',e=.returned (.tuple #[v',.int .i64 (leastF (calmC l)).2])/\OwnsC w' w.heap.size v' (leastF (calmC l)).1/\Below w.heap.size w w':=by
 have Ha:Hid (∀ W,Below w.heap.size w W->CRow W v l):=fun W h=>hv.below h
 have hfl:=fun k=>filt_lenR l okC k
 have hcl:(calmC l).length<=100000:=Nat.le_trans (calm_len _) hl
 have HK:Hid (l.filter okC=calmC l):=rfl
 obtain⟨pa,ca,rfl⟩:=hv.len
 clear hv
 obtain⟨n,hn⟩:∃ n,n=l.length:=⟨_,rfl⟩
 have Hn:Hid (n=l.length):=hn
 rw [<- hn] at hl Ha hfl ⊢
 clear hn
 go_enter Tryz.func249,Tryz.ntmps249
 go_wp2
 go_loopw [4,5] (fun v i wr=>∃ k:Nat,k<=n/\i=.int .i64 k/\OwnsC wr w.heap.size v ((l.take k).filter okC)/\Below w.heap.size w wr) (fun _ i _=>n - (intOf i).toNat)
 case atStart=>exact⟨0,Nat.zero_le _,rfl,World.ownsRow_nil _ _ _ _,Below.refl _ _⟩
 case round =>
  obtain⟨k,hk,rfl,hO,hny⟩:=hrel
  by_cases hlt:k<n
  ·obtain⟨c,hck⟩:=get_some (l:=l) (k:=k) (by rw [<- Hn.out];exact hlt)
   obtain⟨g,off,rfl,hg,x0,x1⟩:=(Ha.out _ hny).at hck
   have HS:Hid ((l.take (k+1)).filter okC=(l.take k).filter okC++if okC c then [c] else []):=filt_stepR okC hck
   have hlen:Hid (((l.take k).filter okC).length + [c].length<=200000):=by
    have:=hfl k
    show ((l.take k).filter okC).length+1<=200000
    omega
   have HC:Hid (l[k]? = some c):=hck
   clear hck
   have cC:=refclash_any c wr
   cases hcl:clashC c
   ·have HS2:Hid ((l.take (k+1)).filter okC=(l.take k).filter okC ++ [c]):=by
     show _=_
     rw [HS.out];simp [okC,hcl]
    rw [hcl] at cC
    clear HS
    go_wp2_with fail
    refine cC.mono ?_
    rintro e w2 ⟨rfl,hB2⟩
    clear cC
    have hny2:=chain hny hB2
    have hO2:=OwnsC.below hO hB2
    obtain⟨g',off',e',hg',y0,y1⟩:=(Ha.out _ hny2).at HC.out
    injection e' with e'
    injection e' with e1 e2
    subst e1 e2
    go_wp2_with (at_builtin;refine wpList_append_row rfl _ _ rfl w.heap.size _ _ _ [c] rfl rfl (OwnsC.below hO2 (below_alloc _ _)) (row_one _ _) hlen.out (by have:=hny2.size;simp at *; omega) ?_;intro v4 w4 hO4 hg4 hv4)
    have hX2:=chain hny2 (below_alloc w2 (.cells #[.int .u32 (c.1.val:Int),.int .u32 (c.2.val:Int)] 38))
    have hOX2:=OwnsC.below hO2 (below_alloc w2 (.cells #[.int .u32 (c.1.val:Int),.int .u32 (c.2.val:Int)] 38))
    go_roundw
    case rel=>exact⟨k+1,by omega,by go_num,by rw [HS2.out];exact hO4,hX2.trans (own_grown hOX2 hg4 hX2.size)⟩
    case measure=>simp [intOf];omega
   ·have HS2:Hid ((l.take (k+1)).filter okC=(l.take k).filter okC):=by
     show _=_
     rw [HS.out];simp [okC,hcl]
    rw [hcl] at cC
    clear HS
    go_wp2_with fail
    refine cC.mono ?_
    rintro e w2 ⟨rfl,hB2⟩
    clear cC
    go_wp2
    go_roundw
    case rel=>exact⟨k+1,by omega,by go_num,by rw [HS2.out];exact OwnsC.below hO hB2,chain hny hB2⟩
    case measure=>simp [intOf];omega
  ·obtain rfl:k=n:=by omega
   have e:l.take k=l:=List.take_of_length_le (by rw [<- Hn.out];exact Nat.le_refl _)
   rw [e,HK.out] at hO
   have cL:=refleastC (calmC l) _ wr (OwnsC.row hO) hcl
   obtain⟨p8,q8,rfl⟩:=OwnsC.len hO
   go_wp2_with fail
   refine cL.mono ?_
   rintro e w3 ⟨v3,rfl,hO3,hB3⟩
   clear cL
   go_wp2
   go_ret2
   exact⟨_,rfl,OwnsC.mono hO3 hny.size,chain hny hB3⟩
theorem rOf_any (l:List C) (v:Value) (w:World) (hv:CRow w v l) (hl:l.length<=40000) :
  Calls Tryz.prog 239 #[v] w fun e w'=>∃ v',e=.returned (.tuple #[v',.int .i64 (ofF l).2])/\OwnsC w' w.heap.size v' (ofF l).1/\Below w.heap.size w w':=by
 have c1:=rfright_any l v w hv (by omega)
 have c2:=fun w1 (h:Below w.heap.size w w1)=>rcalm_any l v w1 (hv.below h) (by omega)
 have HM:Hid (ofF l=if rightF l then leastF (calmC l) else ([],2)):=rfl
 obtain⟨pa,ca,rfl⟩:=hv.len
 clear hv
 generalize l.length=n at *
 cases hf:rightF l
 ·rw [hf] at c1 HM
  go_enter Tryz.func239,Tryz.ntmps239
  go_wp2_with fail
  refine c1.mono ?_
  rintro e w1 ⟨rfl,hB1⟩
  clear c1
  go_wp2
  go_ret2
  rw [HM.out]
  exact⟨_,rfl,World.ownsRow_nil _ _ _ _,hB1⟩
 ·rw [hf] at c1 HM
  go_enter Tryz.func239,Tryz.ntmps239
  go_wp2_with fail
  refine c1.mono ?_
  rintro e w1 ⟨rfl,hB1⟩
  clear c1
  replace c2:=c2 w1 hB1
  go_wp2_with fail
  refine c2.mono ?_
  rintro e w2 ⟨v2,rfl,hO2,hB2⟩
  clear c2
  go_wp2
  go_ret2
  rw [HM.out]
  exact⟨_,rfl,OwnsC.mono hO2 hB1.size,chain hB1 hB2⟩
theorem rOfZero_any (l:List C) (v:Value) (w:World) (hv:CRow w v l) (hl:l.length<=40000) :
  Calls Tryz.prog 240 #[v] w fun e w'=>∃ v',e=.returned (.tuple #[v',.int .i64 (ofZ l).2])/\OwnsC w' w.heap.size v' (ofZ l).1/\Below w.heap.size w w':=by
 have c1:=rNot_any l v w hv hl
 have hLen:=notF_len l
 have HY:Hid (ofZ l=if (notF l).2=0 then leastF (calmC (notF l).1) else ([],(notF l).2)):=rfl
 obtain⟨pa,ca,rfl⟩:=hv.len
 clear hv
 generalize notF l=P at c1 hLen HY
 obtain⟨M,er⟩:=P
 dsimp only at c1 hLen HY
 generalize l.length=n at *
 by_cases h0:er=0
 ·subst h0
  have HE:Hid (ofZ l=leastF (calmC M)):=HY.out
  clear HY
  go_enter Tryz.func240,Tryz.ntmps240
  go_wp2_with fail
  refine c1.mono ?_
  rintro e w1 ⟨v1,rfl,hO1,hB1⟩
  clear c1
  have c2:=rcalm_any M v1 w1 (OwnsC.row hO1) (by omega)
  obtain⟨p8,q8,rfl⟩:=OwnsC.len hO1
  go_wp2_with fail
  refine c2.mono ?_
  rintro e w2 ⟨v2,rfl,hO2,hB2⟩
  clear c2
  go_wp2
  go_ret2
  rw [HE.out]
  exact⟨_,rfl,OwnsC.mono hO2 hB1.size,chain hB1 hB2⟩
 ·have HE:Hid (ofZ l=([],er)):=HY.out.trans (if_neg h0)
  clear HY
  have h1:(er == 0)=false:=by simpa using h0
  go_enter Tryz.func240,Tryz.ntmps240
  go_wp2_with fail
  refine c1.mono ?_
  rintro e w1 ⟨v1,rfl,hO1,hB1⟩
  clear c1
  obtain⟨p8,q8,rfl⟩:=OwnsC.len hO1
  go_wp2
  go_ret2
  rw [HE.out]
  exact⟨_,rfl,World.ownsRow_nil _ _ _ _,hB1⟩
theorem rAJoin_any (l m:List C) (a b:Value) (w:World) (ha:CRow w a l) (hb:CRow w b m) (hl:l.length<=40000) (hm:m.length<=40000) :
  Calls Tryz.prog 242 #[a,b] w fun e w'=>∃ v,e=.returned (.tuple #[v,.int .i64 (jnA l m).2])/\OwnsC w' w.heap.size v (jnA l m).1/\Below w.heap.size w w':=by
 have c1:=raright_any l a w ha (by omega)
 have c2:=fun w1 (h:Below w.heap.size w w1)=>raright_any m b w1 (hb.below h) (by omega)
 have Ha:Hid (∀ w1,Below w.heap.size w w1->CRow w1 a l):=fun w1 h=>ha.below h
 have Hb:Hid (∀ w1,Below w.heap.size w w1->CRow w1 b m):=fun w1 h=>hb.below h
 have Hl:Hid (l.length<=40000):=hl
 have Hm:Hid (m.length<=40000):=hm
 obtain⟨pa,ca,rfl⟩:=ha.len
 obtain⟨pb,cb,rfl⟩:=hb.len
 have HJ:Hid (jnA l m=if rightA l && rightA m then leastF (l++m) else ([],2)):=rfl
 clear ha hb hl hm
 generalize l.length=n1 at c1 Ha ⊢
 generalize m.length=n2 at c2 Hb ⊢
 cases hf:rightA l
 ·rw [hf] at c1 HJ
  go_enter Tryz.func242,Tryz.ntmps242
  go_wp2_with fail
  refine c1.mono ?_
  rintro e w1 ⟨rfl,hB1⟩
  clear c1
  go_wp2
  go_ret2
  rw [HJ.out]
  exact⟨_,rfl,World.ownsRow_nil _ _ _ _,hB1⟩
 ·cases hg:rightA m
  ·rw [hf] at c1 HJ
   rw [hg] at HJ
   simp only [hg] at c2
   go_enter Tryz.func242,Tryz.ntmps242
   go_wp2_with fail
   refine c1.mono ?_
   rintro e w1 ⟨rfl,hB1⟩
   clear c1
   replace c2:=c2 w1 hB1
   go_wp2_with fail
   refine c2.mono ?_
   rintro e w2 ⟨rfl,hB2⟩
   clear c2
   go_wp2
   go_ret2
   rw [HJ.out]
   exact⟨_,rfl,World.ownsRow_nil _ _ _ _,chain hB1 hB2⟩
  ·rw [hf] at c1 HJ
   rw [hg] at HJ
   simp only [hg] at c2
   go_enter Tryz.func242,Tryz.ntmps242
   go_wp2_with fail
   refine c1.mono ?_
   rintro e w1 ⟨rfl,hB1⟩
   clear c1
   replace c2:=c2 w1 hB1
   go_wp2_with fail
   refine c2.mono ?_
   rintro e w2 ⟨rfl,hB2⟩
   clear c2
   have hB:=chain hB1 hB2
   have hE:OwnsC (w2.alloc (.cells #[] 38)) w.heap.size (.slice (some ⟨w2.heap.size,0,none⟩) 0 0) []:=empty_row w2 _ hB.size
   have hB3:=chain hB (below_alloc w2 (.cells #[] 38))
   go_wp2_with (first
    | (at_builtin;refine wpList_append_row rfl _ _ rfl w.heap.size _ _ [] l rfl rfl hE (Ha.out _ hB3) (by have:=Hl.out;simp;omega) hB3.size ?_;intro v4 w4 hO4 hg4 hv4;have hB4:=hB3.trans (own_grown hE hg4 hB3.size))
    | (at_builtin;refine wpList_append_row rfl _ _ rfl w.heap.size _ _ _ m rfl rfl hO4 (Hb.out _ hB4) (by have:=Hl.out;have:=Hm.out;simp;omega) hB4.size ?_;intro v5 w5 hO5 hg5 hv5;have hB5:=hB4.trans (own_grown hO4 hg5 hB4.size))
    | (go_at_call 249;refine (rcalm_any _ _ _ (OwnsC.row hO5) (by have:=Hl.out;have:=Hm.out;simp;omega)).mono ?_;rintro e w6 ⟨v6,rfl,hO6,hB6⟩))
   go_ret2
   rw [HJ.out]
   rw [List.nil_append,calm_same (app_ok (rightA_ok hf) (rightA_ok hg))] at *
   exact⟨_,rfl,OwnsC.mono hO6 hB5.size,chain hB5 hB6⟩
theorem rAMeet_ok (l m:List C) (a b:Value) (w:World) (ha:CRow w a l) (hb:CRow w b m) (hf:rightA l=true) (hg:rightA m=true) :
  Calls Tryz.prog 241 #[a,b] w fun e w'=>∃ v,e=.returned (.tuple #[v,.int .i64 (mtR l m).2])/\OwnsC w' w.heap.size v (mtR l m).1/\Below w.heap.size w w':=by
 have hl:l.length<=64:=rightA_len hf
 have hm:m.length<=64:=rightA_len hg
 have c1:=raright_any l a w ha (by omega)
 have c2:=fun w1 (h:Below w.heap.size w w1)=>raright_any m b w1 (hb.below h) (by omega)
 rw [hf] at c1
 simp only [hg] at c2
 have hpl:=fun k=>pairs_take_le l m k (by omega) (by omega)
 have HRl:Hid (∀ c∈l,rightC c=true):=List.all_eq_true.1 (rightF_all (rightA_right hf))
 have HRm:Hid (∀ c∈m,rightC c=true):=List.all_eq_true.1 (rightF_all (rightA_right hg))
 have Ha:Hid (∀ w1,Below w.heap.size w w1->CRow w1 a l):=fun w1 h=>ha.below h
 have Hb:Hid (∀ w1,Below w.heap.size w w1->CRow w1 b m):=fun w1 h=>hb.below h
 have HCa:Hid (∀ (k:Nat) c,l[k]? = some c->∃ g off n cap,a=.slice (some ⟨g,off,none⟩) n cap/\g<w.heap.size):=fun k c hk=>by
  obtain⟨g,off,cap,e,h1,_⟩:=ha.cons (by rintro rfl;simp at hk)
  exact⟨g,off,_,cap,e,h1⟩
 have HCb:Hid (∀ (k:Nat) c,m[k]? = some c->∃ g off n cap,b=.slice (some ⟨g,off,none⟩) n cap/\g<w.heap.size):=fun k c hk=>by
  obtain⟨g,off,cap,e,h1,_⟩:=hb.cons (by rintro rfl;simp at hk)
  exact⟨g,off,_,cap,e,h1⟩
 obtain⟨pa,ca,rfl⟩:=ha.len
 obtain⟨pb,cb,rfl⟩:=hb.len
 clear ha hb hf hg
 obtain⟨n1,hn1⟩:∃ n1,n1=l.length:=⟨_,rfl⟩
 obtain⟨n2,hn2⟩:∃ n2,n2=m.length:=⟨_,rfl⟩
 have Hn1:Hid (n1=l.length):=hn1
 have Hn2:Hid (n2=m.length):=hn2
 rw [<- hn1] at hl Ha HCa c1 ⊢
 rw [<- hn2] at hm Hb HCb c2 ⊢
 clear hn1 hn2
 go_enter Tryz.func241,Tryz.ntmps241
 go_wp2_with fail
 refine c1.mono ?_
 rintro e w1 ⟨rfl,hB1⟩
 clear c1
 replace c2:=c2 w1 hB1
 go_wp2_with fail
 refine c2.mono ?_
 rintro e w2 ⟨rfl,hB2⟩
 clear c2
 have hB:=chain hB1 hB2
 go_wp2
 go_loopw [6,7] (fun v i wr=>∃ k:Nat,k<=n1/\i=.int .i64 k/\OwnsC wr w.heap.size v (pairsC (l.take k) m)/\Below w.heap.size w wr) (fun _ i _=>n1 - (intOf i).toNat)
 case atStart=>exact⟨0,Nat.zero_le _,rfl,World.ownsRow_nil _ _ _ _,hB⟩
 case round =>
  obtain⟨k,hk,rfl,hO,hny⟩:=hrel
  by_cases hlt:k<n1
  ·obtain⟨c,hck⟩:=get_some (l:=l) (k:=k) (by rw [<- Hn1.out];exact hlt)
   have HC:Hid (l[k]? = some c):=hck
   have hrc:rightC c=true:=HRl.out c (List.mem_of_getElem? hck)
   clear hck
   go_wp2
   go_loopw [6,8] (fun v i wr2=>∃ j:Nat,j<=n2/\i=.int .i64 j/\OwnsC wr2 w.heap.size v (pairsC (l.take k) m++(m.take j).map (meetC c))/\Below w.heap.size w wr2) (fun _ i _=>n2 - (intOf i).toNat)
   case atStart=>exact⟨0,Nat.zero_le _,rfl,by simp only [List.take_zero,List.map_nil,List.append_nil];exact hO,hny⟩
   case round =>
    obtain⟨j,hj,rfl,hO2,hny2⟩:=hrel
    by_cases hlt2:j<n2
    ·obtain⟨d,hdj⟩:=get_some (l:=m) (k:=j) (by rw [<- Hn2.out];exact hlt2)
     have hrd:rightC d=true:=HRm.out d (List.mem_of_getElem? hdj)
     obtain⟨g,off,rfl,hg0,x0,x1⟩:=(Ha.out _ hny2).at HC.out
     obtain⟨g2,off2,rfl,hg20,y0,y1⟩:=(Hb.out _ hny2).at hdj
     have hg:g<w.heap.size:=by
      obtain⟨g',off',n',cap',e,h⟩:=HCa.out k c HC.out
      injection e with e1;injection e1 with e1;injection e1 with e1;rw [e1];exact h
     have hg2:g2<w.heap.size:=by
      obtain⟨g',off',n',cap',e,h⟩:=HCb.out j d hdj
      injection e with e1;injection e1 with e1;injection e1 with e1;rw [e1];exact h
     have HD:Hid (m[j]? = some d):=hdj
     have hlen:Hid ((pairsC (l.take k) m++(m.take j).map (meetC c)).length + [meetC c d].length<=200000):=by
      have h1:=hpl k
      have h2:=List.length_take_le j m
      show (pairsC (l.take k) m++(m.take j).map (meetC c)).length+1<=200000
      rw [List.length_append,List.length_map]
      omega
     clear hdj hg0 hg20
     have hO0:OwnsC wr.drew w.heap.size _ (pairsC (l.take k) m++(m.take j).map (meetC c)):=hO2
     have hny0:w.heap.size<=wr.drew.heap.size:=hny2.size
     go_wp2
     go_region_held3 (fun w'=>w'.cell? ⟨g,off+k*2,none⟩=some (.int .u32 (c.1.val:Int))/\w'.cell? ⟨g,off+k*2+1,none⟩=some (.int .u32 (c.2.val:Int))/\w'.cell? ⟨g2,off2+j*2,none⟩=some (.int .u32 (d.1.val:Int))/\w'.cell? ⟨g2,off2+j*2+1,none⟩=some (.int .u32 (d.2.val:Int))) (first | (exact rm_next hBk hg hg2 (by assumption)) | go_keep)
      (first
       | (go_at_call 250;refine (refmeet_any _ _ _ (by assumption) (by assumption)).mono ?_;rintro e w5 ⟨rfl,hB5⟩;have hBk:=hB5.mono hny0;have hO5:=OwnsC.below hO0 hB5)
       | (refine step_append_row rfl (.tmp 29) (.tmp 39) rfl w.heap.size _ _ _ [meetC c d] rfl rfl (OwnsC.below hO5 (below_alloc _ _)) (row_one _ _) hlen.out (Nat.le_trans hny0 (Nat.le_trans hB5.size (by simp))) ?_;intro v6 w6 hO6 hg6 hv6;have hBk:=own_grown (OwnsC.below hO5 (below_alloc w5 (.cells #[.int .u32 ((meetC c d).1.val:Int),.int .u32 ((meetC c d).2.val:Int)] 38))) hg6 (Nat.le_trans hny0 (Nat.le_trans hB5.size (by simp)))))
     have hB6:Below w.heap.size w w6:=by
      have h1:Below w.heap.size w w5:=hny2.trans ((bdN13 (Below.refl _ wr) 1).trans (hB5.mono hny0))
      exact (h1.alloc h1.size _).trans hBk
     go_wp2
     go_roundw
     case rel=>exact⟨j+1,by omega,by go_num,by rw [map_take_step HD.out,<- List.append_assoc];exact hO6,hB6⟩
     case measure=>simp [intOf];omega
    ·obtain rfl:j=n2:=by omega
     have e2:m.take j=m:=List.take_of_length_le (by rw [<- Hn2.out];exact Nat.le_refl _)
     rw [e2,<- pairs_take_step HC.out] at hO2
     go_wp2
     go_roundw
     case rel=>exact⟨k+1,by omega,by go_num,hO2,hny2⟩
     case measure=>simp [intOf];omega
  ·obtain rfl:k=n1:=by omega
   have e:l.take k=l:=List.take_of_length_le (by rw [<- Hn1.out];exact Nat.le_refl _)
   rw [e] at hO
   have hrl:(pairsC l m).length<=100000:=by have:=hpl k;rw [e] at this;omega
   have cL:=rcalm_any _ _ wr (OwnsC.row hO) hrl
   obtain⟨p9,q9,rfl⟩:=OwnsC.len hO
   go_wp2_with fail
   refine cL.mono ?_
   rintro e w3 ⟨v3,rfl,hO3,hB3⟩
   clear cL
   go_wp2
   go_ret2
   exact⟨_,rfl,OwnsC.mono hO3 hny.size,chain hny hB3⟩
theorem rAMeet_any (l m:List C) (a b:Value) (w:World) (ha:CRow w a l) (hb:CRow w b m) (hl:l.length<=40000) (hm:m.length<=40000) :
  Calls Tryz.prog 241 #[a,b] w fun e w'=>∃ v,e=.returned (.tuple #[v,.int .i64 (mtA l m).2])/\OwnsC w' w.heap.size v (mtA l m).1/\Below w.heap.size w w':=by
 cases hf:rightA l
 ·have HJ:Hid (mtA l m=([],2)):=by unfold mtA;rw [hf];rfl
  have c1:=raright_any l a w ha (by omega)
  rw [hf] at c1
  obtain⟨pa,ca,rfl⟩:=ha.len
  obtain⟨pb,cb,rfl⟩:=hb.len
  clear ha hb
  go_enter Tryz.func241,Tryz.ntmps241
  go_wp2_with fail
  refine c1.mono ?_
  rintro e w1 ⟨rfl,hB1⟩
  clear c1
  go_wp2
  go_ret2
  rw [HJ.out]
  exact⟨_,rfl,World.ownsRow_nil _ _ _ _,hB1⟩
 ·cases hg:rightA m
  ·have HJ:Hid (mtA l m=([],2)):=by unfold mtA;rw [hf,hg];rfl
   have c1:=raright_any l a w ha (by omega)
   have c2:=fun w1 (h:Below w.heap.size w w1)=>raright_any m b w1 (hb.below h) (by omega)
   rw [hf] at c1
   simp only [hg] at c2
   obtain⟨pa,ca,rfl⟩:=ha.len
   obtain⟨pb,cb,rfl⟩:=hb.len
   clear ha hb
   go_enter Tryz.func241,Tryz.ntmps241
   go_wp2_with fail
   refine c1.mono ?_
   rintro e w1 ⟨rfl,hB1⟩
   clear c1
   replace c2:=c2 w1 hB1
   go_wp2_with fail
   refine c2.mono ?_
   rintro e w2 ⟨rfl,hB2⟩
   clear c2
   go_wp2
   go_ret2
   rw [HJ.out]
   exact⟨_,rfl,World.ownsRow_nil _ _ _ _,chain hB1 hB2⟩
  ·rw [mtA_ok hf hg]
   exact rAMeet_ok l m a b w ha hb hf hg
theorem not_both {c:C} {i:Int} (hc:okC c=true) (h:hasB c.1.val i=true):hasB c.2.val i=false:=by
 cases e:hasB c.2.val i
 ·rfl
 ·exfalso
  simp only [hasB,Bool.and_eq_true] at h e
  have hi:0<=i/\i<24:=by simpa [isDimB] using h.1
  exact okC_iff.1 hc i.toNat (by omega) ⟨h.2,e.2⟩
theorem mt_top {c:C} (h:rightC c=true) (hk:okC c=true):mtR [c] [top0]=([c],0):=by
 have e:meetC c top0=c:=by
  have h1:=fright_bits h
  refine c_bits (fun k=>?_) (fun k=>?_)
  ·rw [(meet_bits c top0 k).1];rw [<- (h1 k).1];simp [top0]
  ·rw [(meet_bits c top0 k).2];rw [<- (h1 k).2];simp [top0]
 have e2:calmC (pairsC [c] [top0])=[c]:=by simp [pairsC,calmC,e,hk]
 unfold mtR;rw [e2];exact leastF_one h
theorem mtA_top {c:C} (h:rightC c=true) (hk:okC c=true):mtA [c] [top0]=([c],0):=by
 rw [mtA_ok (rightA_one h hk) (rightA_one top_right (by decide))];exact mt_top h hk
theorem below_drewR (w:World):Below w.heap.size w w.drew:=bdN13 (Below.refl _ w) 1
theorem At.nextR {W W':World} {g:Nat} {c:C} (hb:Below W.heap.size W W') (hg:g<W.heap.size) (h:W.cell? ⟨g,0,none⟩=some (.int .u32 (c.1.val:Int))/\W.cell? ⟨g,1,none⟩=some (.int .u32 (c.2.val:Int))):W'.cell? ⟨g,0,none⟩=some (.int .u32 (c.1.val:Int))/\W'.cell? ⟨g,1,none⟩=some (.int .u32 (c.2.val:Int)) :=
 ⟨(hb.cell (p:=⟨g,0,none⟩) hg).trans h.1,(hb.cell (p:=⟨g,1,none⟩) hg).trans h.2⟩
theorem own_top (w:World) (o:Obj) (base:Nat) (hb:base<=w.heap.size):OwnsC ((w.alloc o).alloc (.cells #[.int .u32 0,.int .u32 0] 38)) base (.slice (some ⟨w.heap.size+1,0,none⟩) 1 1) [top0]:=by
 have h:=own_one1 (w.alloc o) top0 base (by simp;omega)
 rw [World.size_alloc] at h
 exact h
theorem rAPut_ok (l r:List C) (i:Int) (vl vr:Value) (w:World) (hl:CRow w vl l) (hr:CRow w vr r) (hf:rightA l=true) (hg:rightF r=true) (hi0:¬ i<0) (hi1:¬ i ≥ 24) :
  Calls Tryz.prog 208 #[vl,.int .i64 i,vr] w fun e w'=>∃ v,e=.returned (.tuple #[v,.int .i64 (ptS l i (ofF r).1 (ofZ r)).2])/\OwnsC w' w.heap.size v (ptS l i (ofF r).1 (ofZ r)).1/\Below w.heap.size w w':=by
 have hll:=rightA_len hf
 have hrl:=rightF_len hg
 have c1:=raright_any l vl w hl (by omega)
 have c2:=fun W (h:Below w.heap.size w W)=>rfright_any r vr W (hr.below h) (by omega)
 have cO:=fun W (h:Below w.heap.size w W)=>rOf_any r vr W (hr.below h) (by omega)
 have cZ:=fun W (h:Below w.heap.size w W)=>rOfZero_any r vr W (hr.below h) (by omega)
 rw [hf] at c1
 simp only [hg] at c2
 have tZ:=ToldA.ofZ hg
 have hO2:=ofF_told hg
 have rO:=ofF_right r
 have HOk:Hid (∀ c∈l,okC c=true):=rightA_ok hf
 have Hl:Hid (∀ w1,Below w.heap.size w w1->CRow w1 vl l):=fun w1 h=>hl.below h
 obtain⟨pl,cl,rfl⟩:=hl.len
 obtain⟨pr,cr,rfl⟩:=hr.len
 clear hl hr hf hg
 generalize ofZ r=S at cZ tZ ⊢
 generalize ofF r=PO at cO hO2 rO ⊢
 obtain⟨Z,ze⟩:=S
 obtain⟨O,oe⟩:=PO
 obtain rfl:oe=0:=hO2
 dsimp only at cZ cO rO ⊢
 have RZ:Hid (rightA Z=true):=tZ.right
 have RO:Hid (rightA O=true):=rO
 have lZ:=rightA_len tZ.right
 have lO:=rightA_len rO
 dsimp only at lZ
 have TS:Hid (ToldA (Z,ze)):=tZ
 clear tZ rO
 obtain⟨n,hn⟩:∃ n,n=l.length:=⟨_,rfl⟩
 have Hn:Hid (n=l.length):=hn
 rw [<- hn] at hll Hl c1 ⊢
 clear hn
 generalize r.length=n2 at *
 go_enter Tryz.func208,Tryz.ntmps208
 go_wp2_with fail
 refine c1.mono ?_
 rintro e w1 ⟨rfl,hB1⟩
 clear c1
 replace c2:=c2 w1 hB1
 go_wp2_with fail
 refine c2.mono ?_
 rintro e w2 ⟨rfl,hB2⟩
 clear c2
 have hB:=chain hB1 hB2
 go_wp2_with fail
 go_loopw [8,9] (fun v j wr=>∃ k:Nat,k<=n/\j=.int .i64 k/\(ptS (l.take k) i O (Z,ze)).2=0/\OwnsC wr w.heap.size v (ptS (l.take k) i O (Z,ze)).1/\Below w.heap.size w wr) (fun _ j _=>n - (intOf j).toNat)
 case atStart=>exact⟨0,Nat.zero_le _,rfl,rfl,World.ownsRow_nil _ _ _ _,hB⟩
 case round =>
  obtain⟨k,hk,rfl,hz,hO,hny⟩:=hrel
  have HZ:Hid ((ptS (l.take k) i O (Z,ze)).2=0):=hz
  have HRM:Hid (rightA (ptS (l.take k) i O (Z,ze)).1=true):=(ToldA.pts i O (fun c hc=>HOk.out c (List.mem_of_mem_take hc)) TS.out).right
  clear hz hB
  by_cases hlt:k<n
  ·obtain⟨c,hck⟩:=get_some (l:=l) (k:=k) (by rw [<- Hn.out];exact hlt)
   obtain⟨g,off,rfl,hg,x0,x1⟩:=(Hl.out _ hny).at hck
   have hokc:okC c=true:=HOk.out c (List.mem_of_getElem? hck)
   have HStep:Hid (ptS (l.take (k+1)) i O (Z,ze)=stpA i O (Z,ze) ((ptS (l.take k) i O (Z,ze)).1,0) c):=ptS_take_step hck HZ.out
   have HStuck:Hid ((ptS (l.take (k+1)) i O (Z,ze)).2≠0->ptS (l.take (k+1)) i O (Z,ze)=([],3)/\ptS l i O (Z,ze)=([],3)):=fun h=>ptS_stuck HOk.out TS.out (k+1) h
   have hc1:=c.1.isLt
   have hc2:=c.2.isLt
   clear hck
   generalize (ptS (l.take k) i O (Z,ze)).1=M at hO HRM HStep
   have rM:rightA M=true:=HRM.out
   have hMl:=rightA_len rM
   have hAb:=At.made wr c 38
   have hBb:=below_alloc wr (.cells #[.int .u32 (c.1.val:Int),.int .u32 (c.2.val:Int)] 38)
   obtain⟨pM,qM,rfl⟩:=OwnsC.len hO
   go_wp2
   generalize wr.alloc (.cells #[.int .u32 (c.1.val:Int),.int .u32 (c.2.val:Int)] 38)=wb at hAb hBb ⊢
   obtain⟨z0,z1,z2⟩:=hAb
   have hBk:Below wb.heap.size wb wb.drew:=below_drewR wb
   go_region_held3 (fun w'=>w'.cell? ⟨wr.heap.size,0,none⟩=some (.int .u32 (c.1.val:Int))/\w'.cell? ⟨wr.heap.size,1,none⟩=some (.int .u32 (c.2.val:Int))) (first | (exact At.nextR hBk z2 ⟨z0,z1⟩) | go_keep)
    (first | (go_at_call 238;refine (refWithout_any _ _ _ (by assumption)).mono ?_;rintro e w5 ⟨rfl,hB5⟩;replace hBk:=chain hBk hB5))
   have hB5a:=chain (chain hny hBb) hBk
   have hBx:Below w5.heap.size w5 ((w5.alloc (.cells #[.int .u32 (withoutN c.1.val i:Nat),.int .u32 (withoutN c.2.val i:Nat)] 38)).alloc (.cells #[.int .u32 0,.int .u32 0] 38)):=(below_alloc w5 _).alloc (by simp) _
   have hA7:=At.below ⟨z0,z1,z2⟩ (chain hBk hBx)
   have hB7:=chain hB5a hBx
   have hOM:=OwnsC.below hO (chain hBb (chain hBk hBx))
   have hOg:OwnsC ((w5.alloc (.cells #[.int .u32 (withoutN c.1.val i:Nat),.int .u32 (withoutN c.2.val i:Nat)] 38)).alloc (.cells #[.int .u32 0,.int .u32 0] 38)) w.heap.size (.slice (some ⟨w5.heap.size,0,none⟩) 1 1) [outC c i]:=OwnsC.below (own_one1 w5 (outC c i) _ hB5a.size) (below_alloc _ _)
   have hOt:OwnsC ((w5.alloc (.cells #[.int .u32 (withoutN c.1.val i:Nat),.int .u32 (withoutN c.2.val i:Nat)] 38)).alloc (.cells #[.int .u32 0,.int .u32 0] 38)) w.heap.size (.slice (some ⟨w5.heap.size+1,0,none⟩) 1 1) [top0]:=own_top w5 _ _ hB5a.size
   clear z0 z1
   have z0:=hA7.1
   have z1:=hA7.2.1
   go_wp2_with fail
   generalize hw7:(w5.alloc (.cells #[.int .u32 (withoutN c.1.val i:Nat),.int .u32 (withoutN c.2.val i:Nat)] 38)).alloc (.cells #[.int .u32 0,.int .u32 0] 38)=w7 at hA7 hB7 hOM hOg hOt z0 z1 ⊢
   clear hw7 hBx
   refine (refHas_any _ _ _ hc1).mono ?_
   rintro e w0 ⟨rfl,hw0⟩
   replace hw0:=hw0.symm
   subst hw0
   have hB7a:=hB7
   cases hp:hasB c.1.val i
   ·cases hq:hasB c.2.val i
    ·have HF:Hid (prtA c i O (Z,ze)=([outC c i],0)):=prt_o hp hq
     have cM:=rAMeet_any [outC c i] [top0] _ _ w7 (OwnsC.row hOg) (OwnsC.row hOt) (by simp) (by simp)
     rw [mtA_top (out_right c i) (out_ok hokc)] at cM
     clear hOg
     dsimp only at cM
     go_wp2_with (go_at_call 206;refine (refHas_any _ _ _ (by assumption)).mono ?_;rintro e w0 ⟨rfl,hw0⟩;replace hw0:=hw0.symm;subst hw0;first | rw [hp] | rw [hq])
     refine cM.mono ?_
     rintro e w14 ⟨v14,rfl,hOg,hB14⟩
     clear cM
     replace hB7:=chain hB7 hB14
     replace hOM:=OwnsC.below hOM hB14
     obtain⟨p14,q14,rfl⟩:=OwnsC.len hOg
     have rG:rightA ([outC c i])=true:=rightA_out i hokc
     have hGl:=rightA_len rG
     have cJ:=rAJoin_any M ([outC c i]) _ _ w14 (OwnsC.row hOM) (OwnsC.row hOg) (by omega) (by omega)
     rw [jnA_ok rM rG] at cJ
     have HST:Hid (ptS (l.take (k+1)) i O (Z,ze)=leastF (M++([outC c i]))):=HStep.out.trans (by rw [stpA_some,HF.out];simp)
     generalize leastF (M++([outC c i]))=PJ at cJ HST
     obtain⟨J,je⟩:=PJ
     dsimp only at cJ HST
     go_wp2_with fail
     refine cJ.mono ?_
     rintro e w20 ⟨v20,rfl,hO20,hB20⟩
     clear cJ
     have hBf:=chain hB7 hB20
     obtain⟨p20,q20,rfl⟩:=OwnsC.len hO20
     by_cases j0:je=0
     ·subst j0
      go_wp2
      go_roundw
      case rel=>exact⟨k+1,by omega,by go_num,by rw [HST.out],by rw [HST.out];exact OwnsC.mono hO20 hB7.size,hBf⟩
      case measure=>simp [intOf];omega
     ·have HE:=HStuck.out (by rw [HST.out];exact j0)
      have h3:je=3:=by have:=HST.out;rw [HE.1] at this;injection this with _ h;exact h.symm
      have HE2:Hid (ptS l i O (Z,ze)=([],3)):=HE.2
      clear HE
      subst h3
      go_wp2
      go_ret2
      rw [HE2.out]
      exact⟨_,rfl,World.ownsRow_nil _ _ _ _,hBf⟩
    ·have cZ2:=cZ w7 hB7
     go_wp2_with (go_at_call 206;refine (refHas_any _ _ _ (by assumption)).mono ?_;rintro e w0 ⟨rfl,hw0⟩;replace hw0:=hw0.symm;subst hw0;first | rw [hp] | rw [hq])
     refine cZ2.mono ?_
     rintro e w12 ⟨v12,rfl,hO12,hB12⟩
     clear cZ2
     replace hB7:=chain hB7 hB12
     replace hB7a:=hB7
     replace hOM:=OwnsC.below hOM hB12
     replace hOg:=OwnsC.below hOg hB12
     obtain⟨p12,q12,rfl⟩:=OwnsC.len hO12
     by_cases s0:ze=0
     ·subst s0
      have cM:=rAMeet_any [outC c i] Z _ _ w12 (OwnsC.row hOg) (OwnsC.row hO12) (by simp) (by omega)
      rw [mtA_ok (rightA_out i hokc) RZ.out] at cM
      have HF:Hid (prtA c i O (Z,0)=mtR [outC c i] Z):=(prt_n hp hq).trans (if_pos rfl)
      have tG:ToldA (mtR [outC c i] Z):=ToldA.mt _ _
      clear hOg
      generalize mtR [outC c i] Z=PG at cM HF tG
      obtain⟨Gr,pe⟩:=PG
      dsimp only at cM
      go_wp2_with fail
      refine cM.mono ?_
      rintro e w14 ⟨v14,rfl,hOg,hB14⟩
      clear cM
      replace hB7:=chain hB7 hB14
      replace hOM:=OwnsC.below hOM hB14
      replace hOg:=OwnsC.mono hOg (Nat.le_trans hB7a.size (Nat.le_refl _))
      obtain⟨p14,q14,rfl⟩:=OwnsC.len hOg
      by_cases m0:pe=0
      ·subst m0
       have rG:rightA (Gr)=true:=tG.right
       have hGl:=rightA_len rG
       have cJ:=rAJoin_any M (Gr) _ _ w14 (OwnsC.row hOM) (OwnsC.row hOg) (by omega) (by omega)
       rw [jnA_ok rM rG] at cJ
       have HST:Hid (ptS (l.take (k+1)) i O (Z,0)=leastF (M++(Gr))):=HStep.out.trans (by rw [stpA_some,HF.out];simp)
       generalize leastF (M++(Gr))=PJ at cJ HST
       obtain⟨J,je⟩:=PJ
       dsimp only at cJ HST
       go_wp2_with fail
       refine cJ.mono ?_
       rintro e w20 ⟨v20,rfl,hO20,hB20⟩
       clear cJ
       have hBf:=chain hB7 hB20
       obtain⟨p20,q20,rfl⟩:=OwnsC.len hO20
       by_cases j0:je=0
       ·subst j0
        go_wp2
        go_roundw
        case rel=>exact⟨k+1,by omega,by go_num,by rw [HST.out],by rw [HST.out];exact OwnsC.mono hO20 hB7.size,hBf⟩
        case measure=>simp [intOf];omega
       ·have HE:=HStuck.out (by rw [HST.out];exact j0)
        have h3:je=3:=by have:=HST.out;rw [HE.1] at this;injection this with _ h;exact h.symm
        have HE2:Hid (ptS l i O (Z,0)=([],3)):=HE.2
        clear HE
        subst h3
        go_wp2
        go_ret2
        rw [HE2.out]
        exact⟨_,rfl,World.ownsRow_nil _ _ _ _,hBf⟩
      ·have HST:Hid (ptS (l.take (k+1)) i O (Z,0)=([],pe)):=HStep.out.trans (by rw [stpA_some,HF.out];simp [m0])
       have HE:=HStuck.out (by rw [HST.out];exact m0)
       have h3:pe=3:=by have:=HST.out;rw [HE.1] at this;injection this with _ h;exact h.symm
       have HE2:Hid (ptS l i O (Z,0)=([],3)):=HE.2
       clear HE
       subst h3
       go_wp2
       go_ret2
       rw [HE2.out]
       exact⟨_,rfl,World.ownsRow_nil _ _ _ _,hB7⟩
     ·have HF:Hid (prtA c i O (Z,ze)=(Z,ze)):=(prt_n hp hq).trans (if_neg s0)
      have HST:Hid (ptS (l.take (k+1)) i O (Z,ze)=([],ze)):=HStep.out.trans (by rw [stpA_some,HF.out];simp [s0])
      have HE:=HStuck.out (by rw [HST.out];exact s0)
      have h3:ze=3:=by have:=HST.out;rw [HE.1] at this;injection this with _ h;exact h.symm
      have HE2:Hid (ptS l i O (Z,ze)=([],3)):=HE.2
      clear HE HST HF HStep HStuck TS HZ
      subst h3
      go_wp2
      go_ret2
      rw [HE2.out]
      exact⟨_,rfl,World.ownsRow_nil _ _ _ _,hB7⟩
   ·have hq:hasB c.2.val i=false:=not_both hokc hp
    have cO2:=cO w7 hB7
    go_wp2_with fail
    refine cO2.mono ?_
    rintro e w12 ⟨v12,rfl,hO12,hB12⟩
    clear cO2
    replace hB7:=chain hB7 hB12
    replace hB7a:=hB7
    replace hOM:=OwnsC.below hOM hB12
    replace hOg:=OwnsC.below hOg hB12
    replace hA7:=hA7.below hB12
    clear z0 z1
    have z0:=hA7.1
    have z1:=hA7.2.1
    obtain⟨p12,q12,rfl⟩:=OwnsC.len hO12
    have cM:=rAMeet_any [outC c i] O _ _ w12 (OwnsC.row hOg) (OwnsC.row hO12) (by simp) (by omega)
    rw [mtA_ok (rightA_out i hokc) RO.out] at cM
    have HF:Hid (prtA c i O (Z,ze)=mtR [outC c i] O):=prt_p hp
    have tG:ToldA (mtR [outC c i] O):=ToldA.mt _ _
    clear hOg
    generalize mtR [outC c i] O=PG at cM HF tG
    obtain⟨Gr,pe⟩:=PG
    dsimp only at cM
    go_wp2_with (go_at_call 206;refine (refHas_any _ _ _ (by assumption)).mono ?_;rintro e w0 ⟨rfl,hw0⟩;replace hw0:=hw0.symm;subst hw0;first | rw [hp] | rw [hq])
    refine cM.mono ?_
    rintro e w14 ⟨v14,rfl,hOg,hB14⟩
    clear cM
    replace hB7:=chain hB7 hB14
    replace hOM:=OwnsC.below hOM hB14
    replace hOg:=OwnsC.mono hOg (Nat.le_trans hB7a.size (Nat.le_refl _))
    obtain⟨p14,q14,rfl⟩:=OwnsC.len hOg
    by_cases m0:pe=0
    ·subst m0
     have rG:rightA (Gr)=true:=tG.right
     have hGl:=rightA_len rG
     have cJ:=rAJoin_any M (Gr) _ _ w14 (OwnsC.row hOM) (OwnsC.row hOg) (by omega) (by omega)
     rw [jnA_ok rM rG] at cJ
     have HST:Hid (ptS (l.take (k+1)) i O (Z,ze)=leastF (M++(Gr))):=HStep.out.trans (by rw [stpA_some,HF.out];simp)
     generalize leastF (M++(Gr))=PJ at cJ HST
     obtain⟨J,je⟩:=PJ
     dsimp only at cJ HST
     go_wp2_with fail
     refine cJ.mono ?_
     rintro e w20 ⟨v20,rfl,hO20,hB20⟩
     clear cJ
     have hBf:=chain hB7 hB20
     obtain⟨p20,q20,rfl⟩:=OwnsC.len hO20
     by_cases j0:je=0
     ·subst j0
      go_wp2
      go_roundw
      case rel=>exact⟨k+1,by omega,by go_num,by rw [HST.out],by rw [HST.out];exact OwnsC.mono hO20 hB7.size,hBf⟩
      case measure=>simp [intOf];omega
     ·have HE:=HStuck.out (by rw [HST.out];exact j0)
      have h3:je=3:=by have:=HST.out;rw [HE.1] at this;injection this with _ h;exact h.symm
      have HE2:Hid (ptS l i O (Z,ze)=([],3)):=HE.2
      clear HE
      subst h3
      go_wp2
      go_ret2
      rw [HE2.out]
      exact⟨_,rfl,World.ownsRow_nil _ _ _ _,hBf⟩
    ·have HST:Hid (ptS (l.take (k+1)) i O (Z,ze)=([],pe)):=HStep.out.trans (by rw [stpA_some,HF.out];simp [m0])
     have HE:=HStuck.out (by rw [HST.out];exact m0)
     have h3:pe=3:=by have:=HST.out;rw [HE.1] at this;injection this with _ h;exact h.symm
     have HE2:Hid (ptS l i O (Z,ze)=([],3)):=HE.2
     clear HE
     subst h3
     go_wp2
     go_ret2
     rw [HE2.out]
     exact⟨_,rfl,World.ownsRow_nil _ _ _ _,hB7⟩
  ·obtain rfl:k=n:=by omega
   have e:l.take k=l:=List.take_of_length_le (by rw [<- Hn.out];exact Nat.le_refl _)
   have HZ2:Hid ((ptS l i O (Z,ze)).2=0):=by rw [<- e];exact HZ.out
   rw [e] at hO
   go_wp2
   go_ret2
   rw [HZ2.out]
   exact⟨_,rfl,hO,hny⟩
theorem rAPut_any (l r:List C) (i:Int) (vl vr:Value) (w:World) (hl:CRow w vl l) (hr:CRow w vr r) (hll:l.length<=40000) (hrl:r.length<=40000) :
  Calls Tryz.prog 208 #[vl,.int .i64 i,vr] w fun e w'=>∃ v,e=.returned (.tuple #[v,.int .i64 (ptA l i r).2])/\OwnsC w' w.heap.size v (ptA l i r).1/\Below w.heap.size w w':=by
 have c1:=raright_any l vl w hl (by omega)
 have c2:=fun W (h:Below w.heap.size w W)=>rfright_any r vr W (hr.below h) (by omega)
 cases hf:rightA l
 ·have HJ:Hid (ptA l i r=([],2)):=by show _=_;simp [ptA,hf]
  rw [hf] at c1
  obtain⟨pl,cl,rfl⟩:=hl.len
  obtain⟨pr,cr,rfl⟩:=hr.len
  clear hl hr c2
  go_enter Tryz.func208,Tryz.ntmps208
  go_wp2_with fail
  refine c1.mono ?_
  rintro e w1 ⟨rfl,hB1⟩
  clear c1
  go_wp2
  go_ret2
  rw [HJ.out]
  exact⟨_,rfl,World.ownsRow_nil _ _ _ _,hB1⟩
 ·by_cases hneg:i<0
  ·have HJ:Hid (ptA l i r=([],2)):=by show _=_;simp [ptA,isDimB_lo hneg]
   rw [hf] at c1
   obtain⟨pl,cl,rfl⟩:=hl.len
   obtain⟨pr,cr,rfl⟩:=hr.len
   clear hl hr c2
   go_enter Tryz.func208,Tryz.ntmps208
   go_wp2_with fail
   refine c1.mono ?_
   rintro e w1 ⟨rfl,hB1⟩
   clear c1
   go_wp2
   go_ret2
   rw [HJ.out]
   exact⟨_,rfl,World.ownsRow_nil _ _ _ _,hB1⟩
  ·by_cases hge:i ≥ 24
   ·have HJ:Hid (ptA l i r=([],2)):=by show _=_;simp [ptA,isDimB_hi hge]
    rw [hf] at c1
    obtain⟨pl,cl,rfl⟩:=hl.len
    obtain⟨pr,cr,rfl⟩:=hr.len
    clear hl hr c2
    go_enter Tryz.func208,Tryz.ntmps208
    go_wp2_with fail
    refine c1.mono ?_
    rintro e w1 ⟨rfl,hB1⟩
    clear c1
    go_wp2
    go_ret2
    rw [HJ.out]
    exact⟨_,rfl,World.ownsRow_nil _ _ _ _,hB1⟩
   ·cases hg:rightF r
    ·have HJ:Hid (ptA l i r=([],2)):=by show _=_;simp [ptA,hg]
     rw [hf] at c1
     simp only [hg] at c2
     obtain⟨pl,cl,rfl⟩:=hl.len
     obtain⟨pr,cr,rfl⟩:=hr.len
     clear hl hr
     go_enter Tryz.func208,Tryz.ntmps208
     go_wp2_with fail
     refine c1.mono ?_
     rintro e w1 ⟨rfl,hB1⟩
     clear c1
     replace c2:=c2 w1 hB1
     go_wp2_with fail
     refine c2.mono ?_
     rintro e w2 ⟨rfl,hB2⟩
     clear c2
     go_wp2
     go_ret2
     rw [HJ.out]
     exact⟨_,rfl,World.ownsRow_nil _ _ _ _,chain hB1 hB2⟩
    ·have e:ptA l i r=ptS l i (ofF r).1 (ofZ r):=by simp [ptA,hf,hg,isDimB_yes (show 0<=i by omega) (show i<24 by omega)]
     rw [e]
     exact rAPut_ok l r i vl vr w hl hr hf hg hneg hge
end Go.Proofs.YtblbhmnahoiecaaGreat
