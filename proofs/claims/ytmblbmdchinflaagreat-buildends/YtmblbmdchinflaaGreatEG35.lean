/- Whether a row of branches has one that is never; whether a term is plain. -/
import Derived.Test.YtmblbmdchinflaaGreatEG25
import Derived.Test.YtmblbmdchinflaaGreatEG34
import Derived.Test.YtmblbmdchinflaaGreatEG12
import Derived.ProofKit
import Derived.OpenShut
import Derived.Lib.SmallJoins
import Derived.Deep.Slices
import Derived.Deep.Strs
import Derived.Test.YtmblbmdchinflaaGreatEG6
import Derived.Test.YtmblbmdchinflaaGreatEFMA
import Derived.Test.YtmblbmdchinflaaGreatEFB
import Derived.Test.YtmblbmdchinflaaGreatSLay
set_option linter.unusedVariables false
set_option linter.unusedSimpArgs false
set_option maxRecDepth 100000
set_option maxHeartbeats 8000000
namespace Go.Proofs.YtmblbmdchinflaaGreat
open Go.RowKit
open Go.ChangeShapes Go.WideShapes Go.ChangeAt Go.RowKit
open Go.ChangeShapes Go.WideShapes Go.ChangeAt
open Go.RowKit Go.Shelf
theorem never15_any (l:List (List C × List Tm)) (sa:Option Addr) (M sc:Nat) (hM:M=l.length) (w:World) (ht:SyT Tt w (TmIn Tt w) l (.slice sa M sc)) (hMb:M≤100000):Calls Tryz.prog 28 #[.slice sa M sc] w fun e w'=>∃ b,e=.returned (.bool b)∧(b=false→∀ x∈l,x.1≠[])∧Below w.heap.size w w':=by
 have HT:Hid (∀ W,Below w.heap.size w W→SyT Tt W (TmIn Tt W) l (.slice sa M sc)):=fun W q=>ht.blw q
 have HM:Hid (M=l.length):=hM
 clear ht hM
 go_enter Tryz.func28,Tryz.ntmps28
 go_wp2_with fail
 go_loopw [7] (fun u wr=>∃ k:Nat,k≤M∧u=.int .i64 k∧Below w.heap.size w wr∧Hid (∀ (j:Nat) (b:List C × List Tm),j<k→l[j]? = some b→b.1≠[])) (fun u _=>M - (intOf u).toNat)
 case atStart=>exact⟨0,Nat.zero_le _,rfl,Below.refl _ _,fun j x hj=>absurd hj (Nat.not_lt_zero _)⟩
 case round =>
  obtain⟨wq,hwq⟩:∃ wq,wq=wr:=⟨_,rfl⟩
  subst hwq
  obtain⟨m,hm,rfl,hSq,HA⟩:=hrel
  by_cases hlt:m<M
  ·have hkI:(m:Int) < (M:Int):=by omega
   obtain⟨b,hb⟩:=someL (l:=l) (k:=m) (by rw [← HM.out];exact hlt)
   obtain⟨gs,offs,fa1,fc1,kb1,kbc1,hsa,_,h21,hF1,hK1⟩:=(HT.out wq hSq).at hb
   subst hsa
   obtain⟨F,hF⟩:∃ F,F=b.1.length:=⟨_,rfl⟩
   obtain⟨wb,hwb⟩:∃ W,W=wq.alloc (.cells #[.slice fa1 F fc1,.slice kb1 b.2.length kbc1] 50):=⟨_,rfl⟩
   have bb:Below wq.heap.size wq wb:=by rw [hwb];exact belowA _ _
   have tb:Two wb wq.heap.size (.slice fa1 F fc1) (.slice kb1 b.2.length kbc1):=⟨by rw [hwb];exact heapNew _ _⟩
   have hSb:Below w.heap.size w wb:=hSq.trans (bb.mono hSq.size)
   have HFK:Hid (F=b.1.length):=hF
   have Hbs:Hid (l[m]? = some b):=hb
   have c0:=h21.c0
   have c1:=h21.c1
   rw [← hF] at c0
   obtain⟨t0,t1,_⟩:=tb.cells
   have Hwb:Hid (_=_):=hwb
   clear hwb h21 hF1 hK1 hb hF tb
   go_upto_region 4 with fail
   rw [← Hwb.out]
   clear c0 c1
   by_cases hz:F=0
   ·subst hz
    go_wp2_with fail
    go_ret
    exact⟨true,rfl,(fun h=>by cases h),hSb⟩
   ·have hz1:((F:Int) == 0)=false:=by simp;omega
    go_wp2_with fail
    go_roundw
    case rel =>
     refine⟨m+1,by omega,by go_num,hSb,fun j y hj hy=>?_⟩
     rcases Nat.lt_or_ge j m with h|h
     ·exact HA.out j y h hy
     ·obtain rfl:j=m:=by omega
      rw [Hbs.out] at hy
      cases hy
      exact fun e=>hz (by rw [HFK.out,e];rfl)
    case measure=>simp [intOf];omega
  ·have hkI:¬ (m:Int) < (M:Int):=by omega
   have HE:Hid (∀ x∈l,x.1≠[]):=fun b hb=>by
    obtain⟨j,hj⟩:=List.mem_iff_getElem?.1 hb
    exact HA.out j b (by have:=some_lt hj;have:=HM.out;omega) hj
   go_wp2_with fail
   go_ret
   have HE2:∀ (a:List C) (c:List Tm),(a,c)∈l→¬ a=[]:=fun a c h=>HE.out (a,c) h
   first | exact⟨false,rfl,(fun _=>HE.out),hSq⟩ | exact .inl ⟨rfl,HE2,hSq⟩ | exact⟨HE2,hSq⟩
def PlC (N:Nat):Prop:=∀ (t:Tm) (v:Value) (w:World),TmIn Tt w t v→blk t≤N→blk t≤100000→Calls Tryz.prog 8 #[v] w fun e w'=>∃ b,e=.returned (.bool b)∧(b=true→neT t)∧Below w.heap.size w w'
theorem pl_step (N:Nat) (IH:PlC N):PlC (N+1):=by
 intro t v w hv hN hb
 obtain⟨hl1,hl2,hl3,hl4⟩:=blk_lens t
 obtain⟨ra,rc,ka,kc,sa,sc,rfl,ht⟩:=hv.form
 obtain⟨w1,hw1⟩:∃ W,W=w.alloc (.cells #[.int .i64 t.kind,.int .i64 t.n,.string t.name,.slice ra t.r.length rc,.slice ka t.kids.length kc,.slice sa t.sys.length sc] 26):=⟨_,rfl⟩
 have b1:Below w.heap.size w w1:=by rw [hw1];exact belowA _ _
 obtain⟨X,hX⟩:∃ X,X=w.heap.size:=⟨_,rfl⟩
 have x1:Six w1 X (.int .i64 t.kind) (.int .i64 t.n) (.string t.name) (.slice ra t.r.length rc) (.slice ka t.kids.length kc) (.slice sa t.sys.length sc):=⟨by rw [hw1,hX];exact heapNew _ _⟩
 obtain⟨L,hL⟩:∃ L,L=t.kids.length:=⟨_,rfl⟩
 obtain⟨M,hM⟩:∃ L,L=t.sys.length:=⟨_,rfl⟩
 have HC:Hid (∀ W,Below w1.heap.size w1 W→W.cell? ⟨X,4,none⟩=some (.slice ka L kc)∧W.cell? ⟨X,5,none⟩=some (.slice sa M sc)):=fun W q=>by
  rw [hL,hM];exact⟨(x1.blw q).cells.2.2.2.2.1,(x1.blw q).cells.2.2.2.2.2.1⟩
 have HT:Hid (∀ W,Below w1.heap.size w1 W→TmTop Tt W t ra rc ka kc sa sc):=fun W q=>(ht.blw b1).blw q
 have HB:Hid (∀ W,Below w1.heap.size w1 W→Below X w W):=fun W q=>by rw [hX];exact bchain b1 q
 have HI:Hid (PlC N):=IH
 have HN:Hid (blk t≤N+1∧blk t≤100000):=⟨hN,hb⟩
 have HL:Hid (L=t.kids.length∧M=t.sys.length):=⟨hL,hM⟩
 have HX:Hid (X=w.heap.size):=hX
 have hLb:L≤100000:=by omega
 have hMb:M≤100000:=by omega
 have HW:Hid (_=_):=hw1
 rw [← hX,← hL,← hM]
 have HW2:Hid (w1=w.alloc (.cells #[.int .i64 t.kind,.int .i64 t.n,.string t.name,.slice ra t.r.length rc,.slice ka L kc,.slice sa M sc] 26)):=(by rw [hw1,hL,hM]:_=_)
 obtain⟨y0,y1⟩:=HC.out w1 (Below.refl _ _)
 clear hw1 hX hL hM x1 hv ht b1 IH hN hb hl1 hl2 hl3 hl4 HW
 go_enter Tryz.func8,Tryz.ntmps8
 go_upto_region 1 with fail
 rw [← HW2.out]
 simp only [← HX.out]
 clear HW2
 have n1:=never15_any t.sys sa M sc HL.out.2 w1 (by rw [HL.out.2];exact (HT.out w1 (Below.refl _ _)).sys) hMb
 go_wp2_with fail
 refine n1.mono ?_
 rintro e wn ⟨bn,rfl,hbn,bbn⟩
 clear n1 y0 y1
 cases bn
 case true =>
  have hF:=HB.out wn bbn
  go_wp2_with fail
  go_ret
  exact⟨false,rfl,(fun h=>by cases h),hF⟩
 have HNv:Hid (∀ x∈t.sys,x.1≠[]):=hbn rfl
 clear hbn
 obtain⟨y0,y1⟩:=HC.out wn bbn
 go_wp2_with fail
 clear y0 y1
 go_loopw [15] (fun u wr=>∃ k:Nat,k≤L∧u=.int .i64 k∧Below w1.heap.size w1 wr∧Hid (∀ (j:Nat) (x:Tm),j<k→t.kids[j]? = some x→neT x)) (fun u _=>L - (intOf u).toNat)
 case atStart=>exact⟨0,Nat.zero_le _,rfl,bbn,fun j x hj=>absurd hj (Nat.not_lt_zero _)⟩
 case round =>
  obtain⟨wo,hwo⟩:∃ wo,wo=wr:=⟨_,rfl⟩
  subst hwo
  obtain⟨k,hk,rfl,hSo,HA⟩:=hrel
  by_cases hlt:k<L
  ·have hkI:(k:Int) < (L:Int):=by omega
   obtain⟨x,hx⟩:=someL (l:=t.kids) (k:=k) (by rw [← HL.out.1];exact hlt)
   have hbk:=blk_kid (List.mem_of_getElem? hx)
   obtain⟨g1,off1,ra1,rc1,ka1,kc1,sa1,sc1,hka,_,h61,hty⟩:=(HT.out wo hSo).kids.at hx
   subst hka
   obtain⟨wb,hwb⟩:∃ W,W=wo.alloc (.cells #[.int .i64 x.kind,.int .i64 x.n,.string x.name,.slice ra1 x.r.length rc1,.slice ka1 x.kids.length kc1,.slice sa1 x.sys.length sc1] 26):=⟨_,rfl⟩
   have bb:Below wo.heap.size wo wb:=by rw [hwb];exact belowA _ _
   have nb:Six wb wo.heap.size (.int .i64 x.kind) (.int .i64 x.n) (.string x.name) (.slice ra1 x.r.length rc1) (.slice ka1 x.kids.length kc1) (.slice sa1 x.sys.length sc1):=⟨by rw [hwb];exact heapNew _ _⟩
   have hSb:Below w1.heap.size w1 wb:=hSo.trans (bb.mono hSo.size)
   have cc:=HI.out x _ wb (hty.blw bb).value (by have:=HN.out.1;omega) (by have:=HN.out.2;omega)
   obtain⟨_,c0,c1,c2,c3,c4,c5⟩:=h61
   obtain⟨z0,z1,z2,z3,z4,z5,_⟩:=nb.cells
   have Hwb:Hid (_=_):=hwb
   have Hx:Hid (t.kids[k]? = some x):=hx
   clear hwb hty hbk nb hx
   go_upto_region 6 with fail
   rw [← Hwb.out]
   clear c0 c1 c2 c3 c4 c5
   go_wp2_with fail
   refine cc.mono ?_
   rintro e w2 ⟨b,rfl,hb,b2⟩
   clear cc z0 z1 z2 z3 z4 z5
   have hS2:Below w1.heap.size w1 w2:=hSb.trans (b2.mono hSb.size)
   cases b
   case true =>
    have Hb:Hid (neT x):=hb rfl
    go_wp2_with fail
    go_roundw
    case rel =>
     refine⟨k+1,by omega,by go_num,hS2,fun j y hj hy=>?_⟩
     rcases Nat.lt_or_ge j k with h|h
     ·exact HA.out j y h hy
     ·obtain rfl:j=k:=by omega
      rw [Hx.out] at hy
      cases hy
      exact Hb.out
    case measure=>simp [intOf];omega
   case false =>
    have hF:=HB.out w2 hS2
    go_wp2_with fail
    go_ret
    exact⟨false,rfl,(fun h=>by cases h),hF⟩
  ·have hkI:¬ (k:Int) < (L:Int):=by omega
   have HK:Hid (∀ x∈t.kids,neT x):=fun x hx=>by
    obtain⟨j,hj⟩:=List.mem_iff_getElem?.1 hx
    exact HA.out j x (by have:=some_lt hj;have:=HL.out.1;omega) hj
   obtain⟨y0,y1⟩:=HC.out wo hSo
   clear HA
   go_wp2_with fail
   clear y0 y1
   go_loopw [26] (fun u wr=>∃ k:Nat,k≤M∧u=.int .i64 k∧Below w1.heap.size w1 wr∧Hid (∀ (j:Nat) (b:List C × List Tm),j<k→t.sys[j]? = some b→b.1≠[]∧∀ x∈b.2,neT x)) (fun u _=>M - (intOf u).toNat)
   case atStart=>exact⟨0,Nat.zero_le _,rfl,hSo,fun j x hj=>absurd hj (Nat.not_lt_zero _)⟩
   case round =>
    obtain⟨wq,hwq⟩:∃ wq,wq=wr:=⟨_,rfl⟩
    subst hwq
    clear hkI hSo hlt hk
    obtain⟨m,hm,rfl,hSq,HA⟩:=hrel
    by_cases hlt:m<M
    ·have hkI:(m:Int) < (M:Int):=by omega
     obtain⟨b,hb⟩:=someL (l:=t.sys) (k:=m) (by rw [← HL.out.2];exact hlt)
     have hbr:=blk_br (List.mem_of_getElem? hb)
     have hbl:=blkL_len b.2
     obtain⟨gs,offs,fa1,fc1,kb1,kbc1,hsa,_,h21,hF1,hK1⟩:=(HT.out wq hSq).sys.at hb
     subst hsa
     obtain⟨F,hF⟩:∃ F,F=b.1.length:=⟨_,rfl⟩
     obtain⟨K,hK⟩:∃ F,F=b.2.length:=⟨_,rfl⟩
     have HFK:Hid (F=b.1.length∧K=b.2.length):=⟨hF,hK⟩
     have hKb:K≤100000:=by have:=HN.out.2;omega
     obtain⟨wb,hwb⟩:∃ W,W=wq.alloc (.cells #[.slice fa1 F fc1,.slice kb1 K kbc1] 50):=⟨_,rfl⟩
     obtain⟨Y,hY⟩:∃ Y,Y=wq.heap.size:=⟨_,rfl⟩
     have bb:Below wq.heap.size wq wb:=by rw [hwb];exact belowA _ _
     have tb:Two wb Y (.slice fa1 F fc1) (.slice kb1 K kbc1):=⟨by rw [hwb,hY];exact heapNew _ _⟩
     have hSb:Below w1.heap.size w1 wb:=hSq.trans (bb.mono hSq.size)
     have HTb:Hid (∀ W,Below wb.heap.size wb W→Two W Y (.slice fa1 F fc1) (.slice kb1 K kbc1)):=fun W q=>tb.blw q
     have HKd:Hid (∀ W,Below wb.heap.size wb W→KdT Tt W (TmIn Tt W) b.2 (.slice kb1 K kbc1)):=fun W q=>by rw [hK];exact (hK1.blw bb).blw q
     have Hbs:Hid (t.sys[m]? = some b):=hb
     have c0:=h21.c0
     have c1:=h21.c1
     rw [← hF] at c0
     rw [← hK] at c1
     obtain⟨t0,t1,_⟩:=tb.cells
     have Hwb:Hid (_=_):=hwb
     have HY:Hid (Y=wq.heap.size):=hY
     clear hwb hY h21 hF1 hK1 hb hF hK tb hbl
     go_upto_region 12 with fail
     rw [← Hwb.out]
     simp only [← HY.out]
     clear c0 c1
     ·go_wp2_with fail
      clear t0 t1
      go_loopw [33] (fun u wr=>∃ k:Nat,k≤K∧u=.int .i64 k∧Below wb.heap.size wb wr∧Hid (∀ (j:Nat) (x:Tm),j<k→b.2[j]? = some x→neT x)) (fun u _=>K - (intOf u).toNat)
      case atStart=>exact⟨0,Nat.zero_le _,rfl,Below.refl _ _,fun j x hj=>absurd hj (Nat.not_lt_zero _)⟩
      case round =>
       obtain⟨wo,hwo⟩:∃ wo,wo=wr:=⟨_,rfl⟩
       subst hwo
       obtain⟨k,hk,rfl,hSo,HA2⟩:=hrel
       by_cases hlk:k<K
       ·have hkI2:(k:Int) < (K:Int):=by omega
        obtain⟨x,hx⟩:=someL (l:=b.2) (k:=k) (by rw [← HFK.out.2];exact hlk)
        have hbk:=blk_sub (List.mem_of_getElem? Hbs.out) (List.mem_of_getElem? hx)
        obtain⟨g1,off1,ra1,rc1,ka1,kc1,sa1,sc1,hka,_,h61,hty⟩:=(HKd.out wo hSo).at hx
        subst hka
        obtain⟨wc,hwc⟩:∃ W,W=wo.alloc (.cells #[.int .i64 x.kind,.int .i64 x.n,.string x.name,.slice ra1 x.r.length rc1,.slice ka1 x.kids.length kc1,.slice sa1 x.sys.length sc1] 26):=⟨_,rfl⟩
        have bc:Below wo.heap.size wo wc:=by rw [hwc];exact belowA _ _
        have nc:Six wc wo.heap.size (.int .i64 x.kind) (.int .i64 x.n) (.string x.name) (.slice ra1 x.r.length rc1) (.slice ka1 x.kids.length kc1) (.slice sa1 x.sys.length sc1):=⟨by rw [hwc];exact heapNew _ _⟩
        have hSc:Below wb.heap.size wb wc:=hSo.trans (bc.mono hSo.size)
        have cc:=HI.out x _ wc (hty.blw bc).value (by have:=HN.out.1;omega) (by have:=HN.out.2;omega)
        obtain⟨_,c0,c1,c2,c3,c4,c5⟩:=h61
        obtain⟨z0,z1,z2,z3,z4,z5,_⟩:=nc.cells
        have Hwc:Hid (_=_):=hwc
        have Hx:Hid (b.2[k]? = some x):=hx
        clear hwc hty hbk nc hx
        go_upto_region 15 with fail
        rw [← Hwc.out]
        clear c0 c1 c2 c3 c4 c5
        go_wp2_with fail
        refine cc.mono ?_
        rintro e w2 ⟨bo,rfl,hbo,b2⟩
        clear cc z0 z1 z2 z3 z4 z5
        have hS2:Below wb.heap.size wb w2:=hSc.trans (b2.mono hSc.size)
        cases bo
        case true =>
         have Hb:Hid (neT x):=hbo rfl
         go_wp2_with fail
         go_roundw
         case rel =>
          refine⟨k+1,by omega,by go_num,hS2,fun j y hj hy=>?_⟩
          rcases Nat.lt_or_ge j k with h|h
          ·exact HA2.out j y h hy
          ·obtain rfl:j=k:=by omega
           rw [Hx.out] at hy
           cases hy
           exact Hb.out
         case measure=>simp [intOf];omega
        case false =>
         have hFin:=HB.out w2 (hSb.trans (hS2.mono hSb.size))
         go_wp2_with fail
         go_ret
         exact⟨false,rfl,(fun h=>by cases h),hFin⟩
       ·have hkI2:¬ (k:Int) < (K:Int):=by omega
        have hS2:Below w1.heap.size w1 wo:=hSb.trans (hSo.mono hSb.size)
        have HK2:Hid (b.1≠[]∧∀ x∈b.2,neT x):=⟨HNv.out b (List.mem_of_getElem? Hbs.out),fun x hx=>by
         obtain⟨j,hj⟩:=List.mem_iff_getElem?.1 hx
         exact HA2.out j x (by have:=some_lt hj;have:=HFK.out.2;omega) hj⟩
        go_wp2_with fail
        go_roundw
        case rel =>
         refine⟨m+1,by omega,by go_num,hS2,fun j y hj hy=>?_⟩
         rcases Nat.lt_or_ge j m with h|h
         ·exact HA.out j y h hy
         ·obtain rfl:j=m:=by omega
          rw [Hbs.out] at hy
          cases hy
          exact HK2.out
        case measure=>simp [intOf];omega
    ·have hkI:¬ (m:Int) < (M:Int):=by omega
     have HE:Hid (neT t):=(ne_eq t).2 ⟨HK.out,fun b hb=>by
      obtain⟨j,hj⟩:=List.mem_iff_getElem?.1 hb
      exact HA.out j b (by have:=some_lt hj;have:=HL.out.2;omega) hj⟩
     have hFin:=HB.out wq hSq
     go_wp2_with fail
     go_ret
     first | exact⟨true,rfl,(fun _=>HE.out),hFin⟩ | exact .inr ⟨rfl,HE.out,hFin⟩ | exact⟨HE.out,hFin⟩
theorem plain_any:∀ N:Nat,PlC N
 | 0=>fun t v w _ hN=>by have:=blk_pos t;omega
 | N+1=>pl_step N (plain_any N)
section
variable {H:Type} {enc:TypeId × Value→H}
theorem wf_I64 {n:Int} (h:(Lit.int .i64 n).wf=true):I64 n:=by
 simp [Lit.wf,IntKind.min,IntKind.max,IntKind.bits,IntKind.signed] at h
 exact⟨by omega,by omega⟩
theorem cells_term:Tryz.prog.cellsOf 26=6:=by kernel_rfl
theorem cells_branch:Tryz.prog.cellsOf 50=2:=by kernel_rfl
theorem cells_terms:Tryz.prog.cellsOf 23=1:=by kernel_rfl
theorem cells_branches:Tryz.prog.cellsOf 24=1:=by kernel_rfl
theorem cells_cls:Tryz.prog.cellsOf 22=1:=by kernel_rfl
theorem ycells_int:Tryz.prog.cellsOf 3=1:=by kernel_rfl
theorem ycells_str:Tryz.prog.cellsOf 9=1:=by kernel_rfl
theorem open_any {W:World} {fuel:Nat} {cs:List Value} {x:DataW H × List MemPlace} {ts te:TypeId} {k:Nat} (hu:Tryz.prog.underlying ts=some (.slice te)) (hk:Tryz.prog.cellsOf te=k) (hk0:0<k) {T:Type} [Inhabited T] (p:T→List Value→Prop)
  (ih:∀ m,m<fuel→∀ cs x,DataW.trod enc Tryz.prog W 0 (fun _=>true) true m te cs=some x→∃ t,p t cs) (h:DataW.trod enc Tryz.prog W 0 (fun _=>true) true fuel ts cs=some x) :
  ∃ (l:List T) (a:Option Addr) (cap:Nat),cs=[.slice a l.length cap]∧l.length≤cap∧∀ j t,l[j]? = some t→∃ g off cs',a=some ⟨g,off,none⟩∧g<W.heap.size∧p t cs'∧∀ i,i<k→W.cell? ⟨g,off+j*k+i,none⟩=cs'[i]?:=by
 rcases DataW.trod_slice hu h with ⟨rfl,_⟩|⟨a,len,cap,elems,rest,m,rfl,rfl,_,hba,hlc,hcm,hel,hcell,_,_⟩
 ·exact⟨[],none,0,rfl,Nat.le_refl _,fun j t ht=>by simp at ht⟩
 ·have each:∀ i,i<len→∃ (t:T),∃ cs',p t cs'∧cs'.length=k∧∀ j,j<k→W.cell? (a.add (i*k+j))=cs'[j]?:=fun i hi=>by
   have h1:=hcell i hi
   rw [List.getElem?_eq_getElem (by omega),hk] at h1
   obtain⟨cs',h2,h3⟩:=Option.bind_eq_some_iff.1 h1
   obtain⟨t,hp⟩:=ih m (by omega) _ _ h3
   obtain⟨h5,h6,h4⟩:=World.cells?_some h2
   refine⟨t,cs',hp,by first | exact h5 | exact h6 | omega,fun j hj=>?_⟩
   have:=h4 j hj
   rw [Go.Deep.add_add] at this
   exact this
  obtain⟨f,hf⟩:=Go.Deep.choose_lt (p:=fun i t=>∃ cs',p t cs'∧cs'.length=k∧∀ j,j<k→W.cell? (a.add (i*k+j))=cs'[j]?) each
  refine⟨(List.range len).map f,some a,cap,by simp,by simpa using hlc,fun j x hx=>?_⟩
  have hj:j<len:=by
   rcases Nat.lt_or_ge j len with h1|h1
   ·exact h1
   ·rw [List.getElem?_eq_none (by simpa using h1)] at hx;cases hx
  rw [List.getElem?_map,List.getElem?_range hj] at hx
  simp at hx
  subst hx
  obtain⟨cs',hs,hl',hc⟩:=hf j hj
  obtain⟨cs0,_,hl0,hc0⟩:=hf 0 (by omega)
  obtain⟨b,off,spot⟩:=a
  have h0:W.cell? ⟨b,off,spot⟩=some (cs0[0]'(by omega)):=by
   have:=hc0 0 hk0
   rw [List.getElem?_eq_getElem (by omega)] at this
   simpa [Addr.add] using this
  have hspot:spot=none:=World.cell?_spot h0
  subst hspot
  have hb:b<W.heap.size:=World.block_lt_of_cell? _ _ h0
  have e:∀ j',Addr.add ⟨b,off,none⟩ (j*k+j')=⟨b,off+j*k+j',none⟩:=fun j'=>by
   unfold Addr.add
   split
   ·next h9 =>
    have h1:j*k=0:=by omega
    have h2:j'=0:=by omega
    rw [h1,h2];rfl
   ·rw [Nat.add_assoc]
  exact⟨b,off,cs',rfl,hb,hs,fun i hi=>by have:=hc i hi;rw [e] at this;exact this⟩
theorem open_clause1 {W:World} (m:Nat) (cs:List Value) (x:DataW H × List MemPlace) (h:DataW.trod enc Tryz.prog W 0 (fun _=>true) true m 48 cs=some x):∃ c:C,cs=[.int .u32 (c.1.val:Int),.int .u32 (c.2.val:Int)]:=by
 obtain⟨xs,n,rfl,_,hl,hlen,hf⟩:=DataW.trod_struct Tryz.underlying48 h
 rw [Tryz.cellsC] at hl
 match cs,hl with
 | [u0,u1],_ =>
  match xs,hlen with
  | [y0,y1],_ =>
   have e0:DataW.trod enc Tryz.prog W 0 (fun _=>true) true n 46 (([u0,u1].drop 0).take (Tryz.prog.cellsOf 46))=some y0:=hf 0 _ rfl
   have e1:DataW.trod enc Tryz.prog W 0 (fun _=>true) true n 46 (([u0,u1].drop 1).take (Tryz.prog.cellsOf 46))=some y1:=hf 1 _ rfl
   rw [Tryz.cellsU] at e0 e1
   obtain⟨a,i0,_,w0⟩:=DataW.trod_int Tryz.underlying46 e0
   obtain⟨b,i1,_,w1⟩:=DataW.trod_int Tryz.underlying46 e1
   obtain⟨a,rfl⟩:=bounds_wf w0
   obtain⟨b,rfl⟩:=bounds_wf w1
   simp at i0 i1
   subst i0 i1
   exact⟨(a,b),rfl⟩
theorem open_cls {W:World} {fuel:Nat} {cs:List Value} {x:DataW H × List MemPlace} (h:DataW.trod enc Tryz.prog W 0 (fun _=>true) true fuel 22 cs=some x):∃ (l:List C) (v:Value),cs=[v]∧ClRow Tt W l v:=by
 haveI:Inhabited C:=⟨(0,0)⟩
 obtain⟨l,a,cap,rfl,hl,hx⟩:=open_any Tryz.underlying22 Tryz.cellsC (by omega) (fun (c:C) cs=>cs=[.int .u32 (c.1.val:Int),.int .u32 (c.2.val:Int)]) (fun m _=>open_clause1 m) h
 refine⟨l,_,rfl,a,cap,rfl,hl,fun j c hj=>?_⟩
 obtain⟨g,off,cs',ha,hg,rfl,hc⟩:=hx j c hj
 exact⟨g,off,ha,trivial,hg,hc 0 (by omega),hc 1 (by omega)⟩
def TmOf (W:World) (t:Tm) (cs:List Value):Prop:=∃ u0 u1 u2 u3 u4 u5,cs=[u0,u1,u2,u3,u4,u5]∧TmIn Tt W t (.agg #[u0,u1,u2,u3,u4,u5])
instance:Inhabited Tm:=⟨.mk 0 0 ByteArray.empty [] [] []⟩
theorem open_kidsT {W:World} {fuel:Nat} {cs:List Value} {x:DataW H × List MemPlace} (ih:∀ m,m<fuel→∀ cs x,DataW.trod enc Tryz.prog W 0 (fun _=>true) true m 26 cs=some x→∃ t,TmOf W t cs) (h:DataW.trod enc Tryz.prog W 0 (fun _=>true) true fuel 23 cs=some x) :
  ∃ (l:List Tm) (v:Value),cs=[v]∧KdT Tt W (TmIn Tt W) l v:=by
 obtain⟨l,a,cap,rfl,hl,hx⟩:=open_any Tryz.underlying23 cells_term (by omega) (TmOf W) ih h
 refine⟨l,_,rfl,a,cap,rfl,hl,fun j c hj=>?_⟩
 obtain⟨g,off,cs',ha,hg,⟨u0,u1,u2,u3,u4,u5,rfl,ht⟩,hc⟩:=hx j c hj
 exact⟨g,off,u0,u1,u2,u3,u4,u5,ha,trivial,hg,ht,hc 0 (by omega),hc 1 (by omega),hc 2 (by omega),hc 3 (by omega),hc 4 (by omega),hc 5 (by omega)⟩
def BrOf (W:World) (b:List C × List Tm) (cs:List Value):Prop:=∃ vf vk,cs=[vf,vk]∧ClRow Tt W b.1 vf∧KdT Tt W (TmIn Tt W) b.2 vk
theorem open_branch {W:World} {fuel:Nat} (ih:∀ m,m<fuel→∀ cs x,DataW.trod enc Tryz.prog W 0 (fun _=>true) true m 26 cs=some x→∃ t,TmOf W t cs) (cs:List Value) (x:DataW H × List MemPlace) (h:DataW.trod enc Tryz.prog W 0 (fun _=>true) true fuel 50 cs=some x):∃ b,BrOf W b cs:=by
 obtain⟨xs,n,rfl,_,hl,hlen,hf⟩:=DataW.trod_struct Tryz.underlying50 h
 rw [cells_branch] at hl
 match cs,hl with
 | [u0,u1],_ =>
  match xs,hlen with
  | [y0,y1],_ =>
   have e0:DataW.trod enc Tryz.prog W 0 (fun _=>true) true n 22 (([u0,u1].drop 0).take (Tryz.prog.cellsOf 22))=some y0:=hf 0 _ rfl
   have e1:DataW.trod enc Tryz.prog W 0 (fun _=>true) true n 23 (([u0,u1].drop 1).take (Tryz.prog.cellsOf 23))=some y1:=hf 1 _ rfl
   rw [cells_cls] at e0
   rw [cells_terms] at e1
   obtain⟨r,vr,i0,hr⟩:=open_cls e0
   obtain⟨l,vl,i1,hK⟩:=open_kidsT (fun m hm=>ih m (by omega)) e1
   simp at i0 i1
   subst i0 i1
   exact⟨(r,l),_,_,rfl,hr,hK⟩
theorem open_sysT {W:World} {fuel:Nat} {cs:List Value} {x:DataW H × List MemPlace} (ih:∀ m,m<fuel→∀ cs x,DataW.trod enc Tryz.prog W 0 (fun _=>true) true m 26 cs=some x→∃ t,TmOf W t cs) (h:DataW.trod enc Tryz.prog W 0 (fun _=>true) true fuel 24 cs=some x) :
  ∃ (l:List (List C × List Tm)) (v:Value),cs=[v]∧SyT Tt W (TmIn Tt W) l v:=by
 haveI:Inhabited (List C × List Tm):=⟨([],[])⟩
 obtain⟨l,a,cap,rfl,hl,hx⟩:=open_any Tryz.underlying24 cells_branch (by omega) (BrOf W) (fun m hm=>open_branch fun m' hm'=>ih m' (by omega)) h
 refine⟨l,_,rfl,a,cap,rfl,hl,fun j c hj=>?_⟩
 obtain⟨g,off,cs',ha,hg,⟨vf,vk,rfl,hf,hk⟩,hc⟩:=hx j c hj
 exact⟨g,off,vf,vk,ha,trivial,hg,hf,hk,hc 0 (by omega),hc 1 (by omega)⟩
theorem open_tm {W:World}:∀ (fuel:Nat) (cs:List Value) (x:DataW H × List MemPlace),DataW.trod enc Tryz.prog W 0 (fun _=>true) true fuel 26 cs=some x→∃ t,TmOf W t cs:=by
 intro fuel
 induction fuel using Nat.strongRecOn with
 | _ fuel ih =>
  intro cs x h
  obtain⟨xs,n,rfl,_,hl,hlen,hf⟩:=DataW.trod_struct Tryz.underlying26 h
  rw [cells_term] at hl
  match cs,hl with
  | [u0,u1,u2,u3,u4,u5],_ =>
   match xs,hlen with
   | [y0,y1,y2,y3,y4,y5],_ =>
    have e0:DataW.trod enc Tryz.prog W 0 (fun _=>true) true n 3 (([u0,u1,u2,u3,u4,u5].drop 0).take (Tryz.prog.cellsOf 3))=some y0:=hf 0 _ rfl
    have e1:DataW.trod enc Tryz.prog W 0 (fun _=>true) true n 3 (([u0,u1,u2,u3,u4,u5].drop 1).take (Tryz.prog.cellsOf 3))=some y1:=hf 1 _ rfl
    have e2:DataW.trod enc Tryz.prog W 0 (fun _=>true) true n 9 (([u0,u1,u2,u3,u4,u5].drop 2).take (Tryz.prog.cellsOf 9))=some y2:=hf 2 _ rfl
    have e3:DataW.trod enc Tryz.prog W 0 (fun _=>true) true n 22 (([u0,u1,u2,u3,u4,u5].drop 3).take (Tryz.prog.cellsOf 22))=some y3:=hf 3 _ rfl
    have e4:DataW.trod enc Tryz.prog W 0 (fun _=>true) true n 23 (([u0,u1,u2,u3,u4,u5].drop 4).take (Tryz.prog.cellsOf 23))=some y4:=hf 4 _ rfl
    have e5:DataW.trod enc Tryz.prog W 0 (fun _=>true) true n 24 (([u0,u1,u2,u3,u4,u5].drop 5).take (Tryz.prog.cellsOf 24))=some y5:=hf 5 _ rfl
    rw [ycells_int] at e0 e1
    rw [ycells_str] at e2
    rw [cells_cls] at e3
    rw [cells_terms] at e4
    rw [cells_branches] at e5
    obtain⟨k,i0,_,w0⟩:=DataW.trod_int Tryz.underlying3 e0
    obtain⟨nn,i1,_,w1⟩:=DataW.trod_int Tryz.underlying3 e1
    obtain⟨s,i2,_,_⟩:=DataW.trod_string Tryz.underlying9 e2
    obtain⟨r,vr,i3,hr⟩:=open_cls e3
    obtain⟨l,vl,i4,hK⟩:=open_kidsT (fun m hm=>ih m (by omega)) e4
    obtain⟨sy,vs,i5,hS⟩:=open_sysT (fun m hm=>ih m (by omega)) e5
    simp at i0 i1 i2 i3 i4 i5
    subst i0 i1 i2 i3 i4 i5
    exact⟨.mk k nn s r l sy,_,_,_,_,_,_,rfl,.mk _ _ _ _ _ _ _ _ _ (wf_I64 w0) (wf_I64 w1) hr hK hS⟩
theorem open_term1 {W:World} {base:Nat} {v:Value} {d:DataW H} {p:List MemPlace} (hv:Value.okWide Tryz.prog W .any base 26 v) (h:DataW.Trod enc Tryz.prog W 0 (fun _=>true) true 26 v d p):∃ t:Tm,TmIn Tt W t v:=by
 obtain⟨cs,rfl,hsz⟩:=okWide_struct Tryz.underlying26 hv
 obtain⟨fuel,hf⟩:=h
 obtain⟨t,u0,u1,u2,u3,u4,u5,e,hs⟩:=open_tm _ _ _ hf
 have ec:cs=#[u0,u1,u2,u3,u4,u5]:=by
  simp [Value.cells] at e
  rw [← e]
 rw [ec]
 exact⟨t,hs⟩
end
section
variable {H:Type} {enc:TypeId × Value→H}
end
def tS (l:List (List C × List Tm)):Tm:=.mk 0 0 ⟨#[]⟩ [] [] l
theorem tS_in {w:World} {l:List (List C × List Tm)} {a:Option Addr} {c:Nat} (h:SyT Tt w (TmIn Tt w) l (.slice a l.length c)):TmIn Tt w (tS l) (.agg #[.int .i64 0,.int .i64 0,.string ⟨#[]⟩,.slice none 0 0,.slice none 0 0,.slice a l.length c]) :=
 .mk _ _ _ _ _ _ _ _ _ ⟨by decide,by decide⟩ ⟨by decide,by decide⟩ (cl_nil _ w) (kt_nil _ w _) h
theorem SyT.len {ok:Nat→Prop} {w:World} {P:Tm→Value→Prop} {l:List (List C × List Tm)} {v:Value} (h:SyT ok w P l v):∃ a c,v=.slice a l.length c:=by obtain⟨a,c,e,_⟩:=h;exact⟨a,c,e⟩
theorem great15_any (t u:Tm) (l:List (List C × List Tm)) (v vu vs:Value) (w:World) (hv:TmIn Tt w t v) (hu:TmIn Tt w u vu) (hS:SyT Tt w (TmIn Tt w) l vs):Calls Tryz.prog 7 #[v,vu,vs] w fun e w'=>∃ b,e=.returned (.bool b)∧(b=false→blk t≤150∧blk u≤150∧blk (tS l)≤150)∧Below w.heap.size w w':=by
 obtain⟨sa0,sc0,rfl⟩:=hS.len
 obtain⟨ra,rc,ka,kc,sa,sc,rfl,ht⟩:=hv.form
 obtain⟨rb,rd,kb,kd,sb,sd,rfl,htu⟩:=hu.form
 obtain⟨w1,hw1⟩:∃ w1,w1=w.alloc (.cells #[.int .i64 t.kind,.int .i64 t.n,.string t.name,.slice ra t.r.length rc,.slice ka t.kids.length kc,.slice sa t.sys.length sc] 26):=⟨_,rfl⟩
 have b1:Below w.heap.size w w1:=by rw [hw1];exact belowA _ _
 obtain⟨w2,hw2⟩:∃ w2,w2=w1.alloc (.cells #[.int .i64 u.kind,.int .i64 u.n,.string u.name,.slice rb u.r.length rd,.slice kb u.kids.length kd,.slice sb u.sys.length sd] 26):=⟨_,rfl⟩
 have b2:Below w1.heap.size w1 w2:=by rw [hw2];exact belowA _ _
 have B2:Below w.heap.size w w2:=bchain b1 b2
 obtain⟨X,hX⟩:∃ X,X=w.heap.size:=⟨_,rfl⟩
 have hY:X+1=w1.heap.size:=by rw [hw1,hX];simp
 have x1:Six w1 X (.int .i64 t.kind) (.int .i64 t.n) (.string t.name) (.slice ra t.r.length rc) (.slice ka t.kids.length kc) (.slice sa t.sys.length sc):=⟨by rw [hw1,hX];exact heapNew _ _⟩
 have x2:Six w2 (X+1) (.int .i64 u.kind) (.int .i64 u.n) (.string u.name) (.slice rb u.r.length rd) (.slice kb u.kids.length kd) (.slice sb u.sys.length sd):=⟨by rw [hw2,hY];exact heapNew _ _⟩
 have HX:Hid (∀ W,Below w2.heap.size w2 W→Six W (X+1) (.int .i64 u.kind) (.int .i64 u.n) (.string u.name) (.slice rb u.r.length rd) (.slice kb u.kids.length kd) (.slice sb u.sys.length sd)):=fun W q=>x2.blw q
 have HU:Hid (∀ W,Below w2.heap.size w2 W→TmIn Tt W u (.agg #[.int .i64 u.kind,.int .i64 u.n,.string u.name,.slice rb u.r.length rd,.slice kb u.kids.length kd,.slice sb u.sys.length sd])):=fun W q=>((htu.blw B2).blw q).value
 have HSy:Hid (∀ W,Below w2.heap.size w2 W→SyT Tt W (TmIn Tt W) l (.slice sa0 l.length sc0)):=fun W q=>(hS.blw B2).blw q
 have cc:=bulk_any (blk t) 150 150 t _ w2 rfl (by omega) (Nat.le_refl _) ((ht.blw b1).blw b2).value
 obtain⟨y0,y1,y2,y3,y4,y5,_⟩:=(x1.blw b2).cells
 have H1:Hid (_=_):=hw1
 have H2:Hid (_=_):=hw2
 have HXe:Hid (X=w.heap.size):=hX
 have HYe:Hid (X+1=w1.heap.size):=hY
 clear hw1 hw2 hv ht htu hu hS hX hY x1 x2 b1 b2
 obtain⟨M,hM⟩:∃ M,M=l.length:=⟨_,rfl⟩
 rw [← hM] at HSy
 rw [← hM]
 have HM:Hid (M=l.length):=hM
 clear hM
 go_enter Tryz.func7,Tryz.ntmps7
 go_upto_region 1 with fail
 rw [← H1.out]
 simp only [← HYe.out,← HXe.out]
 rw [← H2.out]
 go_wp2_with fail
 refine cc.mono ?_
 rintro e w3 ⟨⟨r,rfl,r1,r2,r3,r4⟩,hb3⟩
 clear cc y0 y1 y2 y3 y4 y5
 have bF:=bchain B2 hb3
 by_cases h:150<blk t
 ·have hq:(150:Int) < (r:Int):=by have:=r2 h;omega
  have hqb:decide ((150:Int) < (r:Int))=true:=decide_eq_true hq
  clear r1 r2 h
  go_wp2_with fail
  go_ret
  exact⟨true,rfl,(fun h=>by cases h),bF⟩
 ·have hq:¬ (150:Int) < (r:Int):=by have:=r1 (by omega);omega
  have hqb:decide ((150:Int) < (r:Int))=false:=decide_eq_false hq
  have HB1:Hid (blk t≤150):=(by omega:blk t≤150)
  have c2:=bulk_any (blk u) 150 150 u _ w3 rfl (by omega) (Nat.le_refl _) (HU.out w3 hb3)
  obtain⟨y0,y1,y2,y3,y4,y5,_⟩:=(HX.out w3 hb3).cells
  clear r1 r2 r3 r4 h
  go_wp2_with fail
  refine c2.mono ?_
  rintro e w4 ⟨⟨r',rfl,r1,r2,r3,r4⟩,hb4⟩
  clear c2 y0 y1 y2 y3 y4 y5
  have b24:=bchain hb3 hb4
  have bF2:=bchain B2 b24
  by_cases h:150<blk u
  ·have hq2:(150:Int) < (r':Int):=by have:=r2 h;omega
   have hqb2:decide ((150:Int) < (r':Int))=true:=decide_eq_true hq2
   clear r1 r2 h
   go_wp2_with fail
   go_ret
   exact⟨true,rfl,(fun h=>by cases h),bF2⟩
  ·have hq2:¬ (150:Int) < (r':Int):=by have:=r1 (by omega);omega
   have hqb2:decide ((150:Int) < (r':Int))=false:=decide_eq_false hq2
   have HB2:Hid (blk u≤150):=(by omega:blk u≤150)
   have q3:=HSy.out w4 b24
   rw [HM.out] at q3
   have c3:=bulk_any (blk (tS l)) 150 150 (tS l) _ w4 rfl (by omega) (Nat.le_refl _) (tS_in q3)
   rw [← HM.out] at c3
   clear q3
   clear r1 r2 r3 r4 h
   go_wp2_with fail
   refine c3.mono ?_
   rintro e w5 ⟨⟨r5,rfl,r1,r2,r3,r4⟩,hb5⟩
   clear c3
   have bF3:=bchain bF2 hb5
   by_cases h:150<blk (tS l)
   ·have hq3:(150:Int) < (r5:Int):=by have:=r2 h;omega
    have hqb3:decide ((150:Int) < (r5:Int))=true:=decide_eq_true hq3
    clear r1 r2 h
    go_wp2_with fail
    go_ret
    exact⟨true,rfl,(fun h=>by cases h),bF3⟩
   ·have hq3:¬ (150:Int) < (r5:Int):=by have:=r1 (by omega);omega
    have hqb3:decide ((150:Int) < (r5:Int))=false:=decide_eq_false hq3
    have HB3:Hid (blk t≤150∧blk u≤150∧blk (tS l)≤150):=⟨HB1.out,HB2.out,by omega⟩
    clear r1 r2 h
    go_wp2_with fail
    go_ret
    exact⟨false,rfl,(fun _=>HB3.out),bF3⟩
end Go.Proofs.YtmblbmdchinflaaGreat
