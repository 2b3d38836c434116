/- Formulas in the places of dimensions: Under. Where a clause is so: the faces of a term's branches are those that Restrict tells. Where a clause is so once more: nothing is refused, it may be as before, none of the clause's dimensions is left, and once more changes nothing. A term that is built part by part, of parts that may share memory with what lay there. The document's row: a formula or a face, with another one in the place of a dimension. -/
import Derived.Deep.DeepCutAuto
import Derived.Test.YtpmmbfngogpinaaGreatQDmF
import Derived.Test.YtpmmbfngogpinaaGreatQEqG
import Derived.Test.YtpmmbfngogpinaaGreatQYMoreM
import Derived.Test.YtpmmbfngogpinaaGreatQY2
import Derived.Test.YtpmmbfngogpinaaGreatQFEU
set_option linter.unusedVariables false
set_option linter.unusedSimpArgs false
namespace Go.Proofs.YtpmmbfngogpinaaGreat
open Go.RowKit
def undR (c:C) (t:Tm):Tm × Int:=if (pall [top0] (dimsOf c.1.val) t).2=0 then pall [] (dimsOf c.2.val) (pall [top0] (dimsOf c.1.val) t).1 else (noT,(pall [top0] (dimsOf c.1.val) t).2)
def undA (c:C) (t:Tm):Tm × Int:=if wrongN true 0 0 t=0 then (if rightA [c]=true then undR c t else (noT,2)) else (noT,((wrongN true 0 0 t:Nat):Int))
theorem cap_pall {r:List C}:∀ (l:List Nat) (a:Tm × Int),capT (l.foldl (pallS r) a).1≤max (capT a.1) 65
 | [],a=>by simp;omega
 | i :: l,a=>by
  rw [List.foldl_cons]
  have h1:=cap_pall (r:=r) l (pallS r a i)
  have h2:capT (pallS r a i).1≤max (capT a.1) 65:=by
   unfold pallS
   split
   ·split
    ·have:=cap_ans (putOp_len i r) a.1;simp;omega
    ·have:=noT_cap;simp;omega
   ·omega
  omega
set_option maxRecDepth 100000 in
set_option maxHeartbeats 8000000 in
theorem under_all (t:Tm) (v:Value) (w:World) (hv:TmIn Tt w t v) (hb:blk t≤20000) (hcp:capT t≤40000) (c:C):Calls Tryz.prog 16 #[v,clV c] w fun e w'=>∃ v',e=.returned (.tuple #[v',.int .i64 (undA c t).2])∧(∀ V,Kn (fun q=>w.heap.size≤q) w' V→TmIn Tt V (undA c t).1 v')∧Below w.heap.size w w':=by
 obtain⟨ra,rc,ka,kc,sa,sc,rfl,ht⟩:=hv.form
 obtain⟨w1,hw1⟩:∃ W,W=((w.alloc (.cells #[.int .i64 t.kind,.int .i64 t.n,.string t.name,.slice ra t.r.length rc,.slice ka t.kids.length kc,.slice sa t.sys.length sc] 26)).alloc (.cells #[.int .u32 (c.1.val:Int),.int .u32 (c.2.val:Int)] 38)).alloc (.cells #[.int .i64 0,.int .i64 0,.string ⟨#[]⟩,.slice none 0 0,.slice none 0 0,.slice none 0 0] 26):=⟨_,rfl⟩
 have b1:Below w.heap.size w w1:=by rw [hw1];exact bchain (bchain (belowA _ _) (belowA _ _)) (belowA _ _)
 obtain⟨X,hX⟩:∃ X,X=w.heap.size:=⟨_,rfl⟩
 have s1:w1.heap.size=X+3:=by rw [hw1,hX];simp
 have x1:Six w1 X (.int .i64 t.kind) (.int .i64 t.n) (.string t.name) (.slice ra t.r.length rc) (.slice ka t.kids.length kc) (.slice sa t.sys.length sc):=⟨by rw [hX,hw1];exact (Below.heap_alloc _ _ _ (by simp;omega)).trans ((Below.heap_alloc _ _ _ (by simp)).trans (heapNew w _))⟩
 have xc:w1.heap[X+1]? = some (.cells #[.int .u32 (c.1.val:Int),.int .u32 (c.2.val:Int)] 38 (0,0)):=by
  rw [hX,hw1]
  refine (Below.heap_alloc _ _ _ (by simp)).trans ?_
  have:=heapNew (w.alloc (.cells #[.int .i64 t.kind,.int .i64 t.n,.string t.name,.slice ra t.r.length rc,.slice ka t.kids.length kc,.slice sa t.sys.length sc] 26)) (.cells #[.int .u32 (c.1.val:Int),.int .u32 (c.2.val:Int)] 38);rwa [World.size_alloc] at this
 have x2:Six w1 (X+2) (.int .i64 0) (.int .i64 0) (.string ⟨#[]⟩) (.slice none 0 0) (.slice none 0 0) (.slice none 0 0):=⟨by
  rw [hX,hw1];have:=heapNew ((w.alloc (.cells #[.int .i64 t.kind,.int .i64 t.n,.string t.name,.slice ra t.r.length rc,.slice ka t.kids.length kc,.slice sa t.sys.length sc] 26)).alloc (.cells #[.int .u32 (c.1.val:Int),.int .u32 (c.2.val:Int)] 38)) (.cells #[.int .i64 0,.int .i64 0,.string ⟨#[]⟩,.slice none 0 0,.slice none 0 0,.slice none 0 0] 26);rwa [World.size_alloc,World.size_alloc] at this⟩
 have HC:Hid (∀ W,Below w1.heap.size w1 W→Six W X (.int .i64 t.kind) (.int .i64 t.n) (.string t.name) (.slice ra t.r.length rc) (.slice ka t.kids.length kc) (.slice sa t.sys.length sc)):=fun W q=>x1.blw q
 have HCc:Hid (∀ W,Below w1.heap.size w1 W→W.cell? ⟨X+1,0,none⟩=some (.int .u32 (c.1.val:Int))∧W.cell? ⟨X+1,1,none⟩=some (.int .u32 (c.2.val:Int))):=fun W q=>by
  have h:=(q.block (X+1) (by omega)).trans xc
  exact⟨by simp [World.cell?,h],by simp [World.cell?,h]⟩
 have HZ:Hid (∀ W,Below w1.heap.size w1 W→Six W (X+2) (.int .i64 0) (.int .i64 0) (.string ⟨#[]⟩) (.slice none 0 0) (.slice none 0 0) (.slice none 0 0)):=fun W q=>x2.blw q
 have HT:Hid (∀ W,Below w1.heap.size w1 W→TmIn Tt W t (.agg #[.int .i64 t.kind,.int .i64 t.n,.string t.name,.slice ra t.r.length rc,.slice ka t.kids.length kc,.slice sa t.sys.length sc])):=fun W q=>((ht.blw b1).blw q).value
 have HB:Hid (∀ W,Below w1.heap.size w1 W→Below X w W):=fun W q=>by rw [hX];exact bchain b1 q
 have HXs:Hid (X=w.heap.size):=hX
 have Hs1:Hid (w1.heap.size=X+3):=s1
 have HW:Hid (_=_):=hw1
 have cw:=formed_any t _ w1 (HT.out w1 (Below.refl _ _)) hb
 have HE:Hid (undA c t=if wrongN true 0 0 t=0 then (if rightA [c]=true then undR c t else (noT,2)) else (noT,((wrongN true 0 0 t:Nat):Int))):=(rfl:_=_)
 have HE2:Hid (undR c t=if (pall [top0] (dimsOf c.1.val) t).2=0 then pall [] (dimsOf c.2.val) (pall [top0] (dimsOf c.1.val) t).1 else (noT,(pall [top0] (dimsOf c.1.val) t).2)):=(rfl:_=_)
 obtain⟨f,hf⟩:∃ f,f=wrongN true 0 0 t:=⟨_,rfl⟩
 rw [← hf] at cw HE
 rw [← hX]
 have Hb:Hid (blk t≤20000):=hb
 have Hcp:Hid (capT t≤40000):=hcp
 have hc1:=c.1.isLt
 have hc2:=c.2.isLt
 clear hf hw1 hX s1 x1 x2 xc hv ht b1 hb hcp
 show Calls Tryz.prog 16 #[.agg #[.int .i64 t.kind,.int .i64 t.n,.string t.name,.slice ra t.r.length rc,.slice ka t.kids.length kc,.slice sa t.sys.length sc],.agg #[.int .u32 (c.1.val:Int),.int .u32 (c.2.val:Int)]] w _
 go_enter Tryz.func16,Tryz.ntmps16
 go_upto_region 1 with fail
 rw [← HW.out]
 simp only [← HXs.out]
 clear HW
 obtain⟨y0,y1,y2,y3,y4,y5,_⟩:=(HC.out w1 (Below.refl _ _)).cells
 go_wp2_with fail
 refine cw.mono ?_
 rintro e w2 ⟨rfl,b2⟩
 clear cw y0 y1 y2 y3 y4 y5
 have hsz:=Hs1.out
 by_cases hz:f=0
 rotate_left
 ·have Hf:Hid (undA c t=(noT,(f:Int))):=(by rw [HE.out,if_neg hz]:_=_)
  have hz1:((f:Int) == 0)=false:=by simp;omega
  clear HE HE2
  have zz:=HZ.out w2 b2
  have zz2:=zz.set6 (.int .i64 0) (.int .i64 0) (.string ⟨#[]⟩) (.slice none 0 0) (.slice none 0 0) (.slice none 0 0)
  obtain⟨o0,o1,o2,o3,o4,o5,ff⟩:=zz.cells
  have f0:=ff 0
  have f1:=ff 1
  have f2:=ff 2
  have f3:=ff 3
  have f4:=ff 4
  have f5:=ff 5
  obtain⟨h0,h1,h2,h3,h4,h5,_⟩:=zz2.cells
  obtain⟨wz,hwz⟩:∃ W,W=(((((w2.setCell ⟨X+2,0,none⟩ (.int .i64 0)).setCell ⟨X+2,1,none⟩ (.int .i64 0)).setCell ⟨X+2,2,none⟩ (.string ⟨#[]⟩)).setCell ⟨X+2,3,none⟩ (.slice none 0 0)).setCell ⟨X+2,4,none⟩ (.slice none 0 0)).setCell ⟨X+2,5,none⟩ (.slice none 0 0):=⟨_,rfl⟩
  rw [← hwz] at h0 h1 h2 h3 h4 h5
  have kz:Kn (fun q=>q≠X+2) w2 wz:=by rw [hwz];exact kn_set6 _ _ _ _ _ _ _ _
  have bz:Below X w wz:=(HB.out w2 b2).trans (kz.below (fun q hq=>by omega) (by have:=(HB.out w2 b2).size;have:=HXs.out;omega))
  have Hwz:Hid (_=_):=hwz
  clear hwz ff zz zz2 kz
  go_wp2_with fail
  rw [← Hwz.out]
  exact bodyPost_ret (v:=.tuple #[.agg #[.int .i64 0,.int .i64 0,.string ⟨#[]⟩,.slice none 0 0,.slice none 0 0,.slice none 0 0],.int .i64 ((f:Int))]) (by simp only [results,Tryz.results16];simp [go_sem,h0,h1,h2,h3,h4,h5]) rfl ⟨_,by rw [Hf.out],fun V q=>by rw [Hf.out];exact noT_in _ _,bz⟩
 subst hz
 rw [if_pos rfl] at HE
 obtain⟨w3,hw3⟩:∃ V,V=w2.alloc (.cells #[.int .u32 (c.1.val:Int),.int .u32 (c.2.val:Int)] 38):=⟨_,rfl⟩
 have b3:Below w2.heap.size w2 w3:=by rw [hw3];exact belowA _ _
 have hO3:OwnsC w3 w2.heap.size (.slice (some ⟨w2.heap.size,0,none⟩) 1 1) [c]:=by rw [hw3];exact own_one1 w2 c _ (Nat.le_refl _)
 have b13:Below w1.heap.size w1 w3:=b2.trans (b3.mono b2.size)
 have cR:=aright_any [c] _ w3 (OwnsC.frow hO3) (by simp)
 obtain⟨y0,y1⟩:=HCc.out w2 b2
 have H3:Hid (_=_):=hw3
 clear hw3 hO3 b3
 go_wp2_with (rw [← H3.out];fail)
 try rw [← H3.out]
 refine cR.mono ?_
 rintro e w4 ⟨rfl,b4⟩
 clear cR y0 y1
 have b14:Below w1.heap.size w1 w4:=b13.trans (b4.mono b13.size)
 clear b13 b4
 cases hq:rightA [c]
 ·have Hf:Hid (undA c t=(noT,2)):=(by rw [HE.out,if_neg (by rw [hq];simp)]:_=_)
  clear HE HE2
  have zz:=HZ.out w4 b14
  have zz2:=zz.set6 (.int .i64 0) (.int .i64 0) (.string ⟨#[]⟩) (.slice none 0 0) (.slice none 0 0) (.slice none 0 0)
  obtain⟨o0,o1,o2,o3,o4,o5,ff⟩:=zz.cells
  have f0:=ff 0
  have f1:=ff 1
  have f2:=ff 2
  have f3:=ff 3
  have f4:=ff 4
  have f5:=ff 5
  obtain⟨h0,h1,h2,h3,h4,h5,_⟩:=zz2.cells
  obtain⟨wz,hwz⟩:∃ W,W=(((((w4.setCell ⟨X+2,0,none⟩ (.int .i64 0)).setCell ⟨X+2,1,none⟩ (.int .i64 0)).setCell ⟨X+2,2,none⟩ (.string ⟨#[]⟩)).setCell ⟨X+2,3,none⟩ (.slice none 0 0)).setCell ⟨X+2,4,none⟩ (.slice none 0 0)).setCell ⟨X+2,5,none⟩ (.slice none 0 0):=⟨_,rfl⟩
  rw [← hwz] at h0 h1 h2 h3 h4 h5
  have kz:Kn (fun q=>q≠X+2) w4 wz:=by rw [hwz];exact kn_set6 _ _ _ _ _ _ _ _
  have bz:Below X w wz:=(HB.out w4 b14).trans (kz.below (fun q hq=>by omega) (by have:=(HB.out w4 b14).size;have:=HXs.out;omega))
  have Hwz:Hid (_=_):=hwz
  clear hwz ff zz zz2 kz
  go_wp2_with fail
  rw [← Hwz.out]
  exact bodyPost_ret (v:=.tuple #[.agg #[.int .i64 0,.int .i64 0,.string ⟨#[]⟩,.slice none 0 0,.slice none 0 0,.slice none 0 0],.int .i64 (2)]) (by simp only [results,Tryz.results16];simp [go_sem,h0,h1,h2,h3,h4,h5]) rfl ⟨_,by rw [Hf.out],fun V q=>by rw [Hf.out];exact noT_in _ _,bz⟩
 rw [if_pos hq,HE2.out] at HE
 clear HE2 hq
 obtain⟨A,hA⟩:∃ A,A=pall [top0] (dimsOf c.1.val) t:=⟨_,rfl⟩
 have HAc:Hid (capT A.1≤40000):=(by have h1:=cap_pall (r:=[top0]) (dimsOf c.1.val) (t,0);have h2:=Hcp.out;rw [hA];unfold pall;simp at h1;omega:_≤_)
 rw [← hA] at HE
 obtain⟨T,er⟩:=A
 dsimp only at HE HAc
 have cCp:Hid (∀ V,Below w4.heap.size w4 V→Calls Tryz.prog 47 #[.agg #[.int .i64 t.kind,.int .i64 t.n,.string t.name,.slice ra t.r.length rc,.slice ka t.kids.length kc,.slice sa t.sys.length sc]] V fun e w'=>∃ v',e=.returned v'∧TmIn (OkN V.heap.size w') w' t v'∧Below V.heap.size V w'):=fun V q=>copy_any t _ V (HT.out V (b14.trans (q.mono b14.size))) (by have:=Hb.out;omega)
 have cPa:Hid (∀ (P:Nat→Prop) V v vr,(∀ W,Kn P V W→TmIn Tt W t v)→ClRow Tt V [top0] vr→Calls Tryz.prog 46 #[v,.int .u32 (c.1.val:Int),vr] V fun e w'=>∃ v',e=.returned (.tuple #[v',.int .i64 er])∧(∀ W,Kn (fun q=>P q∨V.heap.size≤q) w' W→TmIn Tt W T v')∧Below V.heap.size V w'):=fun P V v vr h1 h2=>by
  have:=pall_any P t v V h1 Hcp.out c.1.val hc1 [top0] vr h2 (by simp)
  rw [← hA] at this
  exact this
 have HC4:Hid (∀ V,Below w4.heap.size w4 V→Six V X (.int .i64 t.kind) (.int .i64 t.n) (.string t.name) (.slice ra t.r.length rc) (.slice ka t.kids.length kc) (.slice sa t.sys.length sc)∧V.cell? ⟨X+1,0,none⟩=some (.int .u32 (c.1.val:Int))∧V.cell? ⟨X+1,1,none⟩=some (.int .u32 (c.2.val:Int))):=fun V q=>⟨HC.out V (b14.trans (q.mono b14.size)),HCc.out V (b14.trans (q.mono b14.size))⟩
 clear hA
 go_upto_region 6 with fail
 have hS1:Below w4.heap.size w4 w4:=Below.refl _ _
 go_cut [7,8] (fun s se wx=>∃ o ra2 rc2 ka2 kc2 sa2 sc2,s=.pointer (some ⟨o,0,none⟩)∧se=.int .i64 er∧Six wx o (.int .i64 T.kind) (.int .i64 T.n) (.string T.name) (.slice ra2 T.r.length rc2) (.slice ka2 T.kids.length kc2) (.slice sa2 T.sys.length sc2)∧(∀ V,Kn (fun q=>w4.heap.size≤q) wx V→TmIn Tt V T (.agg #[.int .i64 T.kind,.int .i64 T.n,.string T.name,.slice ra2 T.r.length rc2,.slice ka2 T.kids.length kc2,.slice sa2 T.sys.length sc2]))∧Below w4.heap.size w4 wx∧w4.heap.size≤o)
 case first=>as_aux_lemma =>
  refine wp_region_held_drew (S:=fun V=>Below w4.heap.size w4 V) (by kernel_rfl) (hS1.drew) (fun hS=>?_)
  obtain⟨wd,hwd⟩:∃ V,V=w4.drew:=⟨_,rfl⟩
  rw [← hwd] at hS ⊢
  have hwd4:w4.heap.size≤wd.heap.size:=hS.size
  clear hwd
  refine wpAnyH_take (i:=0) (v:=.agg #[.int .i64 t.kind,.int .i64 t.n,.string t.name,.slice ra t.r.length rc,.slice ka t.kids.length kc,.slice sa t.sys.length sc]) rfl (by kernel_rfl) (by kernel_rfl) (by kernel_rfl) (fun _ _ _ h=>h) (Or.inl ⟨by rfl,fun w hS=>by obtain⟨y0,y1,y2,y3,y4,y5,_⟩:=(HC4.out w hS).1.cells;go_simp⟩) hS ?_
  try simp only [Act.put,List.getElem_toArray,List.getElem_cons_zero,List.getElem_cons_succ,List.setIfInBounds_toArray,List.set_cons_zero,List.set_cons_succ]
  refine wpAnyH_take (i:=2) (v:=.pointer (some ⟨X+1,0,none⟩)) rfl (by kernel_rfl) (by kernel_rfl) (by kernel_rfl) (fun _ _ _ h=>h) (Or.inl ⟨by rfl,fun w hS=>by go_simp⟩) hS ?_
  try simp only [Act.put,List.getElem_toArray,List.getElem_cons_zero,List.getElem_cons_succ,List.setIfInBounds_toArray,List.set_cons_zero,List.set_cons_succ]
  refine wpAnyH_take (i:=3) (v:=.int .u32 (c.1.val:Int)) rfl (by kernel_rfl) (by kernel_rfl) (by kernel_rfl) (fun _ _ _ h=>h) (Or.inl ⟨by rfl,fun w hS=>by have e:=(HC4.out w hS).2.1;go_simp⟩) hS ?_
  try simp only [Act.put,List.getElem_toArray,List.getElem_cons_zero,List.getElem_cons_succ,List.setIfInBounds_toArray,List.set_cons_zero,List.set_cons_succ]
  refine wpAnyH_ready (rs:=[1,9]) (by kernel_rfl) (by simp) ?_
  refine ready_cons rfl (fun KK hKK=>?_) (ready_cons rfl (fun KK hKK=>?_) AllReadyH.nil)
  ·skip
   refine⟨?_⟩
   have cc:=cCp.out wd hS
   go_simp
   refine cc.mono ?_
   rintro e u6w ⟨vt,rfl,hvt,hbu6w⟩
   have hSu6w:Below w4.heap.size w4 u6w:=hS.trans (hbu6w.mono hS.size)
   have hPs:∀ W,Kn (fun q=>w4.heap.size≤q) u6w W→TmIn Tt W t vt:=fun W q=>hvt.keep q.size (fun _ _=>trivial) (fun k hk hs=>q.block k (by have:=hk.1;have:=hS.size;omega) hs)
   clear cc hvt
   refine hKK.out _ _ hSu6w (fun hS=>?_)
   clear hKK KK
   try simp only [Act.put,List.getElem_toArray,List.getElem_cons_zero,List.getElem_cons_succ,List.setIfInBounds_toArray,List.set_cons_zero,List.set_cons_succ]
   refine wpAnyH_ready (rs:=[4,9]) (by kernel_rfl) (by simp) ?_
   refine ready_cons rfl (fun KK hKK=>?_) (ready_cons rfl (fun KK hKK=>?_) AllReadyH.nil)
   ·skip
    refine⟨?_⟩
    have cc:=one_any u6w
    go_simp
    refine cc.mono ?_
    rintro e u7w ⟨vr,rfl,hvr,hbu7w⟩
    have hSu7w:Below w4.heap.size w4 u7w:=hS.trans (hbu7w.mono hS.size)
    have hRr:ClRow Tt u7w [top0] vr:=(OwnsC.okn hvr).keep (Nat.le_refl _) (fun _ _=>trivial) (fun _ _ _=>rfl)
    clear cc hvr
    have hPs:∀ W,Kn (fun q=>w4.heap.size≤q) u7w W→TmIn Tt W t vt:=fun W q=>hPs W ((Kn.of_below hbu7w).trans q)
    refine hKK.out _ _ hSu7w (fun hS=>?_)
    clear hKK KK
    try simp only [Act.put,List.getElem_toArray,List.getElem_cons_zero,List.getElem_cons_succ,List.setIfInBounds_toArray,List.set_cons_zero,List.set_cons_succ]
    refine wpAnyH_ready (rs:=[5,9]) (by kernel_rfl) (by simp) ?_
    refine ready_cons rfl (fun KK hKK=>?_) (ready_cons rfl (fun KK hKK=>?_) AllReadyH.nil)
    ·skip
     refine⟨?_⟩
     have cc:=cPa.out (fun q=>w4.heap.size≤q) u7w vt vr hPs hRr
     go_simp
     refine cc.mono ?_
     rintro e u8w ⟨v9,rfl,hv9,hbu8w⟩
     have hSu8w:Below w4.heap.size w4 u8w:=hS.trans (hbu8w.mono hS.size)
     obtain⟨ra2,rc2,ka2,kc2,sa2,sc2,rfl,_⟩:=(hv9 u8w (Kn.refl _ _)).form
     clear cc
     refine hKK.out _ _ hSu8w (fun hS=>?_)
     clear hKK KK
     try simp only [Act.put,List.getElem_toArray,List.getElem_cons_zero,List.getElem_cons_succ,List.setIfInBounds_toArray,List.set_cons_zero,List.set_cons_succ]
     refine wpAnyH_take (i:=6) (v:=.tuple #[.agg #[.int .i64 T.kind,.int .i64 T.n,.string T.name,.slice ra2 T.r.length rc2,.slice ka2 T.kids.length kc2,.slice sa2 T.sys.length sc2],.int .i64 er]) rfl (by kernel_rfl) (by kernel_rfl) (by kernel_rfl) (fun _ _ _ h=>h) (Or.inl ⟨by rfl,fun w hS=>by go_simp⟩) hS ?_
     try simp only [Act.put,List.getElem_toArray,List.getElem_cons_zero,List.getElem_cons_succ,List.setIfInBounds_toArray,List.set_cons_zero,List.set_cons_succ]
     refine wpAnyH_take (i:=7) (v:=.agg #[.int .i64 T.kind,.int .i64 T.n,.string T.name,.slice ra2 T.r.length rc2,.slice ka2 T.kids.length kc2,.slice sa2 T.sys.length sc2]) rfl (by kernel_rfl) (by kernel_rfl) (by kernel_rfl) (fun _ _ _ h=>h) (Or.inl ⟨by rfl,fun w hS=>by go_simp⟩) hS ?_
     try simp only [Act.put,List.getElem_toArray,List.getElem_cons_zero,List.getElem_cons_succ,List.setIfInBounds_toArray,List.set_cons_zero,List.set_cons_succ]
     refine wpAnyH_take (i:=8) (v:=.int .i64 er) rfl (by kernel_rfl) (by kernel_rfl) (by kernel_rfl) (fun _ _ _ h=>h) (Or.inl ⟨by rfl,fun w hS=>by go_simp⟩) hS ?_
     try simp only [Act.put,List.getElem_toArray,List.getElem_cons_zero,List.getElem_cons_succ,List.setIfInBounds_toArray,List.set_cons_zero,List.set_cons_succ]
     refine wpAnyH_ready (rs:=[9]) (by kernel_rfl) (by simp) ?_
     refine ready_cons rfl (fun KK hKK=>?_) AllReadyH.nil
     have:=hbu6w.size
     have:=hbu7w.size
     have:=hbu8w.size
     obtain⟨u9w,hu9w⟩:∃ W,W=u8w.alloc (.cells #[.int .i64 0,.int .i64 0,.string ⟨#[]⟩,.slice none 0 0,.slice none 0 0,.slice none 0 0] 26):=⟨_,rfl⟩
     have bu9w:Below u8w.heap.size u8w u9w:=by rw [hu9w];exact belowA _ _
     have su9w:u9w.heap.size=u8w.heap.size+1:=by rw [hu9w];simp
     have hZ:Six u9w u8w.heap.size (.int .i64 0) (.int .i64 0) (.string ⟨#[]⟩) (.slice none 0 0) (.slice none 0 0) (.slice none 0 0):=⟨by rw [hu9w];exact heapNew _ _⟩
     have hge:w4.heap.size≤u8w.heap.size:=hS.size
     have hSu9w:Below w4.heap.size w4 u9w:=hS.trans (bu9w.mono hS.size)
     have Hu9w:Hid (_=_):=hu9w
     clear hu9w
     refine⟨?_⟩
     go_simp
     rw [← Hu9w.out]
     refine hKK.out _ _ hSu9w (fun hS=>?_)
     clear hKK KK
     try simp only [Act.put,List.getElem_toArray,List.getElem_cons_zero,List.getElem_cons_succ,List.setIfInBounds_toArray,List.set_cons_zero,List.set_cons_succ]
     have zz2:=hZ.set6 (.int .i64 T.kind) (.int .i64 T.n) (.string T.name) (.slice ra2 T.r.length rc2) (.slice ka2 T.kids.length kc2) (.slice sa2 T.sys.length sc2)
     obtain⟨o0,o1,o2,o3,o4,o5,ff⟩:=hZ.cells
     have f0:=ff 0
     have f1:=ff 1
     have f2:=ff 2
     have f3:=ff 3
     have f4:=ff 4
     have f5:=ff 5
     obtain⟨w9,hwz⟩:∃ W,W=(((((u9w.setCell ⟨u8w.heap.size,0,none⟩ (.int .i64 T.kind)).setCell ⟨u8w.heap.size,1,none⟩ (.int .i64 T.n)).setCell ⟨u8w.heap.size,2,none⟩ (.string T.name)).setCell ⟨u8w.heap.size,3,none⟩ (.slice ra2 T.r.length rc2)).setCell ⟨u8w.heap.size,4,none⟩ (.slice ka2 T.kids.length kc2)).setCell ⟨u8w.heap.size,5,none⟩ (.slice sa2 T.sys.length sc2):=⟨_,rfl⟩
     rw [← hwz] at zz2
     have kz:Kn (fun q=>q≠u8w.heap.size) u9w w9:=by rw [hwz];exact kn_set6 _ _ _ _ _ _ _ _
     have hs4:=hS.size
     have HTm:Hid (∀ V,Kn (fun q=>w4.heap.size≤q) w9 V→TmIn Tt V T (.agg #[.int .i64 T.kind,.int .i64 T.n,.string T.name,.slice ra2 T.r.length rc2,.slice ka2 T.kids.length kc2,.slice sa2 T.sys.length sc2])):=fun W q=>hv9 W ⟨q.os.trans (kz.os.trans bu9w.os),q.tape.trans (kz.tape.trans bu9w.tape),q.output.trans (kz.output.trans bu9w.output),Nat.le_trans (Nat.le_trans bu9w.size kz.size) q.size,fun k hk hs=>(q.block k (by rcases hk with h | h <;> omega) (by have:=bu9w.size;have:=kz.size;omega)).trans ((kz.block k (by omega) (by have:=bu9w.size;omega)).trans (bu9w.block k hs))⟩
     have hS5:Below w4.heap.size w4 w9:=hS.trans (kz.below (fun q hq=>by omega) hS.size)
     have Hwz:Hid (_=_):=hwz
     clear hwz ff kz hv9
     refine wpAnyH_ready (rs:=[10]) (by kernel_rfl) (by simp) ?_
     refine ready_cons rfl (fun KK hKK=>?_) AllReadyH.nil
     refine⟨?_⟩
     go_simp
     rw [← Hwz.out]
     refine hKK.out _ _ hS5 (fun hS=>?_)
     clear hKK KK
     try simp only [Act.put,List.getElem_toArray,List.getElem_cons_zero,List.getElem_cons_succ,List.setIfInBounds_toArray,List.set_cons_zero,List.set_cons_succ]
     refine wpAnyH_take (i:=11) (v:=.int .i64 er) rfl (by kernel_rfl) (by kernel_rfl) (by kernel_rfl) (fun _ _ _ h=>h) (Or.inl ⟨by rfl,fun w hS=>by go_simp⟩) hS ?_
     try simp only [Act.put,List.getElem_toArray,List.getElem_cons_zero,List.getElem_cons_succ,List.setIfInBounds_toArray,List.set_cons_zero,List.set_cons_succ]
     refine wpAnyH_done (by kernel_rfl) ?_ _
     go_wp2_with fail
     go_meet
     exact⟨_,_,_,_,_,_,_,rfl,rfl,zz2,HTm.out,hS,hge⟩
    ·skip
     obtain⟨u10w,hu10w⟩:∃ W,W=u7w.alloc (.cells #[.int .i64 0,.int .i64 0,.string ⟨#[]⟩,.slice none 0 0,.slice none 0 0,.slice none 0 0] 26):=⟨_,rfl⟩
     have bu10w:Below u7w.heap.size u7w u10w:=by rw [hu10w];exact belowA _ _
     have su10w:u10w.heap.size=u7w.heap.size+1:=by rw [hu10w];simp
     have hZ:Six u10w u7w.heap.size (.int .i64 0) (.int .i64 0) (.string ⟨#[]⟩) (.slice none 0 0) (.slice none 0 0) (.slice none 0 0):=⟨by rw [hu10w];exact heapNew _ _⟩
     have hge:w4.heap.size≤u7w.heap.size:=hS.size
     have hSu10w:Below w4.heap.size w4 u10w:=hS.trans (bu10w.mono hS.size)
     have Hu10w:Hid (_=_):=hu10w
     clear hu10w
     refine⟨?_⟩
     go_simp
     rw [← Hu10w.out]
     refine hKK.out _ _ hSu10w (fun hS=>?_)
     clear hKK KK
     try simp only [Act.put,List.getElem_toArray,List.getElem_cons_zero,List.getElem_cons_succ,List.setIfInBounds_toArray,List.set_cons_zero,List.set_cons_succ]
     have hPs:∀ W,Kn (fun q=>w4.heap.size≤q∧q≠u7w.heap.size) u10w W→TmIn Tt W t vt:=fun W q=>hPs W ⟨q.os.trans bu10w.os,q.tape.trans bu10w.tape,q.output.trans bu10w.output,Nat.le_trans bu10w.size q.size,fun k hk hs=>(q.block k ⟨hk,by omega⟩ (Nat.lt_of_lt_of_le hs bu10w.size)).trans (bu10w.block k hs)⟩
     have hRr:=hRr.blw bu10w
     refine wpAnyH_ready (rs:=[5]) (by kernel_rfl) (by simp) ?_
     refine ready_cons rfl (fun KK hKK=>?_) AllReadyH.nil
     refine⟨?_⟩
     have cc:=cPa.out (fun q=>w4.heap.size≤q∧q≠u7w.heap.size) u10w vt vr hPs hRr
     go_simp
     refine cc.mono ?_
     rintro e u11w ⟨v9,rfl,hv9,hbu11w⟩
     have hSu11w:Below w4.heap.size w4 u11w:=hS.trans (hbu11w.mono hS.size)
     obtain⟨ra2,rc2,ka2,kc2,sa2,sc2,rfl,_⟩:=(hv9 u11w (Kn.refl _ _)).form
     clear cc
     have hZ:=hZ.blw hbu11w
     refine hKK.out _ _ hSu11w (fun hS=>?_)
     clear hKK KK
     try simp only [Act.put,List.getElem_toArray,List.getElem_cons_zero,List.getElem_cons_succ,List.setIfInBounds_toArray,List.set_cons_zero,List.set_cons_succ]
     refine wpAnyH_take (i:=6) (v:=.tuple #[.agg #[.int .i64 T.kind,.int .i64 T.n,.string T.name,.slice ra2 T.r.length rc2,.slice ka2 T.kids.length kc2,.slice sa2 T.sys.length sc2],.int .i64 er]) rfl (by kernel_rfl) (by kernel_rfl) (by kernel_rfl) (fun _ _ _ h=>h) (Or.inl ⟨by rfl,fun w hS=>by go_simp⟩) hS ?_
     try simp only [Act.put,List.getElem_toArray,List.getElem_cons_zero,List.getElem_cons_succ,List.setIfInBounds_toArray,List.set_cons_zero,List.set_cons_succ]
     refine wpAnyH_take (i:=7) (v:=.agg #[.int .i64 T.kind,.int .i64 T.n,.string T.name,.slice ra2 T.r.length rc2,.slice ka2 T.kids.length kc2,.slice sa2 T.sys.length sc2]) rfl (by kernel_rfl) (by kernel_rfl) (by kernel_rfl) (fun _ _ _ h=>h) (Or.inl ⟨by rfl,fun w hS=>by go_simp⟩) hS ?_
     try simp only [Act.put,List.getElem_toArray,List.getElem_cons_zero,List.getElem_cons_succ,List.setIfInBounds_toArray,List.set_cons_zero,List.set_cons_succ]
     refine wpAnyH_take (i:=8) (v:=.int .i64 er) rfl (by kernel_rfl) (by kernel_rfl) (by kernel_rfl) (fun _ _ _ h=>h) (Or.inl ⟨by rfl,fun w hS=>by go_simp⟩) hS ?_
     try simp only [Act.put,List.getElem_toArray,List.getElem_cons_zero,List.getElem_cons_succ,List.setIfInBounds_toArray,List.set_cons_zero,List.set_cons_succ]
     have:=hbu6w.size
     have:=hbu7w.size
     have:=bu10w.size
     have:=hbu11w.size
     have zz2:=hZ.set6 (.int .i64 T.kind) (.int .i64 T.n) (.string T.name) (.slice ra2 T.r.length rc2) (.slice ka2 T.kids.length kc2) (.slice sa2 T.sys.length sc2)
     obtain⟨o0,o1,o2,o3,o4,o5,ff⟩:=hZ.cells
     have f0:=ff 0
     have f1:=ff 1
     have f2:=ff 2
     have f3:=ff 3
     have f4:=ff 4
     have f5:=ff 5
     obtain⟨w9,hwz⟩:∃ W,W=(((((u11w.setCell ⟨u7w.heap.size,0,none⟩ (.int .i64 T.kind)).setCell ⟨u7w.heap.size,1,none⟩ (.int .i64 T.n)).setCell ⟨u7w.heap.size,2,none⟩ (.string T.name)).setCell ⟨u7w.heap.size,3,none⟩ (.slice ra2 T.r.length rc2)).setCell ⟨u7w.heap.size,4,none⟩ (.slice ka2 T.kids.length kc2)).setCell ⟨u7w.heap.size,5,none⟩ (.slice sa2 T.sys.length sc2):=⟨_,rfl⟩
     rw [← hwz] at zz2
     have kz:Kn (fun q=>q≠u7w.heap.size) u11w w9:=by rw [hwz];exact kn_set6 _ _ _ _ _ _ _ _
     have hs4:=hS.size
     have HTm:Hid (∀ V,Kn (fun q=>w4.heap.size≤q) w9 V→TmIn Tt V T (.agg #[.int .i64 T.kind,.int .i64 T.n,.string T.name,.slice ra2 T.r.length rc2,.slice ka2 T.kids.length kc2,.slice sa2 T.sys.length sc2])):=fun W q=>hv9 W ⟨q.os.trans kz.os,q.tape.trans kz.tape,q.output.trans kz.output,Nat.le_trans kz.size q.size,fun k hk hs=>(q.block k (by rcases hk with h | h <;> omega) (Nat.lt_of_lt_of_le hs kz.size)).trans (kz.block k (by rcases hk with h | h <;> omega) hs)⟩
     have hS5:Below w4.heap.size w4 w9:=hS.trans (kz.below (fun q hq=>by omega) hS.size)
     have Hwz:Hid (_=_):=hwz
     clear hwz ff kz hv9
     refine wpAnyH_ready (rs:=[10]) (by kernel_rfl) (by simp) ?_
     refine ready_cons rfl (fun KK hKK=>?_) AllReadyH.nil
     refine⟨?_⟩
     go_simp
     rw [← Hwz.out]
     refine hKK.out _ _ hS5 (fun hS=>?_)
     clear hKK KK
     try simp only [Act.put,List.getElem_toArray,List.getElem_cons_zero,List.getElem_cons_succ,List.setIfInBounds_toArray,List.set_cons_zero,List.set_cons_succ]
     refine wpAnyH_take (i:=11) (v:=.int .i64 er) rfl (by kernel_rfl) (by kernel_rfl) (by kernel_rfl) (fun _ _ _ h=>h) (Or.inl ⟨by rfl,fun w hS=>by go_simp⟩) hS ?_
     try simp only [Act.put,List.getElem_toArray,List.getElem_cons_zero,List.getElem_cons_succ,List.setIfInBounds_toArray,List.set_cons_zero,List.set_cons_succ]
     refine wpAnyH_done (by kernel_rfl) ?_ _
     go_wp2_with fail
     go_meet
     exact⟨_,_,_,_,_,_,_,rfl,rfl,zz2,HTm.out,hS,hge⟩
   ·skip
    obtain⟨u12w,hu12w⟩:∃ W,W=u6w.alloc (.cells #[.int .i64 0,.int .i64 0,.string ⟨#[]⟩,.slice none 0 0,.slice none 0 0,.slice none 0 0] 26):=⟨_,rfl⟩
    have bu12w:Below u6w.heap.size u6w u12w:=by rw [hu12w];exact belowA _ _
    have su12w:u12w.heap.size=u6w.heap.size+1:=by rw [hu12w];simp
    have hZ:Six u12w u6w.heap.size (.int .i64 0) (.int .i64 0) (.string ⟨#[]⟩) (.slice none 0 0) (.slice none 0 0) (.slice none 0 0):=⟨by rw [hu12w];exact heapNew _ _⟩
    have hge:w4.heap.size≤u6w.heap.size:=hS.size
    have hSu12w:Below w4.heap.size w4 u12w:=hS.trans (bu12w.mono hS.size)
    have Hu12w:Hid (_=_):=hu12w
    clear hu12w
    refine⟨?_⟩
    go_simp
    rw [← Hu12w.out]
    refine hKK.out _ _ hSu12w (fun hS=>?_)
    clear hKK KK
    try simp only [Act.put,List.getElem_toArray,List.getElem_cons_zero,List.getElem_cons_succ,List.setIfInBounds_toArray,List.set_cons_zero,List.set_cons_succ]
    have hPs:∀ W,Kn (fun q=>w4.heap.size≤q∧q≠u6w.heap.size) u12w W→TmIn Tt W t vt:=fun W q=>hPs W ⟨q.os.trans bu12w.os,q.tape.trans bu12w.tape,q.output.trans bu12w.output,Nat.le_trans bu12w.size q.size,fun k hk hs=>(q.block k ⟨hk,by omega⟩ (Nat.lt_of_lt_of_le hs bu12w.size)).trans (bu12w.block k hs)⟩
    refine wpAnyH_ready (rs:=[4]) (by kernel_rfl) (by simp) ?_
    refine ready_cons rfl (fun KK hKK=>?_) AllReadyH.nil
    refine⟨?_⟩
    have cc:=one_any u12w
    go_simp
    refine cc.mono ?_
    rintro e u13w ⟨vr,rfl,hvr,hbu13w⟩
    have hSu13w:Below w4.heap.size w4 u13w:=hS.trans (hbu13w.mono hS.size)
    have hRr:ClRow Tt u13w [top0] vr:=(OwnsC.okn hvr).keep (Nat.le_refl _) (fun _ _=>trivial) (fun _ _ _=>rfl)
    clear cc hvr
    have hZ:=hZ.blw hbu13w
    have hPs:∀ W,Kn (fun q=>w4.heap.size≤q∧q≠u6w.heap.size) u13w W→TmIn Tt W t vt:=fun W q=>hPs W ((Kn.of_below hbu13w).trans q)
    refine hKK.out _ _ hSu13w (fun hS=>?_)
    clear hKK KK
    try simp only [Act.put,List.getElem_toArray,List.getElem_cons_zero,List.getElem_cons_succ,List.setIfInBounds_toArray,List.set_cons_zero,List.set_cons_succ]
    refine wpAnyH_ready (rs:=[5]) (by kernel_rfl) (by simp) ?_
    refine ready_cons rfl (fun KK hKK=>?_) AllReadyH.nil
    refine⟨?_⟩
    have cc:=cPa.out (fun q=>w4.heap.size≤q∧q≠u6w.heap.size) u13w vt vr hPs hRr
    go_simp
    refine cc.mono ?_
    rintro e u14w ⟨v9,rfl,hv9,hbu14w⟩
    have hSu14w:Below w4.heap.size w4 u14w:=hS.trans (hbu14w.mono hS.size)
    obtain⟨ra2,rc2,ka2,kc2,sa2,sc2,rfl,_⟩:=(hv9 u14w (Kn.refl _ _)).form
    clear cc
    have hZ:=hZ.blw hbu14w
    refine hKK.out _ _ hSu14w (fun hS=>?_)
    clear hKK KK
    try simp only [Act.put,List.getElem_toArray,List.getElem_cons_zero,List.getElem_cons_succ,List.setIfInBounds_toArray,List.set_cons_zero,List.set_cons_succ]
    refine wpAnyH_take (i:=6) (v:=.tuple #[.agg #[.int .i64 T.kind,.int .i64 T.n,.string T.name,.slice ra2 T.r.length rc2,.slice ka2 T.kids.length kc2,.slice sa2 T.sys.length sc2],.int .i64 er]) rfl (by kernel_rfl) (by kernel_rfl) (by kernel_rfl) (fun _ _ _ h=>h) (Or.inl ⟨by rfl,fun w hS=>by go_simp⟩) hS ?_
    try simp only [Act.put,List.getElem_toArray,List.getElem_cons_zero,List.getElem_cons_succ,List.setIfInBounds_toArray,List.set_cons_zero,List.set_cons_succ]
    refine wpAnyH_take (i:=7) (v:=.agg #[.int .i64 T.kind,.int .i64 T.n,.string T.name,.slice ra2 T.r.length rc2,.slice ka2 T.kids.length kc2,.slice sa2 T.sys.length sc2]) rfl (by kernel_rfl) (by kernel_rfl) (by kernel_rfl) (fun _ _ _ h=>h) (Or.inl ⟨by rfl,fun w hS=>by go_simp⟩) hS ?_
    try simp only [Act.put,List.getElem_toArray,List.getElem_cons_zero,List.getElem_cons_succ,List.setIfInBounds_toArray,List.set_cons_zero,List.set_cons_succ]
    refine wpAnyH_take (i:=8) (v:=.int .i64 er) rfl (by kernel_rfl) (by kernel_rfl) (by kernel_rfl) (fun _ _ _ h=>h) (Or.inl ⟨by rfl,fun w hS=>by go_simp⟩) hS ?_
    try simp only [Act.put,List.getElem_toArray,List.getElem_cons_zero,List.getElem_cons_succ,List.setIfInBounds_toArray,List.set_cons_zero,List.set_cons_succ]
    have:=hbu6w.size
    have:=bu12w.size
    have:=hbu13w.size
    have:=hbu14w.size
    have zz2:=hZ.set6 (.int .i64 T.kind) (.int .i64 T.n) (.string T.name) (.slice ra2 T.r.length rc2) (.slice ka2 T.kids.length kc2) (.slice sa2 T.sys.length sc2)
    obtain⟨o0,o1,o2,o3,o4,o5,ff⟩:=hZ.cells
    have f0:=ff 0
    have f1:=ff 1
    have f2:=ff 2
    have f3:=ff 3
    have f4:=ff 4
    have f5:=ff 5
    obtain⟨w9,hwz⟩:∃ W,W=(((((u14w.setCell ⟨u6w.heap.size,0,none⟩ (.int .i64 T.kind)).setCell ⟨u6w.heap.size,1,none⟩ (.int .i64 T.n)).setCell ⟨u6w.heap.size,2,none⟩ (.string T.name)).setCell ⟨u6w.heap.size,3,none⟩ (.slice ra2 T.r.length rc2)).setCell ⟨u6w.heap.size,4,none⟩ (.slice ka2 T.kids.length kc2)).setCell ⟨u6w.heap.size,5,none⟩ (.slice sa2 T.sys.length sc2):=⟨_,rfl⟩
    rw [← hwz] at zz2
    have kz:Kn (fun q=>q≠u6w.heap.size) u14w w9:=by rw [hwz];exact kn_set6 _ _ _ _ _ _ _ _
    have hs4:=hS.size
    have HTm:Hid (∀ V,Kn (fun q=>w4.heap.size≤q) w9 V→TmIn Tt V T (.agg #[.int .i64 T.kind,.int .i64 T.n,.string T.name,.slice ra2 T.r.length rc2,.slice ka2 T.kids.length kc2,.slice sa2 T.sys.length sc2])):=fun W q=>hv9 W ⟨q.os.trans kz.os,q.tape.trans kz.tape,q.output.trans kz.output,Nat.le_trans kz.size q.size,fun k hk hs=>(q.block k (by rcases hk with h | h <;> omega) (Nat.lt_of_lt_of_le hs kz.size)).trans (kz.block k (by rcases hk with h | h <;> omega) hs)⟩
    have hS5:Below w4.heap.size w4 w9:=hS.trans (kz.below (fun q hq=>by omega) hS.size)
    have Hwz:Hid (_=_):=hwz
    clear hwz ff kz hv9
    refine wpAnyH_ready (rs:=[10]) (by kernel_rfl) (by simp) ?_
    refine ready_cons rfl (fun KK hKK=>?_) AllReadyH.nil
    refine⟨?_⟩
    go_simp
    rw [← Hwz.out]
    refine hKK.out _ _ hS5 (fun hS=>?_)
    clear hKK KK
    try simp only [Act.put,List.getElem_toArray,List.getElem_cons_zero,List.getElem_cons_succ,List.setIfInBounds_toArray,List.set_cons_zero,List.set_cons_succ]
    refine wpAnyH_take (i:=11) (v:=.int .i64 er) rfl (by kernel_rfl) (by kernel_rfl) (by kernel_rfl) (fun _ _ _ h=>h) (Or.inl ⟨by rfl,fun w hS=>by go_simp⟩) hS ?_
    try simp only [Act.put,List.getElem_toArray,List.getElem_cons_zero,List.getElem_cons_succ,List.setIfInBounds_toArray,List.set_cons_zero,List.set_cons_succ]
    refine wpAnyH_done (by kernel_rfl) ?_ _
    go_wp2_with fail
    go_meet
    exact⟨_,_,_,_,_,_,_,rfl,rfl,zz2,HTm.out,hS,hge⟩
  ·skip
   obtain⟨u15w,hu15w⟩:∃ W,W=wd.alloc (.cells #[.int .i64 0,.int .i64 0,.string ⟨#[]⟩,.slice none 0 0,.slice none 0 0,.slice none 0 0] 26):=⟨_,rfl⟩
   have bu15w:Below wd.heap.size wd u15w:=by rw [hu15w];exact belowA _ _
   have su15w:u15w.heap.size=wd.heap.size+1:=by rw [hu15w];simp
   have hZ:Six u15w wd.heap.size (.int .i64 0) (.int .i64 0) (.string ⟨#[]⟩) (.slice none 0 0) (.slice none 0 0) (.slice none 0 0):=⟨by rw [hu15w];exact heapNew _ _⟩
   have hge:w4.heap.size≤wd.heap.size:=hS.size
   have hSu15w:Below w4.heap.size w4 u15w:=hS.trans (bu15w.mono hS.size)
   have Hu15w:Hid (_=_):=hu15w
   clear hu15w
   refine⟨?_⟩
   go_simp
   rw [← Hu15w.out]
   refine hKK.out _ _ hSu15w (fun hS=>?_)
   clear hKK KK
   try simp only [Act.put,List.getElem_toArray,List.getElem_cons_zero,List.getElem_cons_succ,List.setIfInBounds_toArray,List.set_cons_zero,List.set_cons_succ]
   refine wpAnyH_ready (rs:=[1]) (by kernel_rfl) (by simp) ?_
   refine ready_cons rfl (fun KK hKK=>?_) AllReadyH.nil
   refine⟨?_⟩
   have cc:=cCp.out u15w hS
   go_simp
   refine cc.mono ?_
   rintro e u16w ⟨vt,rfl,hvt,hbu16w⟩
   have hSu16w:Below w4.heap.size w4 u16w:=hS.trans (hbu16w.mono hS.size)
   have hPs:∀ W,Kn (fun q=>w4.heap.size≤q∧q≠wd.heap.size) u16w W→TmIn Tt W t vt:=fun W q=>hvt.keep q.size (fun _ _=>trivial) (fun k hk hs=>q.block k ⟨by have:=hk.1;have:=hS.size;omega,by have:=hk.1;omega⟩ hs)
   clear cc hvt
   have hZ:=hZ.blw hbu16w
   refine hKK.out _ _ hSu16w (fun hS=>?_)
   clear hKK KK
   try simp only [Act.put,List.getElem_toArray,List.getElem_cons_zero,List.getElem_cons_succ,List.setIfInBounds_toArray,List.set_cons_zero,List.set_cons_succ]
   refine wpAnyH_ready (rs:=[4]) (by kernel_rfl) (by simp) ?_
   refine ready_cons rfl (fun KK hKK=>?_) AllReadyH.nil
   refine⟨?_⟩
   have cc:=one_any u16w
   go_simp
   refine cc.mono ?_
   rintro e u17w ⟨vr,rfl,hvr,hbu17w⟩
   have hSu17w:Below w4.heap.size w4 u17w:=hS.trans (hbu17w.mono hS.size)
   have hRr:ClRow Tt u17w [top0] vr:=(OwnsC.okn hvr).keep (Nat.le_refl _) (fun _ _=>trivial) (fun _ _ _=>rfl)
   clear cc hvr
   have hZ:=hZ.blw hbu17w
   have hPs:∀ W,Kn (fun q=>w4.heap.size≤q∧q≠wd.heap.size) u17w W→TmIn Tt W t vt:=fun W q=>hPs W ((Kn.of_below hbu17w).trans q)
   refine hKK.out _ _ hSu17w (fun hS=>?_)
   clear hKK KK
   try simp only [Act.put,List.getElem_toArray,List.getElem_cons_zero,List.getElem_cons_succ,List.setIfInBounds_toArray,List.set_cons_zero,List.set_cons_succ]
   refine wpAnyH_ready (rs:=[5]) (by kernel_rfl) (by simp) ?_
   refine ready_cons rfl (fun KK hKK=>?_) AllReadyH.nil
   refine⟨?_⟩
   have cc:=cPa.out (fun q=>w4.heap.size≤q∧q≠wd.heap.size) u17w vt vr hPs hRr
   go_simp
   refine cc.mono ?_
   rintro e u18w ⟨v9,rfl,hv9,hbu18w⟩
   have hSu18w:Below w4.heap.size w4 u18w:=hS.trans (hbu18w.mono hS.size)
   obtain⟨ra2,rc2,ka2,kc2,sa2,sc2,rfl,_⟩:=(hv9 u18w (Kn.refl _ _)).form
   clear cc
   have hZ:=hZ.blw hbu18w
   refine hKK.out _ _ hSu18w (fun hS=>?_)
   clear hKK KK
   try simp only [Act.put,List.getElem_toArray,List.getElem_cons_zero,List.getElem_cons_succ,List.setIfInBounds_toArray,List.set_cons_zero,List.set_cons_succ]
   refine wpAnyH_take (i:=6) (v:=.tuple #[.agg #[.int .i64 T.kind,.int .i64 T.n,.string T.name,.slice ra2 T.r.length rc2,.slice ka2 T.kids.length kc2,.slice sa2 T.sys.length sc2],.int .i64 er]) rfl (by kernel_rfl) (by kernel_rfl) (by kernel_rfl) (fun _ _ _ h=>h) (Or.inl ⟨by rfl,fun w hS=>by go_simp⟩) hS ?_
   try simp only [Act.put,List.getElem_toArray,List.getElem_cons_zero,List.getElem_cons_succ,List.setIfInBounds_toArray,List.set_cons_zero,List.set_cons_succ]
   refine wpAnyH_take (i:=7) (v:=.agg #[.int .i64 T.kind,.int .i64 T.n,.string T.name,.slice ra2 T.r.length rc2,.slice ka2 T.kids.length kc2,.slice sa2 T.sys.length sc2]) rfl (by kernel_rfl) (by kernel_rfl) (by kernel_rfl) (fun _ _ _ h=>h) (Or.inl ⟨by rfl,fun w hS=>by go_simp⟩) hS ?_
   try simp only [Act.put,List.getElem_toArray,List.getElem_cons_zero,List.getElem_cons_succ,List.setIfInBounds_toArray,List.set_cons_zero,List.set_cons_succ]
   refine wpAnyH_take (i:=8) (v:=.int .i64 er) rfl (by kernel_rfl) (by kernel_rfl) (by kernel_rfl) (fun _ _ _ h=>h) (Or.inl ⟨by rfl,fun w hS=>by go_simp⟩) hS ?_
   try simp only [Act.put,List.getElem_toArray,List.getElem_cons_zero,List.getElem_cons_succ,List.setIfInBounds_toArray,List.set_cons_zero,List.set_cons_succ]
   have:=bu15w.size
   have:=hbu16w.size
   have:=hbu17w.size
   have:=hbu18w.size
   have zz2:=hZ.set6 (.int .i64 T.kind) (.int .i64 T.n) (.string T.name) (.slice ra2 T.r.length rc2) (.slice ka2 T.kids.length kc2) (.slice sa2 T.sys.length sc2)
   obtain⟨o0,o1,o2,o3,o4,o5,ff⟩:=hZ.cells
   have f0:=ff 0
   have f1:=ff 1
   have f2:=ff 2
   have f3:=ff 3
   have f4:=ff 4
   have f5:=ff 5
   obtain⟨w9,hwz⟩:∃ W,W=(((((u18w.setCell ⟨wd.heap.size,0,none⟩ (.int .i64 T.kind)).setCell ⟨wd.heap.size,1,none⟩ (.int .i64 T.n)).setCell ⟨wd.heap.size,2,none⟩ (.string T.name)).setCell ⟨wd.heap.size,3,none⟩ (.slice ra2 T.r.length rc2)).setCell ⟨wd.heap.size,4,none⟩ (.slice ka2 T.kids.length kc2)).setCell ⟨wd.heap.size,5,none⟩ (.slice sa2 T.sys.length sc2):=⟨_,rfl⟩
   rw [← hwz] at zz2
   have kz:Kn (fun q=>q≠wd.heap.size) u18w w9:=by rw [hwz];exact kn_set6 _ _ _ _ _ _ _ _
   have hs4:=hS.size
   have HTm:Hid (∀ V,Kn (fun q=>w4.heap.size≤q) w9 V→TmIn Tt V T (.agg #[.int .i64 T.kind,.int .i64 T.n,.string T.name,.slice ra2 T.r.length rc2,.slice ka2 T.kids.length kc2,.slice sa2 T.sys.length sc2])):=fun W q=>hv9 W ⟨q.os.trans kz.os,q.tape.trans kz.tape,q.output.trans kz.output,Nat.le_trans kz.size q.size,fun k hk hs=>(q.block k (by rcases hk with h | h <;> omega) (Nat.lt_of_lt_of_le hs kz.size)).trans (kz.block k (by rcases hk with h | h <;> omega) hs)⟩
   have hS5:Below w4.heap.size w4 w9:=hS.trans (kz.below (fun q hq=>by omega) hS.size)
   have Hwz:Hid (_=_):=hwz
   clear hwz ff kz hv9
   refine wpAnyH_ready (rs:=[10]) (by kernel_rfl) (by simp) ?_
   refine ready_cons rfl (fun KK hKK=>?_) AllReadyH.nil
   refine⟨?_⟩
   go_simp
   rw [← Hwz.out]
   refine hKK.out _ _ hS5 (fun hS=>?_)
   clear hKK KK
   try simp only [Act.put,List.getElem_toArray,List.getElem_cons_zero,List.getElem_cons_succ,List.setIfInBounds_toArray,List.set_cons_zero,List.set_cons_succ]
   refine wpAnyH_take (i:=11) (v:=.int .i64 er) rfl (by kernel_rfl) (by kernel_rfl) (by kernel_rfl) (fun _ _ _ h=>h) (Or.inl ⟨by rfl,fun w hS=>by go_simp⟩) hS ?_
   try simp only [Act.put,List.getElem_toArray,List.getElem_cons_zero,List.getElem_cons_succ,List.setIfInBounds_toArray,List.set_cons_zero,List.set_cons_succ]
   refine wpAnyH_done (by kernel_rfl) ?_ _
   go_wp2_with fail
   go_meet
   exact⟨_,_,_,_,_,_,_,rfl,rfl,zz2,HTm.out,hS,hge⟩
 case rest =>
 obtain⟨ob,ra2,rc2,ka2,kc2,sa2,sc2,rfl,rfl,hO,hTv,hS4,hge⟩:=hcut
 obtain⟨w5,hw5⟩:∃ V,V=wc:=⟨_,rfl⟩
 subst hw5
 have b15:Below w1.heap.size w1 w5:=b14.trans (hS4.mono b14.size)
 clear cCp cPa HC4 hS1
 by_cases hz:er=0
 rotate_left
 ·have Hf:Hid (undA c t=(noT,er)):=(by rw [HE.out,if_neg hz]:_=_)
  have hz1:(er == 0)=false:=by simpa using hz
  clear HE
  have zz:=HZ.out w5 b15
  have zz2:=zz.set6 (.int .i64 0) (.int .i64 0) (.string ⟨#[]⟩) (.slice none 0 0) (.slice none 0 0) (.slice none 0 0)
  obtain⟨o0,o1,o2,o3,o4,o5,ff⟩:=zz.cells
  have f0:=ff 0
  have f1:=ff 1
  have f2:=ff 2
  have f3:=ff 3
  have f4:=ff 4
  have f5:=ff 5
  obtain⟨h0,h1,h2,h3,h4,h5,_⟩:=zz2.cells
  obtain⟨wz,hwz⟩:∃ W,W=(((((w5.setCell ⟨X+2,0,none⟩ (.int .i64 0)).setCell ⟨X+2,1,none⟩ (.int .i64 0)).setCell ⟨X+2,2,none⟩ (.string ⟨#[]⟩)).setCell ⟨X+2,3,none⟩ (.slice none 0 0)).setCell ⟨X+2,4,none⟩ (.slice none 0 0)).setCell ⟨X+2,5,none⟩ (.slice none 0 0):=⟨_,rfl⟩
  rw [← hwz] at h0 h1 h2 h3 h4 h5
  have kz:Kn (fun q=>q≠X+2) w5 wz:=by rw [hwz];exact kn_set6 _ _ _ _ _ _ _ _
  have bz:Below X w wz:=(HB.out w5 b15).trans (kz.below (fun q hq=>by omega) (by have:=(HB.out w5 b15).size;have:=HXs.out;omega))
  have Hwz:Hid (_=_):=hwz
  clear hwz ff zz zz2 kz
  go_wp2_with fail
  rw [← Hwz.out]
  exact bodyPost_ret (v:=.tuple #[.agg #[.int .i64 0,.int .i64 0,.string ⟨#[]⟩,.slice none 0 0,.slice none 0 0,.slice none 0 0],.int .i64 (er)]) (by simp only [results,Tryz.results16];simp [go_sem,h0,h1,h2,h3,h4,h5]) rfl ⟨_,by rw [Hf.out],fun V q=>by rw [Hf.out];exact noT_in _ _,bz⟩
 subst hz
 rw [if_pos rfl] at HE
 obtain⟨B,hB⟩:∃ B,B=pall [] (dimsOf c.2.val) T:=⟨_,rfl⟩
 rw [← hB] at HE
 obtain⟨T2,er2⟩:=B
 have cP:Hid (∀ V,Below w5.heap.size w5 V→Calls Tryz.prog 46 #[.agg #[.int .i64 T.kind,.int .i64 T.n,.string T.name,.slice ra2 T.r.length rc2,.slice ka2 T.kids.length kc2,.slice sa2 T.sys.length sc2],.int .u32 (c.2.val:Int),.slice none 0 0] V fun e w'=>∃ v',e=.returned (.tuple #[v',.int .i64 er2])∧(∀ W,Kn (fun q=>w4.heap.size≤q∨V.heap.size≤q) w' W→TmIn Tt W T2 v')∧Below V.heap.size V w'):=fun V q=>by
  have:=pall_any (fun q=>w4.heap.size≤q) T (.agg #[.int .i64 T.kind,.int .i64 T.n,.string T.name,.slice ra2 T.r.length rc2,.slice ka2 T.kids.length kc2,.slice sa2 T.sys.length sc2]) V (fun W qW=>hTv W ((Kn.of_below q).trans qW)) HAc.out c.2.val hc2 [] (.slice none 0 0) (cl_nil _ _) (by simp)
  rw [← hB] at this
  exact this
 have HO:Hid (∀ V,Below w5.heap.size w5 V→Six V ob (.int .i64 T.kind) (.int .i64 T.n) (.string T.name) (.slice ra2 T.r.length rc2) (.slice ka2 T.kids.length kc2) (.slice sa2 T.sys.length sc2)):=fun V q=>hO.blw q
 have hobX:ob≠X+2:=by have:=b14.size;omega
 have hob1:w4.heap.size≤ob:=hge
 clear hB
 go_upto_region 9 with fail
 refine wp_region_held_drew (S:=fun V=>Below X w V∧Six V ob (.int .i64 T.kind) (.int .i64 T.n) (.string T.name) (.slice ra2 T.r.length rc2) (.slice ka2 T.kids.length kc2) (.slice sa2 T.sys.length sc2)∧V.cell? ⟨X+1,1,none⟩=some (.int .u32 (c.2.val:Int))) (by kernel_rfl) ⟨(HB.out w5 b15).drew,⟨hO.blk⟩,(HCc.out w5 b15).2⟩ (fun hS=>?_)
 obtain⟨wd,hwd⟩:∃ V,V=w5.drew:=⟨_,rfl⟩
 have hbd:Below w5.heap.size w5 wd:=by rw [hwd];exact (Below.refl _ _).drew
 rw [← hwd] at hS ⊢
 clear hwd hO
 refine wpAnyH_take (i:=0) (v:=.agg #[.int .i64 T.kind,.int .i64 T.n,.string T.name,.slice ra2 T.r.length rc2,.slice ka2 T.kids.length kc2,.slice sa2 T.sys.length sc2]) rfl (by kernel_rfl) (by kernel_rfl) (by kernel_rfl) (fun _ _ _ h=>h) (Or.inl ⟨by rfl,fun w hS=>by obtain⟨y0,y1,y2,y3,y4,y5,_⟩:=hS.2.1.cells;go_simp⟩) hS ?_
 try simp only [Act.put,List.getElem_toArray,List.getElem_cons_zero,List.getElem_cons_succ,List.setIfInBounds_toArray,List.set_cons_zero,List.set_cons_succ]
 refine wpAnyH_take (i:=1) (v:=.pointer (some ⟨X+1,1,none⟩)) rfl (by kernel_rfl) (by kernel_rfl) (by kernel_rfl) (fun _ _ _ h=>h) (Or.inl ⟨by rfl,fun w hS=>by go_simp⟩) hS ?_
 try simp only [Act.put,List.getElem_toArray,List.getElem_cons_zero,List.getElem_cons_succ,List.setIfInBounds_toArray,List.set_cons_zero,List.set_cons_succ]
 refine wpAnyH_take (i:=2) (v:=.int .u32 (c.2.val:Int)) rfl (by kernel_rfl) (by kernel_rfl) (by kernel_rfl) (fun _ _ _ h=>h) (Or.inl ⟨by rfl,fun w hS=>by have e:=hS.2.2;go_simp⟩) hS ?_
 try simp only [Act.put,List.getElem_toArray,List.getElem_cons_zero,List.getElem_cons_succ,List.setIfInBounds_toArray,List.set_cons_zero,List.set_cons_succ]
 refine wpAnyH_ready (rs:=[3]) (by kernel_rfl) (by simp) ?_
 refine ready_cons rfl (fun KK hKK=>?_) AllReadyH.nil
 refine⟨?_⟩
 have cc:=zero_any wd
 go_simp
 refine cc.mono ?_
 rintro e wx ⟨rfl,hwx⟩
 replace hwx:=hwx.symm
 subst hwx
 clear cc
 refine hKK.out _ _ hS (fun hS=>?_)
 clear hKK KK
 try simp only [Act.put,List.getElem_toArray,List.getElem_cons_zero,List.getElem_cons_succ,List.setIfInBounds_toArray,List.set_cons_zero,List.set_cons_succ]
 refine wpAnyH_ready (rs:=[4]) (by kernel_rfl) (by simp) ?_
 refine ready_cons rfl (fun KK hKK=>?_) AllReadyH.nil
 refine⟨?_⟩
 have cc:=cP.out wd hbd
 go_simp
 refine cc.mono ?_
 rintro e w6 ⟨v3,rfl,hv3,hb3⟩
 obtain⟨ra2b,rc2b,ka2b,kc2b,sa2b,sc2b,rfl,_⟩:=(hv3 w6 (Kn.refl _ _)).form
 have hn3:=hbd.size
 have hn4:=b15.size
 have hbd:Below w5.heap.size w5 w6:=hbd.trans (hb3.mono hbd.size)
 have b16:Below w1.heap.size w1 w6:=b15.trans (hbd.mono b15.size)
 clear cc
 refine hKK.out _ _ ⟨HB.out w6 b16,HO.out w6 hbd,(HCc.out w6 b16).2⟩ (fun hS=>?_)
 clear hKK KK
 try simp only [Act.put,List.getElem_toArray,List.getElem_cons_zero,List.getElem_cons_succ,List.setIfInBounds_toArray,List.set_cons_zero,List.set_cons_succ]
 refine wpAnyH_take (i:=5) (v:=.agg #[.int .i64 T2.kind,.int .i64 T2.n,.string T2.name,.slice ra2b T2.r.length rc2b,.slice ka2b T2.kids.length kc2b,.slice sa2b T2.sys.length sc2b]) rfl (by kernel_rfl) (by kernel_rfl) (by kernel_rfl) (fun _ _ _ h=>h) (Or.inl ⟨by rfl,fun w hS=>by go_simp⟩) hS ?_
 try simp only [Act.put,List.getElem_toArray,List.getElem_cons_zero,List.getElem_cons_succ,List.setIfInBounds_toArray,List.set_cons_zero,List.set_cons_succ]
 refine wpAnyH_take (i:=6) (v:=.int .i64 er2) rfl (by kernel_rfl) (by kernel_rfl) (by kernel_rfl) (fun _ _ _ h=>h) (Or.inl ⟨by rfl,fun w hS=>by go_simp⟩) hS ?_
 try simp only [Act.put,List.getElem_toArray,List.getElem_cons_zero,List.getElem_cons_succ,List.setIfInBounds_toArray,List.set_cons_zero,List.set_cons_succ]
 have htv:=hv3
 clear hv3
 have zz:=HZ.out w6 b16
 have zz2:=zz.set6 (.int .i64 T2.kind) (.int .i64 T2.n) (.string T2.name) (.slice ra2b T2.r.length rc2b) (.slice ka2b T2.kids.length kc2b) (.slice sa2b T2.sys.length sc2b)
 obtain⟨o0,o1,o2,o3,o4,o5,ff⟩:=zz.cells
 have f0:=ff 0
 have f1:=ff 1
 have f2:=ff 2
 have f3:=ff 3
 have f4:=ff 4
 have f5:=ff 5
 obtain⟨w7,hwz⟩:∃ W,W=(((((w6.setCell ⟨X+2,0,none⟩ (.int .i64 T2.kind)).setCell ⟨X+2,1,none⟩ (.int .i64 T2.n)).setCell ⟨X+2,2,none⟩ (.string T2.name)).setCell ⟨X+2,3,none⟩ (.slice ra2b T2.r.length rc2b)).setCell ⟨X+2,4,none⟩ (.slice ka2b T2.kids.length kc2b)).setCell ⟨X+2,5,none⟩ (.slice sa2b T2.sys.length sc2b):=⟨_,rfl⟩
 rw [← hwz] at zz2
 have kz:Kn (fun q=>q≠X+2) w6 w7:=by rw [hwz];exact kn_set6 _ _ _ _ _ _ _ _
 have HTm:Hid (∀ V,Kn (fun q=>X≤q) w7 V→TmIn Tt V T2 (.agg #[.int .i64 T2.kind,.int .i64 T2.n,.string T2.name,.slice ra2b T2.r.length rc2b,.slice ka2b T2.kids.length kc2b,.slice sa2b T2.sys.length sc2b])):=fun V q=>htv V ⟨q.os.trans kz.os,q.tape.trans kz.tape,q.output.trans kz.output,Nat.le_trans kz.size q.size,fun k hk hs=>(q.block k (by have:=b14.size;rcases hk with h | h <;> omega) (Nat.lt_of_lt_of_le hs kz.size)).trans (kz.block k (by have:=b14.size;rcases hk with h | h <;> omega) hs)⟩
 have hS5:Below X w w7∧Six w7 ob (.int .i64 T.kind) (.int .i64 T.n) (.string T.name) (.slice ra2 T.r.length rc2) (.slice ka2 T.kids.length kc2) (.slice sa2 T.sys.length sc2)∧w7.cell? ⟨X+1,1,none⟩=some (.int .u32 (c.2.val:Int)):=⟨(HB.out w6 b16).trans (kz.below (fun q hq=>by omega) (by have:=(HB.out w6 b16).size;have:=HXs.out;omega)),(HO.out w6 hbd).kn kz hobX,(World.cell?_of_block (w:=w6) (w':=w7) (a:=⟨X+1,1,none⟩) (kz.block (X+1) (by omega) (by have:=b16.size;omega))).trans (HCc.out w6 b16).2⟩
 have Hwz:Hid (_=_):=hwz
 clear hwz ff zz kz htv
 refine wpAnyH_ready (rs:=[7]) (by kernel_rfl) (by simp) ?_
 refine ready_cons rfl (fun KK hKK=>?_) AllReadyH.nil
 refine⟨?_⟩
 go_simp
 rw [← Hwz.out]
 refine hKK.out _ _ hS5 (fun hS=>?_)
 clear hKK KK
 try simp only [Act.put,List.getElem_toArray,List.getElem_cons_zero,List.getElem_cons_succ,List.setIfInBounds_toArray,List.set_cons_zero,List.set_cons_succ]
 refine wpAnyH_take (i:=8) (v:=.int .i64 er2) rfl (by kernel_rfl) (by kernel_rfl) (by kernel_rfl) (fun _ _ _ h=>h) (Or.inl ⟨by rfl,fun w hS=>by go_simp⟩) hS ?_
 try simp only [Act.put,List.getElem_toArray,List.getElem_cons_zero,List.getElem_cons_succ,List.setIfInBounds_toArray,List.set_cons_zero,List.set_cons_succ]
 obtain⟨h0,h1,h2,h3,h4,h5,_⟩:=zz2.cells
 refine wpAnyH_done (by kernel_rfl) ?_ _
 go_wp2_with fail
 exact bodyPost_ret (v:=.tuple #[.agg #[.int .i64 T2.kind,.int .i64 T2.n,.string T2.name,.slice ra2b T2.r.length rc2b,.slice ka2b T2.kids.length kc2b,.slice sa2b T2.sys.length sc2b],.int .i64 (er2)]) (by simp only [results,Tryz.results16];simp [go_sem,h0,h1,h2,h3,h4,h5]) rfl ⟨_,by rw [HE.out],fun V q=>by rw [HE.out];exact HTm.out V q,hS.1⟩
theorem under_any (t:Tm) (v:Value) (w:World) (hv:TmIn Tt w t v) (hb:blk t≤20000) (hcp:capT t≤40000) (c:C):Calls Tryz.prog 16 #[v,clV c] w fun e w'=>∃ v',e=.returned (.tuple #[v',.int .i64 (undA c t).2])∧TmIn Tt w' (undA c t).1 v'∧Below w.heap.size w w' :=
 (under_all t v w hv hb hcp c).mono fun e w' h=>by
  obtain⟨v',h1,h2,h3⟩:=h
  exact⟨v',h1,h2 w' (Kn.refl _ _),h3⟩
end Go.Proofs.YtpmmbfngogpinaaGreat

set_option linter.unusedVariables false
set_option linter.unusedSimpArgs false
namespace Go.Proofs.YtpmmbfngogpinaaGreat
open Go.RowKit
theorem mt_top' {c:C} (h:rightC c=true) (hk:okC c=true):mtR [c] [top0]=([c],0):=by
 have e:meetC c top0=c:=by
  have h1:=fright_bits h
  refine c_bits (fun k=>?_) (fun k=>?_)
  ·rw [(meet_bits c top0 k).1];rw [← (h1 k).1];simp [top0]
  ·rw [(meet_bits c top0 k).2];rw [← (h1 k).2];simp [top0]
 have e2:calmC (pairsC [c] [top0])=[c]:=by simp [pairsC,calmC,e,hk]
 unfold mtR;rw [e2];exact leastF_one h
theorem mt_nil' (l:List C):mtR l []=([],0):=by
 have e2:calmC (pairsC l [])=[]:=by simp [pairsC,calmC]
 unfold mtR;rw [e2];decide
theorem least_more {A B:List C} (hA:A.all rightC=true) (hB:B.all rightC=true) (h0:(leastF A).2=0):leastF ((leastF A).1++B)=leastF (A++B):=by
 refine leastF_ext (by rw [List.all_append,leastF_all,hB];rfl) (by rw [List.all_append,hA,hB];rfl) (fun c _=>?_)
 rw [dn_append,dn_append,leastF_dn h0]
theorem all_mem {l:List C} (h:∀ c∈l,rightC c=true):l.all rightC=true:=List.all_eq_true.2 h
theorem rst_app (f g:List C) (p:C):rstL (f++g) p=rstL f p++rstL g p:=by simp [rstL]
theorem rst_right' {f:List C} (h:∀ c∈f,rightC c=true) (p:C):∀ c∈rstL f p,rightC c=true:=fun x hx=>by
 obtain⟨a,ha,_,rfl⟩:=mem_rst.1 hx
 exact cut_right (h a ha)
theorem cut_one {c:C} {i:Nat} (hi:i<24) (hr:rightC c=true) (hk:okC c=true) (h:c.2.val.testBit i=false):cutC (posB i) c=outC c (i:Int):=by
 have h1:=fright_bits hr
 refine c_bits (fun k=>?_) (fun k=>?_)
 ·rw [(cut_bits _ c k).1,(out_bits c i k hi).1,(posB_bits i k hi).1]
  have:=(h1 k).1
  by_cases hik:i=k
  ·subst hik;simp_all
  ·simp_all
 ·rw [(cut_bits _ c k).2,(out_bits c i k hi).2,(posB_bits i k hi).2]
  have:=(h1 k).2
  by_cases hik:i=k
  ·subst hik;simp_all
  ·simp_all
theorem with_one {c:C} {i:Nat} (hi:i<24) (hk:okC c=true):withC (posB i) c = !c.2.val.testBit i:=by
 unfold withC
 rw [Bool.eq_iff_iff,meet_ok,Bool.not_eq_true']
 constructor
 ·intro h
  have:=h i hi
  rw [(posB_bits i i hi).1,(posB_bits i i hi).2] at this
  simpa using this
 ·intro h k hk24
  have h2:=okC_iff.1 hk k hk24
  rw [(posB_bits i k hi).1,(posB_bits i k hi).2]
  by_cases hik:i=k
  ·subst hik;simp [h]
  ·simp [hik];simpa using h2
theorem rst1_one {c:C} {i:Nat} (hi:i<24) (hr:rightC c=true) (hk:okC c=true):rstL [c] (posB i)=if c.2.val.testBit i then [] else [outC c (i:Int)]:=by
 unfold rstL
 rw [List.filter_cons,with_one hi hk]
 cases h:c.2.val.testBit i
 ·simp [cut_one hi hr hk h]
 ·simp
theorem prt_one {c:C} {i:Nat} (hi:i<24) (hk:okC c=true):prtA c (i:Int) [top0] ([],0)=(if c.2.val.testBit i then [] else [outC c (i:Int)],0):=by
 have h0:=okC_iff.1 hk i hi
 have hB1:hasB c.1.val (i:Int)=c.1.val.testBit i:=hasB_nat hi
 have hB2:hasB c.2.val (i:Int)=c.2.val.testBit i:=hasB_nat hi
 unfold prtA
 rw [hB1,hB2]
 cases h1:c.1.val.testBit i <;> cases h2:c.2.val.testBit i
 ·simp
 ·simp [mt_nil']
 ·simp [mt_top' (out_right c i) (out_ok hk)]
 ·exact absurd ⟨h1,h2⟩ h0
theorem pts_one {i:Nat} (hi:i<24) (f:List C):(∀ c∈f,rightC c=true∧okC c=true)→f.length≤64→ptS f (i:Int) [top0] ([],0)=leastF (rstL f (posB i)):=by
 induction f using snoc_ind with
 | nil=>intro _ _;simp only [ptS,List.foldl_nil,rstL,List.filter_nil,List.map_nil];decide
 | snoc f c ih =>
  intro h hl
  have hf:∀ x∈f,rightC x=true∧okC x=true:=fun x hx=>h x (List.mem_append_left _ hx)
  obtain⟨hr,hk⟩:=h c (by simp)
  have hl2:f.length≤64:=by simp at hl;omega
  have hA:(rstL f (posB i)).all rightC=true:=all_mem (rst_right' (fun x hx=>(hf x hx).1) _)
  have h0:(leastF (rstL f (posB i))).2=0:=least_small hA (Nat.le_trans (rst_len f _) hl2)
  rw [ptS_snoc,ih hf hl2]
  have e:=leastF_pair h0
  rw [e,stpA_some,prt_one hi hk,if_pos rfl,rst_app,rst1_one hi hr hk,least_more hA (all_mem (fun x hx=>?_)) h0]
  split at hx
  ·cases hx
  ·rw [List.mem_singleton.1 hx];exact out_right c i
theorem put_one {i:Nat} (hi:i<24) {f:List C} (hf:rightA f=true):putRow ptA (i:Int) [top0] f 0=rstA f (posB i):=by
 have hs:singleC (posB i)=true:=singleC_iff.2 ⟨posB_right i,okC_iff.2 (fun k _ h=>by rw [(posB_bits i k hi).1,(posB_bits i k hi).2] at h;simp at h)⟩
 have hR:rstA f (posB i)=leastF (rstL f (posB i)):=by unfold rstA;rw [hf,hs];rfl
 have hall:∀ c∈f,rightC c=true∧okC c=true:=fun c hc=>⟨List.all_eq_true.1 (rightF_all (rightA_right hf)) c hc,rightA_ok hf c hc⟩
 have e0:((i:Int) + ((0:Nat):Int))=(i:Int):=by omega
 unfold putRow
 rw [e0]
 cases hh:hasB (dimsN f) (i:Int)
 ·rw [if_neg (by simp),hR]
  rw [hasB_nat hi,dimsN_bit] at hh
  have hno:∀ c∈f,c.1.val.testBit i=false∧c.2.val.testBit i=false:=fun c hc=>by
   simp only [hi,decide_true,Bool.true_and] at hh
   have:=List.any_eq_false.1 hh c hc
   simpa using this
  have e:rstL f (posB i)=f:=by
   unfold rstL
   rw [List.filter_eq_self.2 (fun c hc=>by rw [with_one hi (hall c hc).2,(hno c hc).2];rfl)]
   conv=>rhs;rw [← List.map_id f]
   refine List.map_congr_left (fun c hc=>?_)
   rw [cut_one hi (hall c hc).1 (hall c hc).2 (hno c hc).2]
   have h1:=fright_bits (hall c hc).1
   refine c_bits (fun k=>?_) (fun k=>?_)
   ·rw [(out_bits c i k hi).1]
    have:=(h1 k).1
    by_cases hik:i=k
    ·subst hik;simp [(hno c hc).1]
    ·simp_all
   ·rw [(out_bits c i k hi).2]
    have:=(h1 k).2
    by_cases hik:i=k
    ·subst hik;simp [(hno c hc).2]
    ·simp_all
  rw [e,rightF_eq (rightA_right hf)]
 ·rw [if_pos rfl]
  have eL:liftFF [top0] 0 ((0:Nat):Int)=([top0],0):=by decide
  rw [eL,if_pos rfl]
  show ptA f (i:Int) [top0]=_
  have hd:isDimB (i:Int)=true:=isDimB_nat hi
  have hq:rightF [top0]=true:=by decide
  unfold ptA
  rw [hf,hd,hq]
  have e1:(ofF [top0]).1=[top0]:=by decide
  have e2:ofZ [top0]=([],0):=by decide
  rw [e1,e2,hR]
  exact pts_one hi f hall (rightA_len hf)
theorem cut_nil {c:C} {i:Nat} (hi:i<24) (hr:rightC c=true) (hk:okC c=true) (h:c.1.val.testBit i=false):cutC (negB i) c=outC c (i:Int):=by
 have h1:=fright_bits hr
 refine c_bits (fun k=>?_) (fun k=>?_)
 ·rw [(cut_bits _ c k).1,(out_bits c i k hi).1,(negB_bits i k hi).1]
  have:=(h1 k).1
  by_cases hik:i=k
  ·subst hik;simp_all
  ·simp_all
 ·rw [(cut_bits _ c k).2,(out_bits c i k hi).2,(negB_bits i k hi).2]
  have:=(h1 k).2
  by_cases hik:i=k
  ·subst hik;simp_all
  ·simp_all
theorem with_nil {c:C} {i:Nat} (hi:i<24) (hk:okC c=true):withC (negB i) c = !c.1.val.testBit i:=by
 unfold withC
 rw [Bool.eq_iff_iff,meet_ok,Bool.not_eq_true']
 constructor
 ·intro h
  have:=h i hi
  rw [(negB_bits i i hi).1,(negB_bits i i hi).2] at this
  simpa using this
 ·intro h k hk24
  have h2:=okC_iff.1 hk k hk24
  rw [(negB_bits i k hi).1,(negB_bits i k hi).2]
  by_cases hik:i=k
  ·subst hik;simp [h]
  ·simp [hik];simpa using h2
theorem rst1_nil {c:C} {i:Nat} (hi:i<24) (hr:rightC c=true) (hk:okC c=true):rstL [c] (negB i)=if c.1.val.testBit i then [] else [outC c (i:Int)]:=by
 unfold rstL
 rw [List.filter_cons,with_nil hi hk]
 cases h:c.1.val.testBit i
 ·simp [cut_nil hi hr hk h]
 ·simp
theorem prt_nil {c:C} {i:Nat} (hi:i<24) (hk:okC c=true):prtA c (i:Int) [] ([top0],0)=(if c.1.val.testBit i then [] else [outC c (i:Int)],0):=by
 have h0:=okC_iff.1 hk i hi
 have hB1:hasB c.1.val (i:Int)=c.1.val.testBit i:=hasB_nat hi
 have hB2:hasB c.2.val (i:Int)=c.2.val.testBit i:=hasB_nat hi
 unfold prtA
 rw [hB1,hB2]
 cases h1:c.1.val.testBit i <;> cases h2:c.2.val.testBit i
 ·simp
 ·simp [mt_top' (out_right c i) (out_ok hk)]
 ·simp [mt_nil']
 ·exact absurd ⟨h1,h2⟩ h0
theorem pts_nil {i:Nat} (hi:i<24) (f:List C):(∀ c∈f,rightC c=true∧okC c=true)→f.length≤64→ptS f (i:Int) [] ([top0],0)=leastF (rstL f (negB i)):=by
 induction f using snoc_ind with
 | nil=>intro _ _;simp only [ptS,List.foldl_nil,rstL,List.filter_nil,List.map_nil];decide
 | snoc f c ih =>
  intro h hl
  have hf:∀ x∈f,rightC x=true∧okC x=true:=fun x hx=>h x (List.mem_append_left _ hx)
  obtain⟨hr,hk⟩:=h c (by simp)
  have hl2:f.length≤64:=by simp at hl;omega
  have hA:(rstL f (negB i)).all rightC=true:=all_mem (rst_right' (fun x hx=>(hf x hx).1) _)
  have h0:(leastF (rstL f (negB i))).2=0:=least_small hA (Nat.le_trans (rst_len f _) hl2)
  rw [ptS_snoc,ih hf hl2]
  have e:=leastF_pair h0
  rw [e,stpA_some,prt_nil hi hk,if_pos rfl,rst_app,rst1_nil hi hr hk,least_more hA (all_mem (fun x hx=>?_)) h0]
  split at hx
  ·cases hx
  ·rw [List.mem_singleton.1 hx];exact out_right c i
theorem put_nil {i:Nat} (hi:i<24) {f:List C} (hf:rightA f=true):putRow ptA (i:Int) [] f 0=rstA f (negB i):=by
 have hs:singleC (negB i)=true:=singleC_iff.2 ⟨negB_right i,okC_iff.2 (fun k _ h=>by rw [(negB_bits i k hi).1,(negB_bits i k hi).2] at h;simp at h)⟩
 have hR:rstA f (negB i)=leastF (rstL f (negB i)):=by unfold rstA;rw [hf,hs];rfl
 have hall:∀ c∈f,rightC c=true∧okC c=true:=fun c hc=>⟨List.all_eq_true.1 (rightF_all (rightA_right hf)) c hc,rightA_ok hf c hc⟩
 have e0:((i:Int) + ((0:Nat):Int))=(i:Int):=by omega
 unfold putRow
 rw [e0]
 cases hh:hasB (dimsN f) (i:Int)
 ·rw [if_neg (by simp),hR]
  rw [hasB_nat hi,dimsN_bit] at hh
  have hno:∀ c∈f,c.1.val.testBit i=false∧c.2.val.testBit i=false:=fun c hc=>by
   simp only [hi,decide_true,Bool.true_and] at hh
   have:=List.any_eq_false.1 hh c hc
   simpa using this
  have e:rstL f (negB i)=f:=by
   unfold rstL
   rw [List.filter_eq_self.2 (fun c hc=>by rw [with_nil hi (hall c hc).2,(hno c hc).1];rfl)]
   conv=>rhs;rw [← List.map_id f]
   refine List.map_congr_left (fun c hc=>?_)
   rw [cut_nil hi (hall c hc).1 (hall c hc).2 (hno c hc).1]
   have h1:=fright_bits (hall c hc).1
   refine c_bits (fun k=>?_) (fun k=>?_)
   ·rw [(out_bits c i k hi).1]
    have:=(h1 k).1
    by_cases hik:i=k
    ·subst hik;simp [(hno c hc).1]
    ·simp_all
   ·rw [(out_bits c i k hi).2]
    have:=(h1 k).2
    by_cases hik:i=k
    ·subst hik;simp [(hno c hc).2]
    ·simp_all
  rw [e,rightF_eq (rightA_right hf)]
 ·rw [if_pos rfl]
  have eL:liftFF [] 0 ((0:Nat):Int)=([],0):=by decide
  rw [eL,if_pos rfl]
  show ptA f (i:Int) []=_
  have hd:isDimB (i:Int)=true:=isDimB_nat hi
  have hq:rightF []=true:=by decide
  unfold ptA
  rw [hf,hd,hq]
  have e1:(ofF []).1=[]:=by decide
  have e2:ofZ []=([top0],0):=by decide
  rw [e1,e2,hR]
  exact pts_nil hi f hall (rightA_len hf)
def Rf (c:C) (f:List C):List C:=(rstA f c).1
structure DStp where
 i:Nat
 r:List C
 p:C
def DStp.ok (s:DStp):Prop:=s.i<24∧((s.r=[top0]∧s.p=posB s.i)∨(s.r=[]∧s.p=negB s.i))
theorem DStp.put {s:DStp} (h:s.ok) {f:List C} (hf:rightA f=true):(putRow ptA (s.i:Int) s.r f 0).1=Rf s.p f:=by
 obtain⟨hi,⟨hr,hp⟩ | ⟨hr,hp⟩⟩:=h
 ·rw [hr,hp,put_one hi hf];rfl
 ·rw [hr,hp,put_nil hi hf];rfl
def dStp (t:Tm) (s:DStp):Tm:=dT (putOp s.i s.r) t 0
def stepsC (c:C):List DStp:=(dimsOf c.1.val).map (fun i=>⟨i,[top0],posB i⟩) ++ (dimsOf c.2.val).map (fun i=>⟨i,[],negB i⟩)
end Go.Proofs.YtpmmbfngogpinaaGreat

set_option linter.unusedVariables false
set_option linter.unusedSimpArgs false
namespace Go.Proofs.YtpmmbfngogpinaaGreat
open Go.RowKit
theorem meet_top' {c:C} (h:rightC c=true):meetC c top0=c:=by
 have h1:=fright_bits h
 refine c_bits (fun k=>?_) (fun k=>?_)
 ·rw [(meet_bits c top0 k).1];rw [← (h1 k).1];simp [top0]
 ·rw [(meet_bits c top0 k).2];rw [← (h1 k).2];simp [top0]
theorem meetR_top {c:C} (h:rightC c=true):meetR [c] [top0]=([c],0):=by rw [meet_one,meet_top' h]
theorem meetR_nil (l:List C):meetR l []=([],0):=by
 have e2:pairsC l []=[]:=by simp [pairsC]
 unfold meetR;rw [e2];decide
theorem meetR_nill (l:List C):meetR [] l=([],0):=by
 have e2:pairsC [] l=[]:=by simp [pairsC]
 unfold meetR;rw [e2];decide
theorem inF_iff {l:List C} {k:Nat}:inF l k=true↔∃ c∈l,c.1.val.testBit k=true∨c.2.val.testBit k=true:=by
 unfold inF;rw [List.any_eq_true];simp only [Bool.or_eq_true]
theorem lift_nil24:∀ bd:Fin 24,liftFF [] 0 ((bd.val:Nat):Int)=([],0):=by decide +kernel
theorem lift_top24:∀ bd:Fin 24,liftFF [top0] 0 ((bd.val:Nat):Int)=([top0],0):=by decide +kernel
def cut_oneL (l:List C) (j:Nat):List C:=(l.filter fun c=>!c.2.val.testBit j).map fun c=>outC c (j:Int)
theorem part_one {c:C} {j:Nat} (hj:j<24):partF c (j:Int) [top0] ([],0)=(if c.2.val.testBit j then [] else [outC c (j:Int)],0):=by
 have hB1:hasB c.1.val (j:Int)=c.1.val.testBit j:=hasB_nat hj
 have hB2:hasB c.2.val (j:Int)=c.2.val.testBit j:=hasB_nat hj
 have hr:=out_right c (j:Int)
 unfold partF partA
 rw [hB1,hB2]
 cases h1:c.1.val.testBit j <;> cases h2:c.2.val.testBit j <;> simp [meetR_top hr,meetR_nil,meetR_nill]
theorem fputs_one {j:Nat} (hj:j<24) (f:List C):f.length≤64→putS f (j:Int) [top0] ([],0)=leastF (cut_oneL f j):=by
 induction f using snoc_ind with
 | nil=>intro _;simp only [putS,List.foldl_nil,cut_oneL,List.filter_nil,List.map_nil];decide
 | snoc f c ih =>
  intro hl
  have hl2:f.length≤64:=by simp at hl;omega
  have hA:(cut_oneL f j).all rightC=true:=all_mem (fun x hx=>by obtain⟨a,_,rfl⟩:=List.mem_map.1 hx;exact out_right a _)
  have h0:(leastF (cut_oneL f j)).2=0:=least_small hA (by unfold cut_oneL;rw [List.length_map];exact Nat.le_trans (List.length_filter_le _ _) hl2)
  rw [putS_snoc,ih hl2]
  have e:=leastF_pair h0
  rw [e,stepP_some,part_one hj,if_pos rfl]
  have e2:cut_oneL (f ++ [c]) j=cut_oneL f j++(if c.2.val.testBit j then [] else [outC c (j:Int)]):=by
   unfold cut_oneL
   rw [List.filter_append,List.map_append]
   congr 1
   cases h:c.2.val.testBit j <;> simp [h]
  rw [e2]
  show leastF ((leastF (cut_oneL f j)).1++_)=_
  refine least_more hA (all_mem (fun x hx=>?_)) h0
  split at hx
  ·cases hx
  ·rw [List.mem_singleton.1 hx];exact out_right c j
theorem fput_one {j:Nat} (hj:j<24) {l:List C} (hl:rightF l=true):putF l (j:Int) [top0]=leastF (cut_oneL l j)∧(leastF (cut_oneL l j)).2=0:=by
 have hA:(cut_oneL l j).all rightC=true:=all_mem (fun x hx=>by obtain⟨a,_,rfl⟩:=List.mem_map.1 hx;exact out_right a _)
 refine⟨?_,least_small hA (by unfold cut_oneL;rw [List.length_map];exact Nat.le_trans (List.length_filter_le _ _) (rightF_len hl))⟩
 rw [putF_ok hl (by decide) (isDimB_nat hj)]
 unfold putR
 have e:notR [top0]=([],0):=by decide
 rw [e]
 exact fputs_one hj l (rightF_len hl)
theorem fput_one_in {j k:Nat} (hj:j<24) {l:List C} (h:inF (leastF (cut_oneL l j)).1 k=true):inF l k=true∧k≠j:=by
 obtain⟨c,hc,hb⟩:=inF_iff.1 h
 obtain⟨a,ha,rfl⟩:=List.mem_map.1 (leastF_sub c hc)
 rw [(out_bits a j k hj).1,(out_bits a j k hj).2] at hb
 simp only [Bool.and_eq_true,Bool.not_eq_true',decide_eq_true_eq,decide_eq_false_iff_not] at hb
 have ha':=(List.mem_filter.1 ha).1
 rcases hb with ⟨⟨_,h1⟩,h2⟩|⟨⟨_,h1⟩,h2⟩
 ·exact⟨inF_iff.2 ⟨a,ha',.inl h1⟩,fun e=>h2 e.symm⟩
 ·exact⟨inF_iff.2 ⟨a,ha',.inr h1⟩,fun e=>h2 e.symm⟩
theorem aput_one {j:Nat} (hj:j<24) {f:List C} (hf:rightA f=true):ptA f (j:Int) [top0]=leastF (rstL f (posB j))∧(leastF (rstL f (posB j))).2=0:=by
 have hall:∀ c∈f,rightC c=true∧okC c=true:=fun c hc=>⟨List.all_eq_true.1 (rightF_all (rightA_right hf)) c hc,rightA_ok hf c hc⟩
 have hA:(rstL f (posB j)).all rightC=true:=all_mem (rst_right' (fun x hx=>(hall x hx).1) _)
 refine⟨?_,least_small hA (Nat.le_trans (rst_len f _) (rightA_len hf))⟩
 have hd:isDimB (j:Int)=true:=isDimB_nat hj
 have hq:rightF [top0]=true:=by decide
 unfold ptA
 rw [hf,hd,hq]
 have e1:(ofF [top0]).1=[top0]:=by decide
 have e2:ofZ [top0]=([],0):=by decide
 rw [e1,e2]
 exact pts_one hj f hall (rightA_len hf)
theorem aput_one_in {j k:Nat} (hj:j<24) {f:List C} (hf:rightA f=true) (h:inF (leastF (rstL f (posB j))).1 k=true):inF f k=true∧k≠j:=by
 obtain⟨c,hc,hb⟩:=inF_iff.1 h
 obtain⟨a,ha,hw,rfl⟩:=mem_rst.1 (leastF_sub c hc)
 rw [with_one hj (rightA_ok hf a ha),Bool.not_eq_true'] at hw
 rw [cut_one hj (List.all_eq_true.1 (rightF_all (rightA_right hf)) a ha) (rightA_ok hf a ha) hw] at hb
 rw [(out_bits a j k hj).1,(out_bits a j k hj).2] at hb
 simp only [Bool.and_eq_true,Bool.not_eq_true',decide_eq_true_eq,decide_eq_false_iff_not] at hb
 rcases hb with ⟨⟨_,h1⟩,h2⟩|⟨⟨_,h1⟩,h2⟩
 ·exact⟨inF_iff.2 ⟨a,ha,.inl h1⟩,fun e=>h2 e.symm⟩
 ·exact⟨inF_iff.2 ⟨a,ha,.inr h1⟩,fun e=>h2 e.symm⟩
def cut_nilL (l:List C) (j:Nat):List C:=(l.filter fun c=>!c.1.val.testBit j).map fun c=>outC c (j:Int)
theorem part_nil {c:C} {j:Nat} (hj:j<24):partF c (j:Int) [] ([top0],0)=(if c.1.val.testBit j then [] else [outC c (j:Int)],0):=by
 have hB1:hasB c.1.val (j:Int)=c.1.val.testBit j:=hasB_nat hj
 have hB2:hasB c.2.val (j:Int)=c.2.val.testBit j:=hasB_nat hj
 have hr:=out_right c (j:Int)
 unfold partF partA
 rw [hB1,hB2]
 cases h1:c.1.val.testBit j <;> cases h2:c.2.val.testBit j <;> simp [meetR_top hr,meetR_nil,meetR_nill]
theorem fputs_nil {j:Nat} (hj:j<24) (f:List C):f.length≤64→putS f (j:Int) [] ([top0],0)=leastF (cut_nilL f j):=by
 induction f using snoc_ind with
 | nil=>intro _;simp only [putS,List.foldl_nil,cut_nilL,List.filter_nil,List.map_nil];decide
 | snoc f c ih =>
  intro hl
  have hl2:f.length≤64:=by simp at hl;omega
  have hA:(cut_nilL f j).all rightC=true:=all_mem (fun x hx=>by obtain⟨a,_,rfl⟩:=List.mem_map.1 hx;exact out_right a _)
  have h0:(leastF (cut_nilL f j)).2=0:=least_small hA (by unfold cut_nilL;rw [List.length_map];exact Nat.le_trans (List.length_filter_le _ _) hl2)
  rw [putS_snoc,ih hl2]
  have e:=leastF_pair h0
  rw [e,stepP_some,part_nil hj,if_pos rfl]
  have e2:cut_nilL (f ++ [c]) j=cut_nilL f j++(if c.1.val.testBit j then [] else [outC c (j:Int)]):=by
   unfold cut_nilL
   rw [List.filter_append,List.map_append]
   congr 1
   cases h:c.1.val.testBit j <;> simp [h]
  rw [e2]
  show leastF ((leastF (cut_nilL f j)).1++_)=_
  refine least_more hA (all_mem (fun x hx=>?_)) h0
  split at hx
  ·cases hx
  ·rw [List.mem_singleton.1 hx];exact out_right c j
theorem fput_nil {j:Nat} (hj:j<24) {l:List C} (hl:rightF l=true):putF l (j:Int) []=leastF (cut_nilL l j)∧(leastF (cut_nilL l j)).2=0:=by
 have hA:(cut_nilL l j).all rightC=true:=all_mem (fun x hx=>by obtain⟨a,_,rfl⟩:=List.mem_map.1 hx;exact out_right a _)
 refine⟨?_,least_small hA (by unfold cut_nilL;rw [List.length_map];exact Nat.le_trans (List.length_filter_le _ _) (rightF_len hl))⟩
 rw [putF_ok hl (by decide) (isDimB_nat hj)]
 unfold putR
 have e:notR []=([top0],0):=by decide
 rw [e]
 exact fputs_nil hj l (rightF_len hl)
theorem fput_nil_in {j k:Nat} (hj:j<24) {l:List C} (h:inF (leastF (cut_nilL l j)).1 k=true):inF l k=true∧k≠j:=by
 obtain⟨c,hc,hb⟩:=inF_iff.1 h
 obtain⟨a,ha,rfl⟩:=List.mem_map.1 (leastF_sub c hc)
 rw [(out_bits a j k hj).1,(out_bits a j k hj).2] at hb
 simp only [Bool.and_eq_true,Bool.not_eq_true',decide_eq_true_eq,decide_eq_false_iff_not] at hb
 have ha':=(List.mem_filter.1 ha).1
 rcases hb with ⟨⟨_,h1⟩,h2⟩|⟨⟨_,h1⟩,h2⟩
 ·exact⟨inF_iff.2 ⟨a,ha',.inl h1⟩,fun e=>h2 e.symm⟩
 ·exact⟨inF_iff.2 ⟨a,ha',.inr h1⟩,fun e=>h2 e.symm⟩
theorem aput_nil {j:Nat} (hj:j<24) {f:List C} (hf:rightA f=true):ptA f (j:Int) []=leastF (rstL f (negB j))∧(leastF (rstL f (negB j))).2=0:=by
 have hall:∀ c∈f,rightC c=true∧okC c=true:=fun c hc=>⟨List.all_eq_true.1 (rightF_all (rightA_right hf)) c hc,rightA_ok hf c hc⟩
 have hA:(rstL f (negB j)).all rightC=true:=all_mem (rst_right' (fun x hx=>(hall x hx).1) _)
 refine⟨?_,least_small hA (Nat.le_trans (rst_len f _) (rightA_len hf))⟩
 have hd:isDimB (j:Int)=true:=isDimB_nat hj
 have hq:rightF []=true:=by decide
 unfold ptA
 rw [hf,hd,hq]
 have e1:(ofF []).1=[]:=by decide
 have e2:ofZ []=([top0],0):=by decide
 rw [e1,e2]
 exact pts_nil hj f hall (rightA_len hf)
theorem aput_nil_in {j k:Nat} (hj:j<24) {f:List C} (hf:rightA f=true) (h:inF (leastF (rstL f (negB j))).1 k=true):inF f k=true∧k≠j:=by
 obtain⟨c,hc,hb⟩:=inF_iff.1 h
 obtain⟨a,ha,hw,rfl⟩:=mem_rst.1 (leastF_sub c hc)
 rw [with_nil hj (rightA_ok hf a ha),Bool.not_eq_true'] at hw
 rw [cut_nil hj (List.all_eq_true.1 (rightF_all (rightA_right hf)) a ha) (rightA_ok hf a ha) hw] at hb
 rw [(out_bits a j k hj).1,(out_bits a j k hj).2] at hb
 simp only [Bool.and_eq_true,Bool.not_eq_true',decide_eq_true_eq,decide_eq_false_iff_not] at hb
 rcases hb with ⟨⟨_,h1⟩,h2⟩|⟨⟨_,h1⟩,h2⟩
 ·exact⟨inF_iff.2 ⟨a,ha,.inl h1⟩,fun e=>h2 e.symm⟩
 ·exact⟨inF_iff.2 ⟨a,ha,.inr h1⟩,fun e=>h2 e.symm⟩
theorem put_no {PF:List C→Int→List C→List C × Int} {i bd:Nat} {r l:List C} (h:i+bd<24→inF l (i+bd)=false):putRow PF (i:Int) r l bd=(l,0):=by
 unfold putRow
 have e:hasB (dimsN l) ((i:Int) + (bd:Int))=false:=by
  have e1:((i:Int) + (bd:Int))=((i+bd:Nat):Int):=by omega
  rw [e1]
  by_cases h24:i+bd<24
  ·rw [hasB_nat h24,dimsN_bit,h h24];simp
  ·exact hasB_no (by simp [isDimB];omega)
 rw [e];rfl
theorem put_yes {PF:List C→Int→List C→List C × Int} {s:DStp} (hs:s.ok) {bd:Nat} {l:List C} (h24:s.i+bd<24) (h:inF l (s.i+bd)=true):putRow PF (s.i:Int) s.r l bd=PF l ((s.i+bd:Nat):Int) s.r:=by
 unfold putRow
 have e1:((s.i:Int) + (bd:Int))=((s.i+bd:Nat):Int):=by omega
 rw [e1,hasB_nat h24,dimsN_bit,h]
 have e2:liftFF s.r 0 (bd:Int)=(s.r,0):=by
  rcases hs.2 with ⟨hr,_⟩|⟨hr,_⟩
  ·rw [hr];exact lift_top24 ⟨bd,by omega⟩
  ·rw [hr];exact lift_nil24 ⟨bd,by omega⟩
 rw [e2]
 simp [h24]
theorem row_cases {i bd:Nat} {l:List C}:(i+bd<24∧inF l (i+bd)=true)∨(i+bd<24→inF l (i+bd)=false):=by
 by_cases h:i+bd<24
 ·cases hh:inF l (i+bd)
  ·exact .inr (fun _=>rfl)
  ·exact .inl ⟨h,rfl⟩
 ·exact .inr (fun h'=>absurd h' h)
theorem rowF {s:DStp} (hs:s.ok) {l:List C} (hl:rightF l=true) (bd:Nat):((putOp s.i s.r).fn l bd).2=0∧rightF ((putOp s.i s.r).fn l bd).1=true∧∀ k,k<24→inF ((putOp s.i s.r).fn l bd).1 k=true→inF l k=true∧k≠s.i+bd:=by
 show (putRow putF (s.i:Int) s.r l bd).2=0∧rightF (putRow putF (s.i:Int) s.r l bd).1=true∧∀ k,k<24→inF (putRow putF (s.i:Int) s.r l bd).1 k=true→inF l k=true∧k≠s.i+bd
 rcases row_cases (i:=s.i) (bd:=bd) (l:=l) with ⟨h24,h⟩|h
 ·rw [put_yes hs h24 h]
  rcases hs.2 with ⟨hr,_⟩|⟨hr,_⟩
  ·rw [hr]
   obtain⟨e1,e2⟩:=fput_one h24 hl
   rw [e1]
   exact⟨e2,leastF_right _,fun k _ hk=>fput_one_in h24 hk⟩
  ·rw [hr]
   obtain⟨e1,e2⟩:=fput_nil h24 hl
   rw [e1]
   exact⟨e2,leastF_right _,fun k _ hk=>fput_nil_in h24 hk⟩
 ·rw [put_no h]
  exact⟨rfl,hl,fun k hk hi=>⟨hi,fun e=>by subst e;rw [h hk] at hi;cases hi⟩⟩
theorem rowA {s:DStp} (hs:s.ok) {l:List C} (hl:rightA l=true) (bd:Nat):((putOp s.i s.r).fc l bd).2=0∧rightA ((putOp s.i s.r).fc l bd).1=true∧∀ k,k<24→inF ((putOp s.i s.r).fc l bd).1 k=true→inF l k=true∧k≠s.i+bd:=by
 show (putRow ptA (s.i:Int) s.r l bd).2=0∧rightA (putRow ptA (s.i:Int) s.r l bd).1=true∧∀ k,k<24→inF (putRow ptA (s.i:Int) s.r l bd).1 k=true→inF l k=true∧k≠s.i+bd
 rcases row_cases (i:=s.i) (bd:=bd) (l:=l) with ⟨h24,h⟩|h
 ·rw [put_yes hs h24 h]
  have hR:=ptA_right l ((s.i+bd:Nat):Int) s.r
  rcases hs.2 with ⟨hr,_⟩|⟨hr,_⟩
  ·rw [hr] at hR ⊢
   obtain⟨e1,e2⟩:=aput_one h24 hl
   refine⟨by rw [e1];exact e2,hR,fun k _ hk=>?_⟩
   rw [e1] at hk
   exact aput_one_in h24 hl hk
  ·rw [hr] at hR ⊢
   obtain⟨e1,e2⟩:=aput_nil h24 hl
   refine⟨by rw [e1];exact e2,hR,fun k _ hk=>?_⟩
   rw [e1] at hk
   exact aput_nil_in h24 hl hk
 ·rw [put_no h]
  exact⟨rfl,hl,fun k hk hi=>⟨hi,fun e=>by subst e;rw [h hk] at hi;cases hi⟩⟩
theorem bit_in {l:List C} {k:Nat}:(dimsN l).testBit k=true↔k<24∧inF l k=true:=by rw [dimsN_bit,Bool.and_eq_true,decide_eq_true_eq]
theorem reach_sub {o:Bool} {e:Nat} {r r':List C} (h:reachB o e r=true) (hs:∀ k,k<24→inF r' k=true→inF r k=true):reachB o e r'=true:=by
 unfold reachB at h ⊢
 cases o
 ·simp only [Bool.false_or,decide_eq_true_eq] at h ⊢
  refine Nat.eq_of_testBit_eq (fun j=>?_)
  rw [Nat.zero_testBit,Nat.testBit_div_two_pow]
  cases hb:(dimsN r').testBit (j+e)
  ·rfl
  ·have h1:=bit_in.1 hb
   have h2:(dimsN r).testBit (j+e)=true:=bit_in.2 ⟨h1.1,hs _ h1.1 h1.2⟩
   have h3:(dimsN r / 2 ^ e).testBit j=true:=by rw [Nat.testBit_div_two_pow];exact h2
   rw [h,Nat.zero_testBit] at h3
   cases h3
 ·rfl
theorem own_ok {s:DStp} (hs:s.ok) {o:Bool} {e:Nat} {k:Int} {r:List C} (h:rowB o e k r=true) (bd:Nat):(ownP (putOp s.i s.r) k r bd).2=0∧rowB o e k (ownP (putOp s.i s.r) k r bd).1=true∧∀ j,j<24→inF (ownP (putOp s.i s.r) k r bd).1 j=true→inF r j=true∧j≠s.i+bd:=by
 unfold rowB at h ⊢
 by_cases h1:k=13∨k=21∨k=26
 ·have hk:¬ k=14:=by omega
  rw [if_pos h1,Bool.and_eq_true] at h
  obtain⟨a,b,c⟩:=rowF hs h.1 bd
  unfold ownP
  rw [if_neg hk,if_pos h1,b]
  exact⟨a,by rw [Bool.true_and];exact reach_sub h.2 (fun j hj hi=>(c j hj hi).1),c⟩
 ·rw [if_neg h1] at h ⊢
  by_cases hk:k=14
  ·rw [if_pos hk,Bool.and_eq_true] at h
   obtain⟨a,b,c⟩:=rowA hs h.1 bd
   unfold ownP
   rw [if_pos hk,if_pos hk,b]
   exact⟨a,by rw [Bool.true_and];exact reach_sub h.2 (fun j hj hi=>(c j hj hi).1),c⟩
  ·rw [if_neg hk,decide_eq_true_eq] at h
   obtain rfl:=List.length_eq_zero_iff.1 h
   have e:(putOp s.i s.r).fn [] bd=([],0):=put_no (fun _=>rfl)
   unfold ownP
   rw [if_neg hk,if_neg hk,e]
   exact⟨rfl,rfl,fun j _ hj=>by cases hj⟩
theorem dS_mem {o:DOp} {k:Int} {l:List (List C × List Tm)} {bd:Nat} {y:List C × List Tm} (h:y∈dS o k l bd):∃ b∈l,stayB o bd b.1=true∧y=dB o k b bd:=by
 unfold dS at h
 obtain⟨b,hb,rfl⟩:=List.mem_map.1 h
 exact⟨b,(List.mem_filter.1 hb).1,(List.mem_filter.1 hb).2,rfl⟩
theorem d_pts {o:DOp} {t:Tm} {bd:Nat} {p:Tm × Nat × Nat} (h:p∈(dT o t bd).pts):∃ q∈t.pts,q.2=p.2∧p.1=dT o q.1 (bd+q.2.2):=by
 rw [d_eq] at h
 rcases mem_pts h with ⟨i,h1,h2⟩|⟨b,h1,h2,h3⟩
 ·dsimp only at h1 h2
  obtain⟨x,hx⟩:=someL (l:=t.kids) (k:=i) (by rw [← dK_len o t.kind t.kids bd];exact some_lt h1)
  rw [dK_get hx] at h1
  injection h1 with h1
  exact⟨_,pts_kid hx,h2.symm,h1.symm⟩
 ·dsimp only at h1 h2 h3
  obtain⟨b0,hb0,_,rfl⟩:=dS_mem h1
  unfold dB at h2
  dsimp only at h2
  obtain⟨x,hx,e⟩:=List.mem_map.1 h2
  exact⟨_,pts_sys hb0 hx,h3.symm,e.symm⟩
theorem e_ok {s:DStp} (hs:s.ok) {o:Bool} {V:Int} {D:Nat}:∀ (n:Nat) (t:Tm) (bd bv b2:Nat),blk t≤n→okT o V D t bv b2=true→eT (putOp s.i s.r) t bd=0
 | 0,t,bd,bv,b2,hn,_=>by have:=blk_pos t;omega
 | n+1,t,bd,bv,b2,hn,h=>by
  rw [ok_eq,Bool.and_eq_true] at h
  obtain⟨h1,h2⟩:=h
  rw [List.all_eq_true] at h2
  unfold Tm.node nodeB at h1
  simp only [Bool.and_eq_true] at h1
  obtain⟨⟨⟨⟨⟨_,_⟩,_⟩,_⟩,hrow⟩,hsys⟩:=h1
  refine e_none (own_ok hs hrow bd).1 (firstE_zero.2 fun x hx=>?_) (firstE_zero.2 fun x hx=>?_)
  ·obtain⟨i,hi⟩:=List.mem_iff_getElem?.1 hx
   obtain⟨y,hy⟩:=someL (l:=t.kids) (k:=i) (by rw [← eK_len (putOp s.i s.r) t.kind t.kids bd];exact some_lt hi)
   rw [eK_get hy] at hi
   injection hi with hi
   rw [← hi]
   exact e_ok hs n y _ _ _ (by have:=blk_kid (List.mem_of_getElem? hy);omega) (h2 _ (pts_kid hy))
  ·unfold eS at hx
   obtain⟨b,hb,rfl⟩:=List.mem_map.1 hx
   have hbr:=List.all_eq_true.1 hsys (b.1,b.2.length) (List.mem_map_of_mem hb)
   unfold brB at hbr
   simp only [Bool.and_eq_true] at hbr
   have hf:=(rowA hs hbr.1.2 bd).1
   cases hst:stayB (putOp s.i s.r) bd b.1
   ·exact b_gone hf hst
   ·refine b_none hf hst (firstE_zero.2 fun x hx=>?_)
    unfold eBk at hx
    obtain⟨y,hy,rfl⟩:=List.mem_map.1 hx
    exact e_ok hs n y _ _ _ (by have:=blk_sub hb hy;omega) (h2 _ (pts_sys hb hy))
theorem ok_d {s:DStp} (hs:s.ok) {o:Bool} {V:Int} {D:Nat}:∀ (n:Nat) (t:Tm) (bd bv b2:Nat),blk t≤n→okT o V D t bv b2=true→okT o V D (dT (putOp s.i s.r) t bd) bv b2=true
 | 0,t,bd,bv,b2,hn,_=>by have:=blk_pos t;omega
 | n+1,t,bd,bv,b2,hn,h=>by
  rw [ok_eq,Bool.and_eq_true] at h ⊢
  obtain⟨h1,h2⟩:=h
  rw [List.all_eq_true] at h2 ⊢
  refine⟨?_,fun p hp=>?_⟩
  ·rw [d_eq]
   unfold Tm.node nodeB at h1 ⊢
   simp only [Bool.and_eq_true] at h1 ⊢
   obtain⟨⟨⟨⟨⟨c1,c2⟩,c3⟩,c4⟩,hrow⟩,hsys⟩:=h1
   refine⟨⟨⟨⟨⟨c1,by rw [dK_len];exact c2⟩,c3⟩,c4⟩,(own_ok hs hrow bd).2.1⟩,?_⟩
   rw [List.all_eq_true] at hsys ⊢
   intro q hq
   obtain⟨y,hy,rfl⟩:=List.mem_map.1 hq
   obtain⟨b,hb,_,rfl⟩:=dS_mem hy
   have hbr:=hsys (b.1,b.2.length) (List.mem_map_of_mem hb)
   unfold brB at hbr ⊢
   simp only [Bool.and_eq_true] at hbr ⊢
   obtain⟨r1,r2,r3⟩:=rowA hs hbr.1.2 bd
   refine⟨⟨⟨hbr.1.1.1,?_⟩,r2⟩,reach_sub hbr.2 (fun k hk hi=>(r3 k hk hi).1)⟩
   show decide (((b.2.map fun x=>dT (putOp s.i s.r) x (bd+moreK t.kind)).length:Int)=partsK t.kind)=true
   rw [List.length_map]
   exact hbr.1.1.2
  ·obtain⟨q,hq,e1,e2⟩:=d_pts hp
   rw [e2,← e1]
   exact ok_d hs n q.1 _ _ _ (by have:=blk_pts hq;omega) (h2 q hq)
theorem pall_all {r:List C} {p:Nat→C} {o:Bool} {V:Int} {D:Nat}:∀ (l:List Nat) (t:Tm),(∀ i∈l,(DStp.mk i r (p i)).ok)→okT o V D t 0 0=true→l.foldl (pallS r) (t,0)=((l.map fun i=>DStp.mk i r (p i)).foldl dStp t,0)∧okT o V D ((l.map fun i=>DStp.mk i r (p i)).foldl dStp t) 0 0=true
 | [],t,_,h=>⟨rfl,h⟩
 | i :: l,t,hl,h=>by
  have hs:=hl i (by simp)
  have he:eT (putOp i r) t 0=0:=e_ok hs _ t 0 0 0 (Nat.le_refl _) h
  have e:pallS r (t,0) i=(dT (putOp i r) t 0,0):=by unfold pallS ansD;simp [he]
  rw [List.foldl_cons,e]
  exact pall_all l _ (fun x hx=>hl x (List.mem_cons_of_mem _ hx)) (ok_d hs _ t 0 0 0 (Nat.le_refl _) h)
theorem undR_all {c:C} {t:Tm} {o:Bool} {V:Int} {D:Nat} (h:okT o V D t 0 0=true):undR c t=((stepsC c).foldl dStp t,0)∧okT o V D ((stepsC c).foldl dStp t) 0 0=true:=by
 obtain⟨e1,h1⟩:=pall_all (r:=[top0]) (p:=posB) (dimsOf c.1.val) t (fun i hi=>⟨dimsOf_lt i hi,.inl ⟨rfl,rfl⟩⟩) h
 obtain⟨e2,h2⟩:=pall_all (r:=[]) (p:=negB) (dimsOf c.2.val) _ (fun i hi=>⟨dimsOf_lt i hi,.inr ⟨rfl,rfl⟩⟩) h1
 unfold undR pall stepsC
 rw [e1,List.foldl_append]
 exact⟨by rw [if_pos rfl,e2],h2⟩
end Go.Proofs.YtpmmbfngogpinaaGreat

set_option linter.unusedVariables false
set_option linter.unusedSimpArgs false
namespace Go.Proofs.YtpmmbfngogpinaaGreat
open Go.RowKit
def OkS (B:Nat→Prop) (base:Nat) (w:World) (q:Nat):Prop:=(B q∧q<w.heap.size)∨OkN base w q
theorem OkS.lt {B:Nat→Prop} {base:Nat} {w:World} {q:Nat} (h:OkS B base w q):q<w.heap.size:=h.elim (fun h=>h.2) OkN.lt
theorem OkS.same {B:Nat→Prop} {base:Nat} {w w':World} {q:Nat} (h:OkS B base w q) (hb:w'.heap[q]? = w.heap[q]?):OkS B base w' q :=
 h.elim (fun h=>.inl ⟨h.1,(Array.getElem?_eq_some_iff.1 (hb.trans (Array.getElem?_eq_getElem h.2))).1⟩) (fun h=>.inr (h.same hb))
theorem OkS.mono {B:Nat→Prop} {base base':Nat} {w:World} {q:Nat} (h:OkS B base w q) (hb:base'≤base):OkS B base' w q:=h.elim .inl (fun h=>.inr (h.mono hb))
theorem OkS.blw {B:Nat→Prop} {base:Nat} {w w':World} {q:Nat} (h:OkS B base w q) (hb:Below w.heap.size w w'):OkS B base w' q:=h.same (hb.block q h.lt)
theorem ClRow.lts {w:World} {l:List C} {v:Value} (h:ClRow Tt w l v):ClRow (fun q=>q<w.heap.size) w l v:=by
 obtain⟨a,cap,e,h1,h2⟩:=h
 refine⟨a,cap,e,h1,fun j c hj=>?_⟩
 obtain⟨g,off,e1,_,h3,h4⟩:=h2 j c hj
 exact⟨g,off,e1,h3,h3,h4⟩
theorem TmIn.lts' {w:World}:∀ (n:Nat) (t:Tm) (v:Value),blk t≤n→TmIn Tt w t v→TmIn (fun q=>q<w.heap.size) w t v
 | 0,t,v,hn,_=>by have:=blk_pos t;omega
 | n+1,t,v,hn,h=>by
  obtain⟨ra,rc,ka,kc,sa,sc,rfl,ht⟩:=h.form
  have hk:KdT (fun q=>q<w.heap.size) w (TmIn (fun q=>q<w.heap.size) w) t.kids (.slice ka t.kids.length kc):=by
   obtain⟨a,cap,e,h1,h2⟩:=ht.kids
   refine⟨a,cap,e,h1,fun j x hx=>?_⟩
   obtain⟨g,off,u0,u1,u2,u3,u4,u5,e1,_,h3,h4,h5⟩:=h2 j x hx
   exact⟨g,off,u0,u1,u2,u3,u4,u5,e1,h3,h3,TmIn.lts' n x _ (by have:=blk_kid (List.mem_of_getElem? hx);omega) h4,h5⟩
  have hs:SyT (fun q=>q<w.heap.size) w (TmIn (fun q=>q<w.heap.size) w) t.sys (.slice sa t.sys.length sc):=by
   obtain⟨a,cap,e,h1,h2⟩:=ht.sys
   refine⟨a,cap,e,h1,fun j b hb=>?_⟩
   obtain⟨g,off,vf,vk,e1,_,h3,h4,h5,h6⟩:=h2 j b hb
   refine⟨g,off,vf,vk,e1,h3,h3,h4.lts,?_,h6⟩
   obtain⟨a',cap',e',h1',h2'⟩:=h5
   refine⟨a',cap',e',h1',fun j x hx=>?_⟩
   obtain⟨g,off,u0,u1,u2,u3,u4,u5,e1,_,h3,h4,h5⟩:=h2' j x hx
   exact⟨g,off,u0,u1,u2,u3,u4,u5,e1,h3,h3,TmIn.lts' n x _ (by have:=blk_sub (List.mem_of_getElem? hb) (List.mem_of_getElem? hx);omega) h4,h5⟩
  obtain⟨k0,n0,s0,r0,l0,y0⟩:=t
  exact TmIn.mk k0 n0 s0 r0 l0 y0 _ _ _ ht.ik ht.inn ht.row.lts hk hs
theorem TmIn.lts {w:World} {t:Tm} {v:Value} (h:TmIn Tt w t v):TmIn (fun q=>q<w.heap.size) w t v:=TmIn.lts' _ t v (Nat.le_refl _) h
section
variable {B:Nat→Prop}
def OkRS (B:Nat→Prop) (base:Nat) (No:Nat→Prop) (w:World) (v:Value) (q:Nat):Prop:=OkS B base w q∧some q≠v.ownBlock∧No q
def KOwS (B:Nat→Prop) (base:Nat) (No:Nat→Prop) (w:World) (v:Value) (l:List Tm):Prop :=
 ∃ us:List V6,us.length=l.length∧w.ownsRow base 26 6 v l.length (flat6 us)∧(∀ k,v.ownBlock=some k→No k)∧∀ (j:Nat) (x:Tm) (u:V6),l[j]? = some x→us[j]? = some u→TmIn (OkRS B base No w v) w x (agg6 u)
def BOwS (B:Nat→Prop) (base:Nat) (No:Nat→Prop) (w:World) (v:Value) (l:List (List C × List Tm)):Prop :=
 ∃ us:List (Value × Value),us.length=l.length∧w.ownsRow base 40 2 v l.length (flat2 us)∧(∀ k,v.ownBlock=some k→No k)∧∀ (j:Nat) (x:List C × List Tm) (u:Value × Value),l[j]? = some x→us[j]? = some u→ClRow (OkRS B base No w v) w x.1 u.1∧KdT (OkRS B base No w v) w (TmIn (OkRS B base No w v) w) x.2 u.2
theorem KOwS.nil (base:Nat) (No:Nat→Prop) (w:World):KOwS B base No w (.slice none 0 0) []:=⟨[],rfl,World.ownsRow_nil _ _ _ _,fun k h=>(by cases h),fun j x u h=>by simp at h⟩
theorem BOwS.nil (base:Nat) (No:Nat→Prop) (w:World):BOwS B base No w (.slice none 0 0) []:=⟨[],rfl,World.ownsRow_nil _ _ _ _,fun k h=>(by cases h),fun j x u h=>by simp at h⟩
theorem KOwS.keep {base:Nat} {No No2:Nat→Prop} {w w':World} {v:Value} {l:List Tm} (h:KOwS B base No w v l) (hk:Kn No2 w w') (hn:∀ q,No q→No2 q):KOwS B base No w' v l:=by
 obtain⟨us,h1,h2,h3,h4⟩:=h
 refine⟨us,h1,owns_keep h2 (fun k hk'=>hk.block k (hn k (h3 k hk')) (World.ownsRow.lt h2 k hk').2),h3,fun j x u hx hu=>(h4 j x u hx hu).keep hk.size (fun q hq=>?_) (fun q hq hs=>hk.block q (hn q hq.2.2) hs)⟩
 exact⟨hq.1.same (hk.block q (hn q hq.2.2) hq.1.lt),hq.2⟩
theorem BOwS.keep {base:Nat} {No No2:Nat→Prop} {w w':World} {v:Value} {l:List (List C × List Tm)} (h:BOwS B base No w v l) (hk:Kn No2 w w') (hn:∀ q,No q→No2 q):BOwS B base No w' v l:=by
 obtain⟨us,h1,h2,h3,h4⟩:=h
 have ho:∀ q,OkRS B base No w v q→OkRS B base No w' v q:=fun q hq=>⟨hq.1.same (hk.block q (hn q hq.2.2) hq.1.lt),hq.2⟩
 have hb:∀ q,OkRS B base No w v q→q<w.heap.size→w'.heap[q]? = w.heap[q]?:=fun q hq hs=>hk.block q (hn q hq.2.2) hs
 refine⟨us,h1,owns_keep h2 (fun k hk'=>hk.block k (hn k (h3 k hk')) (World.ownsRow.lt h2 k hk').2),h3,fun j x u hx hu=>⟨(h4 j x u hx hu).1.keep hk.size ho hb,(h4 j x u hx hu).2.all hk.size ho hb⟩⟩
theorem KOwS.row {base:Nat} {No:Nat→Prop} {w:World} {v:Value} {l:List Tm} (h:KOwS B base No w v l):KdT (fun q=>OkS B base w q∧No q) w (TmIn (fun q=>OkS B base w q∧No q) w) l v:=by
 obtain⟨us,h1,h2,h3,h4⟩:=h
 rcases h2.2 with ⟨rfl,hz⟩|⟨g,cap,cur,rfl,hb,hh,hn,_,_,hc⟩
 ·obtain rfl:l=[]:=List.length_eq_zero_iff.1 hz
  exact kt_nil _ _ _
 ·refine⟨_,_,rfl,hn,fun j x hx=>?_⟩
  obtain⟨u,hu⟩:=someL (l:=us) (k:=j) (by have:=some_lt hx;omega)
  have hcell:=h2.cells (g:=g) rfl
  obtain⟨f0,f1,f2,f3,f4,f5⟩:=flat6_get us j u hu
  refine⟨g,0,u.1,u.2.1,u.2.2.1,u.2.2.2.1,u.2.2.2.2.1,u.2.2.2.2.2,rfl,⟨.inr ⟨hb,cur,_,hh⟩,h3 g rfl⟩,(Array.getElem?_eq_some_iff.1 hh).1,(h4 j x u hx hu).up fun q hq=>⟨hq.1,hq.2.2⟩,?_,?_,?_,?_,?_,?_⟩
  ·have:=hcell _ _ f0;rw [Addr.add_lit] at this;simpa using this
  ·have:=hcell _ _ f1;rw [Addr.add_lit] at this;simpa using this
  ·have:=hcell _ _ f2;rw [Addr.add_lit] at this;simpa using this
  ·have:=hcell _ _ f3;rw [Addr.add_lit] at this;simpa using this
  ·have:=hcell _ _ f4;rw [Addr.add_lit] at this;simpa using this
  ·have:=hcell _ _ f5;rw [Addr.add_lit] at this;simpa using this
theorem BOwS.row {base:Nat} {No:Nat→Prop} {w:World} {v:Value} {l:List (List C × List Tm)} (h:BOwS B base No w v l):SyT (fun q=>OkS B base w q∧No q) w (TmIn (fun q=>OkS B base w q∧No q) w) l v:=by
 obtain⟨us,h1,h2,h3,h4⟩:=h
 rcases h2.2 with ⟨rfl,hz⟩|⟨g,cap,cur,rfl,hb,hh,hn,_,_,hc⟩
 ·obtain rfl:l=[]:=List.length_eq_zero_iff.1 hz
  exact sy_nil _ _ _
 ·refine⟨_,_,rfl,hn,fun j x hx=>?_⟩
  obtain⟨u,hu⟩:=someL (l:=us) (k:=j) (by have:=some_lt hx;omega)
  have hcell:=h2.cells (g:=g) rfl
  obtain⟨f0,f1⟩:=flat2_get us j u hu
  obtain⟨p1,p2⟩:=h4 j x u hx hu
  refine⟨g,0,u.1,u.2,rfl,⟨.inr ⟨hb,cur,_,hh⟩,h3 g rfl⟩,(Array.getElem?_eq_some_iff.1 hh).1,p1.keep (Nat.le_refl _) (fun q hq=>⟨hq.1,hq.2.2⟩) (fun _ _ _=>rfl),p2.all (Nat.le_refl _) (fun q hq=>⟨hq.1,hq.2.2⟩) (fun _ _ _=>rfl),?_,?_⟩
  ·have:=hcell _ _ f0;rw [Addr.add_lit] at this;simpa using this
  ·have:=hcell _ _ f1;rw [Addr.add_lit] at this;simpa using this
theorem okrs_grown {base:Nat} {No:Nat→Prop} {W W':World} {v v':Value} (hg:W.grownBy W' v.ownBlock) (hv:v'.ownBlock=v.ownBlock∨v'.ownBlock=some W.heap.size) (q:Nat) (hq:OkRS B base No W v q):OkRS B base No W' v' q:=by
 have hlt:=hq.1.lt
 refine⟨hq.1.same (hg.block q hlt hq.2.1),?_,hq.2.2⟩
 rcases hv with h|h
 ·rw [h];exact hq.2.1
 ·rw [h];intro e;injection e with e;omega
theorem append_TS {base:Nat} {No:Nat→Prop} {W:World} {v:Value} {l:List Tm} {x:Tm} {u:V6} (ty:TypeId) (hO:KOwS B base No W v l) (ad:Addr) (c:Nat) (hc:∀ (j:Nat) (y:Value),(flat6 [u])[j]? = some y→W.cell? (ad.add j)=some y) (hx:TmIn (OkRS B base No W v) W x (agg6 u)) (hn:l.length+1≤200000) (hb:base≤W.heap.size) (hN:No W.heap.size) :
  ∃ v' W',(Builtin.append_ #[23,23] ty #[v,.slice (some ad) 1 c]).run Tryz.prog W=.ok v' W'∧KOwS B base No W' v' (l ++ [x])∧W.grownBy W' v.ownBlock∧(v'.ownBlock=v.ownBlock∨v'.ownBlock=some W.heap.size):=by
 obtain⟨i0,hi,hz0,hz1,hz2⟩:=info_parts infoT
 obtain⟨us,h1,h2,h3,h4⟩:=hO
 obtain⟨ra,rc,ka,kc,sa,sc,e,ht⟩:=hx.form
 have hone:∀ y∈flat6 [u],y.oneCell'=true:=by
  unfold agg6 at e
  injection e with e
  simp only [Array.mk.injEq,List.cons.injEq,and_true] at e
  obtain⟨e0,e1,e2,e3,e4,e5⟩:=e
  intro y hy
  simp only [flat6,List.mem_cons,List.not_mem_nil,or_false] at hy
  rcases hy with rfl|rfl|rfl|rfl|rfl|rfl
  ·rw [e0];rfl
  ·rw [e1];rfl
  ·rw [e2];rfl
  ·rw [e3];rfl
  ·rw [e4];rfl
  ·rw [e5];rfl
 obtain⟨v',W',hrun,r1,r2,_,r4⟩:=run_append_own_at (P:=Tryz.prog) W base 23 ty 26 i0 _ 6 104 Tryz.underlying23 hi hz0 hz1 hz2 rfl (by decide) v l.length (flat6 us) h2 ad 1 c (flat6 [u]) (flat6_length _) hc hone (by unfold maxLen;omega) (by omega) hb
 refine⟨v',W',hrun,⟨us ++ [u],by simp [h1],by rw [List.length_append,flat6_append];exact r1,fun k hk=>?_,fun j y z hy hz=>?_⟩,r2,r4⟩
 ·rcases r4 with h|h
  ·rw [h] at hk;exact h3 k hk
  ·rw [h] at hk;injection hk with hk;rw [← hk];exact hN
 ·have hkeep:∀ t z,TmIn (OkRS B base No W v) W t z→TmIn (OkRS B base No W' v') W' t z:=fun t z h=>h.keep r2.size (okrs_grown r2 r4) (fun q hq hs=>r2.block q hs hq.2.1)
  rcases Nat.lt_or_ge j l.length with hj|hj
  ·rw [List.getElem?_append_left hj] at hy
   rw [List.getElem?_append_left (by omega)] at hz
   exact hkeep _ _ (h4 j y z hy hz)
  ·rw [List.getElem?_append_right hj] at hy
   rw [List.getElem?_append_right (by omega),h1] at hz
   obtain⟨e1,e2⟩:x=y∧u=z:=by
    cases hd:j - l.length with
    | zero=>rw [hd] at hy hz;simp at hy hz;exact⟨hy,hz⟩
    | succ d=>rw [hd] at hy;simp at hy
   subst e1 e2
   exact hkeep _ _ hx
theorem append_BS {base:Nat} {No:Nat→Prop} {W:World} {v:Value} {l:List (List C × List Tm)} {x:List C × List Tm} {u:Value × Value} (ty:TypeId) (hO:BOwS B base No W v l) (ad:Addr) (c:Nat) (hc:∀ (j:Nat) (y:Value),(flat2 [u])[j]? = some y→W.cell? (ad.add j)=some y) (hx:ClRow (OkRS B base No W v) W x.1 u.1∧KdT (OkRS B base No W v) W (TmIn (OkRS B base No W v) W) x.2 u.2) (hn:l.length+1≤200000) (hb:base≤W.heap.size) (hN:No W.heap.size) :
  ∃ v' W',(Builtin.append_ #[24,24] ty #[v,.slice (some ad) 1 c]).run Tryz.prog W=.ok v' W'∧BOwS B base No W' v' (l ++ [x])∧W.grownBy W' v.ownBlock∧(v'.ownBlock=v.ownBlock∨v'.ownBlock=some W.heap.size):=by
 obtain⟨i0,hi,hz0,hz1,hz2⟩:=info_parts infoB
 obtain⟨us,h1,h2,h3,h4⟩:=hO
 have hone:∀ y∈flat2 [u],y.oneCell'=true:=by
  obtain⟨⟨a1,c1,e1,_⟩,⟨a2,c2,e2,_⟩⟩:=hx
  intro y hy
  simp only [flat2,List.mem_cons,List.not_mem_nil,or_false] at hy
  rcases hy with rfl|rfl
  ·rw [e1];rfl
  ·rw [e2];rfl
 obtain⟨v',W',hrun,r1,r2,_,r4⟩:=run_append_own_at (P:=Tryz.prog) W base 24 ty 40 i0 _ 2 48 Tryz.underlying24 hi hz0 hz1 hz2 rfl (by decide) v l.length (flat2 us) h2 ad 1 c (flat2 [u]) (flat2_length _) hc hone (by unfold maxLen;omega) (by omega) hb
 refine⟨v',W',hrun,⟨us ++ [u],by simp [h1],by rw [List.length_append,flat2_append];exact r1,fun k hk=>?_,fun j y z hy hz=>?_⟩,r2,r4⟩
 ·rcases r4 with h|h
  ·rw [h] at hk;exact h3 k hk
  ·rw [h] at hk;injection hk with hk;rw [← hk];exact hN
 ·have hkeep:∀ (y:List C × List Tm) (z:Value × Value),ClRow (OkRS B base No W v) W y.1 z.1∧KdT (OkRS B base No W v) W (TmIn (OkRS B base No W v) W) y.2 z.2→ClRow (OkRS B base No W' v') W' y.1 z.1∧KdT (OkRS B base No W' v') W' (TmIn (OkRS B base No W' v') W') y.2 z.2:=fun y z h =>
   ⟨h.1.keep r2.size (okrs_grown r2 r4) (fun q hq hs=>r2.block q hs hq.2.1),h.2.all r2.size (okrs_grown r2 r4) (fun q hq hs=>r2.block q hs hq.2.1)⟩
  rcases Nat.lt_or_ge j l.length with hj|hj
  ·rw [List.getElem?_append_left hj] at hy
   rw [List.getElem?_append_left (by omega)] at hz
   exact hkeep _ _ (h4 j y z hy hz)
  ·rw [List.getElem?_append_right hj] at hy
   rw [List.getElem?_append_right (by omega),h1] at hz
   obtain⟨e1,e2⟩:x=y∧u=z:=by
    cases hd:j - l.length with
    | zero=>rw [hd] at hy hz;simp at hy hz;exact⟨hy,hz⟩
    | succ d=>rw [hd] at hy;simp at hy
   subst e1 e2
   exact hkeep _ _ hx
theorem KOwS.len {base:Nat} {No:Nat→Prop} {w:World} {v:Value} {l:List Tm} (h:KOwS B base No w v l):∃ a c,v=.slice a l.length c:=by obtain⟨us,_,h2,_⟩:=h;exact owns_len h2
theorem BOwS.len {base:Nat} {No:Nat→Prop} {w:World} {v:Value} {l:List (List C × List Tm)} (h:BOwS B base No w v l):∃ a c,v=.slice a l.length c:=by obtain⟨us,_,h2,_⟩:=h;exact owns_len h2
structure HalfS (B:Nat→Prop) (n o:Nat) (r:List C) (l:List Tm) (W:World) (va vk:Value):Prop where
 row:ClRow (OkRS B n (fun q=>q≠o) W vk) W r va
 kids:KOwS B n (fun q=>q≠o) W vk l
 ge:n≤o
 bn:∀ q,B q→q<n
theorem HalfS.keep {n o:Nat} {r:List C} {l:List Tm} {W W':World} {va vk:Value} (h:HalfS B n o r l W va vk) (hk:Kn (fun q=>n≤q→q≠o→q<W.heap.size) W W'):HalfS B n o r l W' va vk:=by
 refine⟨h.row.keep hk.size (fun q hq=>⟨hq.1.same (hk.block q (fun _ _=>hq.1.lt) hq.1.lt),hq.2⟩) (fun q hq hs=>hk.block q (fun _ _=>hs) hs),?_,h.ge,h.bn⟩
 obtain⟨us,h1,h2,h3,h4⟩:=h.kids
 refine⟨us,h1,owns_keep h2 (fun k hk'=>hk.block k (fun _ _=>(World.ownsRow.lt h2 k hk').2) (World.ownsRow.lt h2 k hk').2),h3,fun j x u hx hu=>(h4 j x u hx hu).keep hk.size (fun q hq=>⟨hq.1.same (hk.block q (fun _ _=>hq.1.lt) hq.1.lt),hq.2⟩) (fun q hq hs=>hk.block q (fun _ _=>hs) hs)⟩
theorem HalfS.blw {n o:Nat} {r:List C} {l:List Tm} {W W':World} {va vk:Value} (h:HalfS B n o r l W va vk) (hb:Below W.heap.size W W'):HalfS B n o r l W' va vk:=h.keep (Kn.of_below hb)
theorem HalfS.set {n o:Nat} {r:List C} {l:List Tm} {W W':World} {va vk:Value} (h:HalfS B n o r l W va vk) (hk:Kn (fun q=>q≠o) W W'):HalfS B n o r l W' va vk:=by
 refine⟨h.row.keep hk.size (fun q hq=>⟨hq.1.same (hk.block q hq.2.2 hq.1.lt),hq.2⟩) (fun q hq hs=>hk.block q hq.2.2 hs),h.kids.keep hk (fun q h=>h),h.ge,h.bn⟩
theorem HalfS.next {n o:Nat} {r:List C} {l:List Tm} {W W2:World} {va vk:Value} {x:Tm} {u:V6} (ty:TypeId) (h:HalfS B n o r l W va vk) (hnW:n≤W.heap.size) (ho:o<W.heap.size) (hb:Below W.heap.size W W2) (hx:TmIn (OkS B W.heap.size W2) W2 x (agg6 u)) (hl:l.length+1≤200000) :
  ∃ vk' W4,(Builtin.append_ #[23,23] ty #[vk,.slice (some ⟨W2.heap.size,0,none⟩) 1 1]).run Tryz.prog (W2.alloc (.cells #[u.1,u.2.1,u.2.2.1,u.2.2.2.1,u.2.2.2.2.1,u.2.2.2.2.2] 26))=.ok vk' W4∧HalfS B n o r (l ++ [x]) W4 va vk'∧Below n W W4∧W4.heap[o]? = W.heap[o]?:=by
 obtain⟨W3,hW3⟩:∃ W3,W3=W2.alloc (.cells #[u.1,u.2.1,u.2.2.1,u.2.2.2.1,u.2.2.2.2.1,u.2.2.2.2.2] 26):=⟨_,rfl⟩
 have b3:Below W2.heap.size W2 W3:=by rw [hW3];exact belowA _ _
 have hn:=heapNew W2 (.cells #[u.1,u.2.1,u.2.2.1,u.2.2.2.1,u.2.2.2.2.1,u.2.2.2.2.2] 26)
 rw [← hW3] at hn ⊢
 have bb:=bchain hb b3
 have h3:=h.blw bb
 have hs3:W3.heap.size=W2.heap.size+1:=by rw [hW3];simp
 have hlt:∀ k,vk.ownBlock=some k→n≤k∧k<W.heap.size∧k≠o:=fun k hk=>by
  obtain⟨us,h1,h2,h4,_⟩:=h.kids
  exact⟨(World.ownsRow.lt h2 k hk).1,(World.ownsRow.lt h2 k hk).2,h4 k hk⟩
 have hs2:=hb.size
 have hx3:TmIn (OkRS B n (fun q=>q≠o) W3 vk) W3 x (agg6 u):=hx.keep b3.size (fun q hq=>⟨(hq.mono hnW).blw b3,fun e=>by have:=hlt q e.symm;have hbn:=h.bn q;exact Or.elim hq (fun hq=>by have:=hbn hq.1;omega) (fun hq=>by have:=hq.1;omega),by have hbn:=h.bn q;have:=h.ge;exact Or.elim hq (fun hq=>by have:=hbn hq.1;omega) (fun hq=>by have:=hq.1;omega)⟩) (fun q _ hs=>b3.block q hs)
 obtain⟨vk',W4,hrun,hO,hg,hv⟩:=append_TS ty h3.kids ⟨W2.heap.size,0,none⟩ 1 (fun j y hy=>by
  rw [Addr.add_lit]
  match j with
  | 0=>simp [flat6] at hy;subst hy;simp [World.cell?,hn]
  | 1=>simp [flat6] at hy;subst hy;simp [World.cell?,hn]
  | 2=>simp [flat6] at hy;subst hy;simp [World.cell?,hn]
  | 3=>simp [flat6] at hy;subst hy;simp [World.cell?,hn]
  | 4=>simp [flat6] at hy;subst hy;simp [World.cell?,hn]
  | 5=>simp [flat6] at hy;subst hy;simp [World.cell?,hn]
  | j+6=>simp [flat6] at hy) hx3 hl (by omega) (by omega)
 refine⟨vk',W4,hrun,⟨h3.row.keep hg.size (okrs_grown hg hv) (fun q hq hs=>hg.block q hs hq.2.1),hO,h.ge,h.bn⟩,?_,?_⟩
 ·exact (bb.mono hnW).trans ((Below.refl n W3).grown hg (by omega) (fun k hk=>(hlt k hk).1))
 ·have ho3:W3.heap[o]? = W.heap[o]?:=bb.block o ho
  rw [← ho3]
  exact hg.block o (by omega) (fun e=>(hlt o e.symm).2.2 rfl)
structure WholeS (B:Nat→Prop) (n o:Nat) (t:Tm) (k:Nat) (W:World) (va vk vs:Value):Prop where
 row:ClRow (OkRS B n (fun q=>q≠o) W vs) W t.r va
 kids:KdT (OkRS B n (fun q=>q≠o) W vs) W (TmIn (OkRS B n (fun q=>q≠o) W vs) W) t.kids vk
 sys:BOwS B n (fun q=>q≠o) W vs (t.sys.take k)
 ge:n≤o
 bn:∀ q,B q→q<n
theorem HalfS.all {n o:Nat} {t:Tm} {W:World} {va vk:Value} (h:HalfS B n o t.r t.kids W va vk):WholeS B n o t 0 W va vk (.slice none 0 0):=by
 refine⟨h.row.keep (Nat.le_refl _) (fun q hq=>⟨hq.1,(fun e=>by cases e),hq.2.2⟩) (fun _ _ _=>rfl),h.kids.row.all (Nat.le_refl _) (fun q hq=>⟨hq.1,(fun e=>by cases e),hq.2⟩) (fun _ _ _=>rfl),BOwS.nil _ _ _,h.ge,h.bn⟩
theorem WholeS.blw {n o:Nat} {t:Tm} {k:Nat} {W W':World} {va vk vs:Value} (h:WholeS B n o t k W va vk vs) (hb:Below W.heap.size W W'):WholeS B n o t k W' va vk vs:=by
 have ho:∀ q,OkRS B n (fun q=>q≠o) W vs q→OkRS B n (fun q=>q≠o) W' vs q:=fun q hq=>⟨hq.1.blw hb,hq.2⟩
 exact⟨h.row.keep hb.size ho (fun q _ hs=>hb.block q hs),h.kids.all hb.size ho (fun q _ hs=>hb.block q hs),h.sys.keep (Kn.of_below (No:=fun _=>True) hb) (fun _ _=>trivial),h.ge,h.bn⟩
theorem WholeS.set {n o:Nat} {t:Tm} {k:Nat} {W W':World} {va vk vs:Value} (h:WholeS B n o t k W va vk vs) (hk:Kn (fun q=>q≠o) W W'):WholeS B n o t k W' va vk vs:=by
 have ho:∀ q,OkRS B n (fun q=>q≠o) W vs q→OkRS B n (fun q=>q≠o) W' vs q:=fun q hq=>⟨hq.1.same (hk.block q hq.2.2 hq.1.lt),hq.2⟩
 have hb:∀ q,OkRS B n (fun q=>q≠o) W vs q→q<W.heap.size→W'.heap[q]? = W.heap[q]?:=fun q hq hs=>hk.block q hq.2.2 hs
 exact⟨h.row.keep hk.size ho hb,h.kids.all hk.size ho hb,h.sys.keep hk (fun _ h=>h),h.ge,h.bn⟩
theorem WholeS.next {n o p:Nat} {t:Tm} {k:Nat} {W W2:World} {va vk vs vf vl:Value} {b:List C × List Tm} (ty:TypeId) (h:WholeS B n o t k W va vk vs) (hx:t.sys[k]? = some b) (hnW:n≤W.heap.size) (ho:o<W.heap.size) (hb:Below W.heap.size W W2) (hh:HalfS B W.heap.size p b.1 b.2 W2 vf vl) (hl:k+1≤200000) :
  ∃ vs' W4,(Builtin.append_ #[24,24] ty #[vs,.slice (some ⟨W2.heap.size,0,none⟩) 1 1]).run Tryz.prog (W2.alloc (.cells #[vf,vl] 40))=.ok vs' W4∧WholeS B n o t (k+1) W4 va vk vs'∧Below n W W4∧W4.heap[o]? = W.heap[o]?:=by
 obtain⟨W3,hW3⟩:∃ W3,W3=W2.alloc (.cells #[vf,vl] 40):=⟨_,rfl⟩
 have b3:Below W2.heap.size W2 W3:=by rw [hW3];exact belowA _ _
 have hn:=heapNew W2 (.cells #[vf,vl] 40)
 rw [← hW3] at hn ⊢
 have bb:=bchain hb b3
 have h3:=h.blw bb
 have hs3:W3.heap.size=W2.heap.size+1:=by rw [hW3];simp
 have hlt:∀ k,vs.ownBlock=some k→n≤k∧k<W.heap.size∧k≠o:=fun k hk=>by
  obtain⟨us,h1,h2,h4,_⟩:=h.sys
  exact⟨(World.ownsRow.lt h2 k hk).1,(World.ownsRow.lt h2 k hk).2,h4 k hk⟩
 have hs2:=hb.size
 have up:∀ q,OkS B W.heap.size W2 q→OkRS B n (fun q=>q≠o) W3 vs q:=fun q hq=>⟨(hq.mono hnW).blw b3,fun e=>by have:=hlt q e.symm;have hbn:=h.bn q;exact Or.elim hq (fun hq=>by have:=hbn hq.1;omega) (fun hq=>by have:=hq.1;omega),by have hbn:=h.bn q;have:=h.ge;exact Or.elim hq (fun hq=>by have:=hbn hq.1;omega) (fun hq=>by have:=hq.1;omega)⟩
 have hx3:ClRow (OkRS B n (fun q=>q≠o) W3 vs) W3 b.1 vf∧KdT (OkRS B n (fun q=>q≠o) W3 vs) W3 (TmIn (OkRS B n (fun q=>q≠o) W3 vs) W3) b.2 vl :=
  ⟨hh.row.keep b3.size (fun q hq=>up q hq.1) (fun q _ hs=>b3.block q hs),hh.kids.row.all b3.size (fun q hq=>up q hq.1) (fun q _ hs=>b3.block q hs)⟩
 have hkl:(t.sys.take k).length=k:=by rw [List.length_take];have:=some_lt hx;omega
 obtain⟨vs',W4,hrun,hO,hg,hv⟩:=append_BS (x:=b) (u:=(vf,vl)) ty h3.sys ⟨W2.heap.size,0,none⟩ 1 (fun j y hy=>by
  rw [Addr.add_lit]
  match j with
  | 0=>simp [flat2] at hy;subst hy;simp [World.cell?,hn]
  | 1=>simp [flat2] at hy;subst hy;simp [World.cell?,hn]
  | j+2=>simp [flat2] at hy) hx3 (by rw [hkl];exact hl) (by omega) (by omega)
 rw [show t.sys.take k ++ [b]=t.sys.take (k+1) by rw [List.take_add_one,hx];rfl] at hO
 refine⟨vs',W4,hrun,⟨h3.row.keep hg.size (okrs_grown hg hv) (fun q hq hs=>hg.block q hs hq.2.1),h3.kids.all hg.size (okrs_grown hg hv) (fun q hq hs=>hg.block q hs hq.2.1),hO,h.ge,h.bn⟩,?_,?_⟩
 ·exact (bb.mono hnW).trans ((Below.refl n W3).grown hg (by omega) (fun k hk=>(hlt k hk).1))
 ·have ho3:W3.heap[o]? = W.heap[o]?:=bb.block o ho
  rw [← ho3]
  exact hg.block o (by omega) (fun e=>(hlt o e.symm).2.2 rfl)
theorem WholeS.term {n o:Nat} {t:Tm} {W:World} {va vk vs:Value} (h:WholeS B n o t t.sys.length W va vk vs) (hk:I64 t.kind) (hn:I64 t.n):TmIn (OkS B n W) W t (.agg #[.int .i64 t.kind,.int .i64 t.n,.string t.name,va,vk,vs]):=by
 have h3:=h.sys
 rw [List.take_of_length_le (Nat.le_refl _)] at h3
 obtain⟨k0,n0,s0,r0,l0,y0⟩:=t
 exact TmIn.mk k0 n0 s0 r0 l0 y0 va vk vs hk hn (h.row.keep (Nat.le_refl _) (fun q hq=>hq.1) (fun _ _ _=>rfl)) (h.kids.all (Nat.le_refl _) (fun q hq=>hq.1) (fun _ _ _=>rfl)) (h3.row.all (Nat.le_refl _) (fun q hq=>hq.1) (fun _ _ _=>rfl))
end
end Go.Proofs.YtpmmbfngogpinaaGreat

set_option linter.unusedVariables false
set_option linter.unusedSimpArgs false
namespace Go.Proofs.YtpmmbfngogpinaaGreat
open Go.RowKit
def pfB (fb:Bool):List C→Int→List C→List C × Int:=if fb then ptA else putF
set_option maxRecDepth 100000 in
set_option maxHeartbeats 4000000 in
theorem rrow_any {B:Nat→Prop} (fb:Bool) (i:Int) (r l:List C) (bd:Nat) (v vr:Value) (w:World) (hl:ClRow B w l v) (hr:ClRow Tt w r vr) (hll:l.length≤40000) (hrl:r.length≤40000) (hbd:bd≤60000) (hi0:0≤i∧i≤1000000) (hB:∀ q,B q→q<w.heap.size) :
  Calls Tryz.prog 134 #[v,.bool fb,.int .i64 i,vr,.int .i64 (bd:Int)] w fun e w'=>∃ v',e=.returned (.tuple #[v',.int .i64 (putRow (pfB fb) i r l bd).2])∧ClRow (OkS B w.heap.size w') w' (putRow (pfB fb) i r l bd).1 v'∧Below w.heap.size w w':=by
 have hlT:ClRow Tt w l v:=hl.keep (Nat.le_refl _) (fun _ _=>trivial) (fun _ _ _=>rfl)
 have hdlt:=dimsN_lt32 l
 have cD:=rDims_any l v w hlT.row hll
 have HQ:Hid (putRow (pfB fb) i r l bd=if hasB (dimsN l) (i+bd) then (if (liftFF r 0 bd).2=0 then pfB fb l (i+bd) (liftFF r 0 bd).1 else ([],(liftFF r 0 bd).2)) else (l,0)):=(rfl:_=_)
 obtain⟨PR,hPR⟩:∃ P,P=putRow (pfB fb) i r l bd:=⟨_,rfl⟩
 rw [← hPR] at HQ ⊢
 have cL:Hid (∀ V,Below w.heap.size w V→Calls Tryz.prog 93 #[vr,.int .i64 0,.int .i64 (bd:Int)] V fun e w'=>∃ v,e=.returned (.tuple #[v,.int .i64 (liftFF r 0 bd).2])∧OwnsC w' V.heap.size v (liftFF r 0 bd).1∧Below V.heap.size V w'):=fun V q=>rLift_any r 0 bd vr V (hr.blw q).row hrl
 have c5:Hid (∀ V vq,Below w.heap.size w V→CRow V vq (liftFF r 0 bd).1→Calls Tryz.prog 177 #[v,.int .i64 (i+(bd:Int)),vq] V fun e w'=>∃ v,e=.returned (.tuple #[v,.int .i64 (ptA l (i+bd) (liftFF r 0 bd).1).2])∧OwnsC w' V.heap.size v (ptA l (i+bd) (liftFF r 0 bd).1).1∧Below V.heap.size V w'):=fun V vq q hq=>rAPut_any l (liftFF r 0 bd).1 (i+bd) v vq V (hlT.blw q).row hq hll (by have:=liftFF_len r 0 bd;omega)
 have c3:Hid (∀ V vq,Below w.heap.size w V→CRow V vq (liftFF r 0 bd).1→Calls Tryz.prog 178 #[v,.int .i64 (i+(bd:Int)),vq] V fun e w'=>∃ v,e=.returned (.tuple #[v,.int .i64 (putF l (i+bd) (liftFF r 0 bd).1).2])∧OwnsC w' V.heap.size v (putF l (i+bd) (liftFF r 0 bd).1).1∧Below V.heap.size V w'):=fun V vq q hq=>rPut_any l (liftFF r 0 bd).1 (i+bd) v vq V (hlT.blw q).row hq hll (by have:=liftFF_len r 0 bd;omega)
 obtain⟨LF,hLF⟩:∃ L,L=liftFF r 0 bd:=⟨_,rfl⟩
 rw [← hLF] at HQ cL c5 c3
 have wr2:wrap64 (i+(bd:Int))=i+(bd:Int):=by simp [wrap64];omega
 have HSh:Hid (∀ V,Below w.heap.size w V→ClRow (OkS B w.heap.size V) V l v):=fun V q=>hl.keep q.size (fun g hg=>.inl ⟨hg,by have:=q.size;have:=hB g hg;omega⟩) (fun g _ hs=>q.block g hs)
 obtain⟨va,vc,rfl,_⟩:=id hl
 obtain⟨rva,rvc,rfl,_⟩:=id hr
 obtain⟨LL,hLL⟩:∃ L,L=l.length:=⟨_,rfl⟩
 obtain⟨LR,hLR⟩:∃ L,L=r.length:=⟨_,rfl⟩
 rw [← hLL] at cD c5 c3 HSh
 rw [← hLR] at cL
 simp only [← hLL,← hLR]
 obtain⟨DN,hDN⟩:∃ d,d=dimsN l:=⟨_,rfl⟩
 rw [← hDN] at cD HQ hdlt
 clear hPR hLF hl hr hlT hLL hLR hDN
 go_enter Tryz.func134,Tryz.ntmps134
 go_wp2_with fail
 refine cD.mono ?_
 rintro e w2 ⟨rfl,b2⟩
 clear cD
 have cH:=refHas_any DN (i+(bd:Int)) w2 hdlt
 go_wp2_with fail
 refine cH.mono ?_
 rintro e w3 ⟨rfl,hw3⟩
 replace hw3:=hw3.symm
 subst hw3
 clear cH
 cases hh:hasB DN (i+bd)
 ·have hq:PR=(l,0):=by rw [HQ.out,hh];rfl
  subst hq
  have hS:=HSh.out w2 b2
  clear cL c5 c3 HQ
  go_wp2_with fail
  go_ret2
  exact⟨_,rfl,hS,b2⟩
 ·have hq:PR=if LF.2=0 then pfB fb l (i+bd) LF.1 else ([],LF.2):=by rw [HQ.out,hh];rfl
  have HP1:Hid (LF.2≠0→PR=([],LF.2)):=fun h=>by rw [hq,if_neg h]
  have HP0:Hid (LF.2=0→PR=pfB fb l (i+bd) LF.1):=fun h=>by rw [hq,if_pos h]
  have cc:=cL.out w2 b2
  clear hq HQ HSh cL
  go_wp2_with fail
  refine cc.mono ?_
  rintro e w4 ⟨v4,rfl,hO4,b4⟩
  clear cc
  have b24:Below w.heap.size w w4:=b2.trans (b4.mono b2.size)
  obtain⟨a4,c4,rfl⟩:=OwnsC.len hO4
  obtain⟨L4,hL4⟩:∃ L,L=LF.1.length:=⟨_,rfl⟩
  rw [← hL4] at hO4 ⊢
  obtain⟨e4,he4⟩:∃ e,e=LF.2:=⟨_,rfl⟩
  rw [← he4] at HP1 HP0 ⊢
  have hF4:=OwnsC.row hO4
  clear hL4 he4
  by_cases hz:e4=0
  rotate_left
  ·have hz1:(e4 == 0)=false:=by simpa using hz
   have HPe:Hid (PR=([],e4)):=HP1.out hz
   clear c5 c3 HP0 HP1
   go_wp2_with fail
   go_ret2
   exact⟨_,by rw [HPe.out];rfl,by rw [HPe.out];exact cl_nil _ _,b24⟩
  subst hz
  have HPe:Hid (PR=pfB fb l (i+bd) LF.1):=HP0.out rfl
  cases fb
  ·have c:=c3.out w4 _ b24 hF4
   have HPe:Hid (PR=putF l (i+bd) LF.1):=HPe.out
   rw [← HPe.out] at c
   clear c5 c3 HP0 HP1
   go_wp2_with fail
   refine c.mono ?_
   rintro e w5 ⟨v5,rfl,hO5,b5⟩
   clear c
   have b25:Below w.heap.size w w5:=b24.trans (b5.mono b24.size)
   have hO6:=(OwnsC.okn (OwnsC.mono hO5 b24.size)).keep (Nat.le_refl _) (fun q hq=>(.inr hq:OkS B w.heap.size w5 q)) (fun _ _ _=>rfl)
   go_wp2_with fail
   go_ret2
   exact⟨_,rfl,hO6,b25⟩
  ·have c:=c5.out w4 _ b24 hF4
   have HPe:Hid (PR=ptA l (i+bd) LF.1):=HPe.out
   rw [← HPe.out] at c
   clear c5 c3 HP0 HP1
   go_wp2_with fail
   refine c.mono ?_
   rintro e w5 ⟨v5,rfl,hO5,b5⟩
   clear c
   have b25:Below w.heap.size w w5:=b24.trans (b5.mono b24.size)
   have hO6:=(OwnsC.okn (OwnsC.mono hO5 b24.size)).keep (Nat.le_refl _) (fun q hq=>(.inr hq:OkS B w.heap.size w5 q)) (fun _ _ _=>rfl)
   go_wp2_with fail
   go_ret2
   exact⟨_,rfl,hO6,b25⟩
end Go.Proofs.YtpmmbfngogpinaaGreat

