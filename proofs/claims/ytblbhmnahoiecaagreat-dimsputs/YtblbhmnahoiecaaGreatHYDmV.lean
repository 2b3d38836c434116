/- A part of the proof. -/
import Derived.Test.YtblbhmnahoiecaaGreatHG27
set_option linter.unusedVariables false
set_option linter.unusedSimpArgs false
set_option maxRecDepth 100000
set_option maxHeartbeats 8000000
namespace Go.Proofs.YtblbhmnahoiecaaGreat
open Go.RowKit
def undR (c:C) (t:Tm):Tm × Int:=if (pall [top0] (dimsOf c.1.val) t).2=0 then pall [] (dimsOf c.2.val) (pall [top0] (dimsOf c.1.val) t).1 else (noT,(pall [top0] (dimsOf c.1.val) t).2)
def undA (c:C) (t:Tm):Tm × Int:=if wrongN true 0 0 t=0 then (if rightA [c]=true then undR c t else (noT,2)) else (noT,((wrongN true 0 0 t:Nat):Int))
theorem cap_pall {r:List C}:∀ (l:List Nat) (a:Tm × Int),capT (l.foldl (pallS r) a).1<=max (capT a.1) 65
 | [],a=>by simp;omega
 | i :: l,a=>by
  rw [List.foldl_cons]
  have h1:=cap_pall (r:=r) l (pallS r a i)
  have h2:capT (pallS r a i).1<=max (capT a.1) 65:=by
   unfold pallS
   split
   ·split
    ·have:=cap_ans (putOp_len i r) a.1;simp;omega
    ·have:=noT_cap;simp;omega
   ·omega
  omega
theorem under_all (t:Tm) (v:Value) (w:World) (hv:TmIn Tt w t v) (hb:blk t<=20000) (hcp:capT t<=40000) (c:C):Calls Tryz.prog 37 #[v,clV c] w fun e w'=>∃ v',e=.returned (.tuple #[v',.int .i64 (undA c t).2])/\(∀ V,Kn (fun q=>w.heap.size<=q) w' V->TmIn Tt V (undA c t).1 v')/\Below w.heap.size w w':=by
 obtain⟨ra,rc,ka,kc,sa,sc,rfl,ht⟩:=hv.form
 obtain⟨w1,hw1⟩:∃ W,W=((w.alloc (.cells #[.int .i64 t.kind,.int .i64 t.n,.string t.name,.slice ra t.r.length rc,.slice ka t.kids.length kc,.slice sa t.sys.length sc] 26)).alloc (.cells #[.int .u32 (c.1.val:Int),.int .u32 (c.2.val:Int)] 38)).alloc (.cells #[.int .i64 0,.int .i64 0,.string ⟨#[]⟩,.slice none 0 0,.slice none 0 0,.slice none 0 0] 26):=⟨_,rfl⟩
 have b1:Below w.heap.size w w1:=by rw [hw1];exact bchain (bchain (belowA _ _) (belowA _ _)) (belowA _ _)
 obtain⟨X,hX⟩:∃ X,X=w.heap.size:=⟨_,rfl⟩
 have s1:w1.heap.size=X+3:=by rw [hw1,hX];simp
 have x1:Six w1 X (.int .i64 t.kind) (.int .i64 t.n) (.string t.name) (.slice ra t.r.length rc) (.slice ka t.kids.length kc) (.slice sa t.sys.length sc):=⟨by rw [hX,hw1];exact (Below.heap_alloc _ _ _ (by simp;omega)).trans ((Below.heap_alloc _ _ _ (by simp)).trans (heapNew w _))⟩
 have xc:w1.heap[X+1]? = some (.cells #[.int .u32 (c.1.val:Int),.int .u32 (c.2.val:Int)] 38 (0,0)):=by
  rw [hX,hw1]
  refine (Below.heap_alloc _ _ _ (by simp)).trans ?_
  have:=heapNew (w.alloc (.cells #[.int .i64 t.kind,.int .i64 t.n,.string t.name,.slice ra t.r.length rc,.slice ka t.kids.length kc,.slice sa t.sys.length sc] 26)) (.cells #[.int .u32 (c.1.val:Int),.int .u32 (c.2.val:Int)] 38);rwa [World.size_alloc] at this
 have x2:Six w1 (X+2) (.int .i64 0) (.int .i64 0) (.string ⟨#[]⟩) (.slice none 0 0) (.slice none 0 0) (.slice none 0 0):=⟨by
  rw [hX,hw1];have:=heapNew ((w.alloc (.cells #[.int .i64 t.kind,.int .i64 t.n,.string t.name,.slice ra t.r.length rc,.slice ka t.kids.length kc,.slice sa t.sys.length sc] 26)).alloc (.cells #[.int .u32 (c.1.val:Int),.int .u32 (c.2.val:Int)] 38)) (.cells #[.int .i64 0,.int .i64 0,.string ⟨#[]⟩,.slice none 0 0,.slice none 0 0,.slice none 0 0] 26);rwa [World.size_alloc,World.size_alloc] at this⟩
 have HC:Hid (∀ W,Below w1.heap.size w1 W->Six W X (.int .i64 t.kind) (.int .i64 t.n) (.string t.name) (.slice ra t.r.length rc) (.slice ka t.kids.length kc) (.slice sa t.sys.length sc)):=fun W q=>x1.blw q
 have HCc:Hid (∀ W,Below w1.heap.size w1 W->W.cell? ⟨X+1,0,none⟩=some (.int .u32 (c.1.val:Int))/\W.cell? ⟨X+1,1,none⟩=some (.int .u32 (c.2.val:Int))):=fun W q=>by
  have h:=(q.block (X+1) (by omega)).trans xc
  exact⟨by simp [World.cell?,h],by simp [World.cell?,h]⟩
 have HZ:Hid (∀ W,Below w1.heap.size w1 W->Six W (X+2) (.int .i64 0) (.int .i64 0) (.string ⟨#[]⟩) (.slice none 0 0) (.slice none 0 0) (.slice none 0 0)):=fun W q=>x2.blw q
 have HT:Hid (∀ W,Below w1.heap.size w1 W->TmIn Tt W t (.agg #[.int .i64 t.kind,.int .i64 t.n,.string t.name,.slice ra t.r.length rc,.slice ka t.kids.length kc,.slice sa t.sys.length sc])):=fun W q=>((ht.blw b1).blw q).value
 have HB:Hid (∀ W,Below w1.heap.size w1 W->Below X w W):=fun W q=>by rw [hX];exact bchain b1 q
 have HXs:Hid (X=w.heap.size):=hX
 have Hs1:Hid (w1.heap.size=X+3):=s1
 have HW:Hid (_=_):=hw1
 have cw:=formed_any t _ w1 (HT.out w1 (Below.refl _ _)) hb
 have HE:Hid (undA c t=if wrongN true 0 0 t=0 then (if rightA [c]=true then undR c t else (noT,2)) else (noT,((wrongN true 0 0 t:Nat):Int))):=(rfl:_=_)
 have HE2:Hid (undR c t=if (pall [top0] (dimsOf c.1.val) t).2=0 then pall [] (dimsOf c.2.val) (pall [top0] (dimsOf c.1.val) t).1 else (noT,(pall [top0] (dimsOf c.1.val) t).2)):=(rfl:_=_)
 obtain⟨f,hf⟩:∃ f,f=wrongN true 0 0 t:=⟨_,rfl⟩
 rw [<- hf] at cw HE
 rw [<- hX]
 have Hb:Hid (blk t<=20000):=hb
 have Hcp:Hid (capT t<=40000):=hcp
 have hc1:=c.1.isLt
 have hc2:=c.2.isLt
 clear hf hw1 hX s1 x1 x2 xc hv ht b1 hb hcp
 show Calls Tryz.prog 37 #[.agg #[.int .i64 t.kind,.int .i64 t.n,.string t.name,.slice ra t.r.length rc,.slice ka t.kids.length kc,.slice sa t.sys.length sc],.agg #[.int .u32 (c.1.val:Int),.int .u32 (c.2.val:Int)]] w _
 go_enter Tryz.func37,Tryz.ntmps37
 go_upto_region 1 with fail
 rw [<- HW.out]
 simp only [<- HXs.out]
 clear HW
 obtain⟨y0,y1,y2,y3,y4,y5,_⟩:=(HC.out w1 (Below.refl _ _)).cells
 go_wp2_with fail
 refine cw.mono ?_
 rintro e w2 ⟨rfl,b2⟩
 clear cw y0 y1 y2 y3 y4 y5
 have hsz:=Hs1.out
 by_cases hz:f=0
 rotate_left
 ·have Hf:Hid (undA c t=(noT,(f:Int))):=(by rw [HE.out,if_neg hz]:_=_)
  have hz1:((f:Int) == 0)=false:=by simp;omega
  clear HE HE2
  have zz:=HZ.out w2 b2
  obtain⟨wz,hwz,zz2,kz,o0,o1,o2,o3,o4,o5,f0,f1,f2,f3,f4,f5⟩:=zst zz (.int .i64 0) (.int .i64 0) (.string ⟨#[]⟩) (.slice none 0 0) (.slice none 0 0) (.slice none 0 0)
  obtain⟨h0,h1,h2,h3,h4,h5,_⟩:=zz2.cells
  have bz:Below X w wz:=(HB.out w2 b2).trans (kz.below (fun q hq=>by omega) (by have:=(HB.out w2 b2).size;have:=HXs.out;omega))
  have Hwz:Hid (_=_):=hwz
  clear hwz zz zz2 kz
  go_wp2_with fail
  rw [<- Hwz.out]
  exact bodyPost_ret (v:=.tuple #[.agg #[.int .i64 0,.int .i64 0,.string ⟨#[]⟩,.slice none 0 0,.slice none 0 0,.slice none 0 0],.int .i64 ((f:Int))]) (by simp only [results,Tryz.results37];simp [go_sem,h0,h1,h2,h3,h4,h5]) rfl ⟨_,by rw [Hf.out],fun V q=>by rw [Hf.out];exact noT_in _ _,bz⟩
 subst hz
 rw [if_pos rfl] at HE
 obtain⟨w3,hw3⟩:∃ V,V=w2.alloc (.cells #[.int .u32 (c.1.val:Int),.int .u32 (c.2.val:Int)] 38):=⟨_,rfl⟩
 have b3:Below w2.heap.size w2 w3:=by rw [hw3];exact belowA _ _
 have hO3:OwnsC w3 w2.heap.size (.slice (some ⟨w2.heap.size,0,none⟩) 1 1) [c]:=by rw [hw3];exact own_one1 w2 c _ (Nat.le_refl _)
 have b13:Below w1.heap.size w1 w3:=b2.trans (b3.mono b2.size)
 have cR:=aright_any [c] _ w3 (OwnsC.frow hO3) (by simp)
 obtain⟨y0,y1⟩:=HCc.out w2 b2
 have H3:Hid (_=_):=hw3
 clear hw3 hO3 b3
 go_wp2_with (rw [<- H3.out];fail)
 try rw [<- H3.out]
 refine cR.mono ?_
 rintro e w4 ⟨rfl,b4⟩
 clear cR y0 y1
 have b14:Below w1.heap.size w1 w4:=b13.trans (b4.mono b13.size)
 clear b13 b4
 cases hq:rightA [c]
 ·have Hf:Hid (undA c t=(noT,2)):=(by rw [HE.out,if_neg (by rw [hq];simp)]:_=_)
  clear HE HE2
  have zz:=HZ.out w4 b14
  obtain⟨wz,hwz,zz2,kz,o0,o1,o2,o3,o4,o5,f0,f1,f2,f3,f4,f5⟩:=zst zz (.int .i64 0) (.int .i64 0) (.string ⟨#[]⟩) (.slice none 0 0) (.slice none 0 0) (.slice none 0 0)
  obtain⟨h0,h1,h2,h3,h4,h5,_⟩:=zz2.cells
  have bz:Below X w wz:=(HB.out w4 b14).trans (kz.below (fun q hq=>by omega) (by have:=(HB.out w4 b14).size;have:=HXs.out;omega))
  have Hwz:Hid (_=_):=hwz
  clear hwz zz zz2 kz
  go_wp2_with fail
  rw [<- Hwz.out]
  exact bodyPost_ret (v:=.tuple #[.agg #[.int .i64 0,.int .i64 0,.string ⟨#[]⟩,.slice none 0 0,.slice none 0 0,.slice none 0 0],.int .i64 (2)]) (by simp only [results,Tryz.results37];simp [go_sem,h0,h1,h2,h3,h4,h5]) rfl ⟨_,by rw [Hf.out],fun V q=>by rw [Hf.out];exact noT_in _ _,bz⟩
 rw [if_pos hq,HE2.out] at HE
 clear HE2 hq
 obtain⟨A,hA⟩:∃ A,A=pall [top0] (dimsOf c.1.val) t:=⟨_,rfl⟩
 have HAc:Hid (capT A.1<=40000):=(by have h1:=cap_pall (r:=[top0]) (dimsOf c.1.val) (t,0);have h2:=Hcp.out;rw [hA];unfold pall;simp at h1;omega:_<=_)
 rw [<- hA] at HE
 obtain⟨T,er⟩:=A
 dsimp only at HE HAc
 have cCp:Hid (∀ V,Below w4.heap.size w4 V->Calls Tryz.prog 98 #[.agg #[.int .i64 t.kind,.int .i64 t.n,.string t.name,.slice ra t.r.length rc,.slice ka t.kids.length kc,.slice sa t.sys.length sc]] V fun e w'=>∃ v',e=.returned v'/\TmIn (OkN V.heap.size w') w' t v'/\Below V.heap.size V w'):=fun V q=>copy_any t _ V (HT.out V (b14.trans (q.mono b14.size))) (by have:=Hb.out;omega)
 have cPa:Hid (∀ (P:Nat->Prop) V v vr,(∀ W,Kn P V W->TmIn Tt W t v)->ClRow Tt V [top0] vr->Calls Tryz.prog 97 #[v,.int .u32 (c.1.val:Int),vr] V fun e w'=>∃ v',e=.returned (.tuple #[v',.int .i64 er])/\(∀ W,Kn (fun q=>P q\/V.heap.size<=q) w' W->TmIn Tt W T v')/\Below V.heap.size V w'):=fun P V v vr h1 h2=>by
  have:=pall_any P t v V h1 Hcp.out c.1.val hc1 [top0] vr h2 (by simp)
  rw [<- hA] at this
  exact this
 have HC4:Hid (∀ V,Below w4.heap.size w4 V->Six V X (.int .i64 t.kind) (.int .i64 t.n) (.string t.name) (.slice ra t.r.length rc) (.slice ka t.kids.length kc) (.slice sa t.sys.length sc)/\V.cell? ⟨X+1,0,none⟩=some (.int .u32 (c.1.val:Int))/\V.cell? ⟨X+1,1,none⟩=some (.int .u32 (c.2.val:Int))):=fun V q=>⟨HC.out V (b14.trans (q.mono b14.size)),HCc.out V (b14.trans (q.mono b14.size))⟩
 clear hA
 go_upto_region 6 with fail
 have hS1:Below w4.heap.size w4 w4:=Below.refl _ _
 go_cut [7,8] (fun s se wx=>∃ o ra2 rc2 ka2 kc2 sa2 sc2,s=.pointer (some ⟨o,0,none⟩)/\se=.int .i64 er/\Six wx o (.int .i64 T.kind) (.int .i64 T.n) (.string T.name) (.slice ra2 T.r.length rc2) (.slice ka2 T.kids.length kc2) (.slice sa2 T.sys.length sc2)/\(∀ V,Kn (fun q=>w4.heap.size<=q) wx V->TmIn Tt V T (.agg #[.int .i64 T.kind,.int .i64 T.n,.string T.name,.slice ra2 T.r.length rc2,.slice ka2 T.kids.length kc2,.slice sa2 T.sys.length sc2]))/\Below w4.heap.size w4 wx/\w4.heap.size<=o)
 case first=>as_aux_lemma =>
  refine wp_region_held_drew (S:=fun V=>Below w4.heap.size w4 V) (by kernel_rfl) (hS1.drew) (fun hS=>?_)
  obtain⟨wd,hwd⟩:∃ V,V=w4.drew:=⟨_,rfl⟩
  rw [<- hwd] at hS ⊢
  have hwd4:w4.heap.size<=wd.heap.size:=hS.size
  clear hwd
  refine zk 0 (.agg #[.int .i64 t.kind,.int .i64 t.n,.string t.name,.slice ra t.r.length rc,.slice ka t.kids.length kc,.slice sa t.sys.length sc]) rfl (by rfl) (fun w hS=>by obtain⟨y0,y1,y2,y3,y4,y5,_⟩:=(HC4.out w hS).1.cells;go_simp) hS ?_
  try simp only [Act.put,zg1,zg2,zg3,zs1,zs2,zs3]
  refine zk 2 (.pointer (some ⟨X+1,0,none⟩)) rfl (by rfl) (fun w hS=>by go_simp) hS ?_
  try simp only [Act.put,zg1,zg2,zg3,zs1,zs2,zs3]
  refine zk 3 (.int .u32 (c.1.val:Int)) rfl (by rfl) (fun w hS=>by have e:=(HC4.out w hS).2.1;go_simp) hS ?_
  try simp only [Act.put,zg1,zg2,zg3,zs1,zs2,zs3]
  refine wpAnyH_ready (rs:=[1,9]) (by kernel_rfl) (by simp) ?_
  refine ready_cons rfl (fun KK hKK=>?_) (ready_cons rfl (fun KK hKK=>?_) AllReadyH.nil)
  ·skip
   refine⟨?_⟩
   have cc:=cCp.out wd hS
   go_simp
   refine cc.mono ?_
   rintro e u6w ⟨vt,rfl,hvt,hbu6w⟩
   have hSu6w:Below w4.heap.size w4 u6w:=hS.trans (hbu6w.mono hS.size)
   have hPs:∀ W,Kn (fun q=>w4.heap.size<=q) u6w W->TmIn Tt W t vt:=fun W q=>hvt.keep q.size (fun _ _=>trivial) (fun k hk hs=>q.block k (by have:=hk.1;have:=hS.size;omega) hs)
   clear cc hvt
   refine hKK.out _ _ hSu6w (fun hS=>?_)
   clear hKK KK
   try simp only [Act.put,zg1,zg2,zg3,zs1,zs2,zs3]
   refine wpAnyH_ready (rs:=[4,9]) (by kernel_rfl) (by simp) ?_
   refine ready_cons rfl (fun KK hKK=>?_) (ready_cons rfl (fun KK hKK=>?_) AllReadyH.nil)
   ·skip
    refine⟨?_⟩
    have cc:=one_any u6w
    go_simp
    refine cc.mono ?_
    rintro e u7w ⟨vr,rfl,hvr,hbu7w⟩
    have hSu7w:Below w4.heap.size w4 u7w:=hS.trans (hbu7w.mono hS.size)
    have hRr:ClRow Tt u7w [top0] vr:=(OwnsC.okn hvr).keep (Nat.le_refl _) (fun _ _=>trivial) (fun _ _ _=>rfl)
    clear cc hvr
    have hPs:∀ W,Kn (fun q=>w4.heap.size<=q) u7w W->TmIn Tt W t vt:=fun W q=>hPs W ((Kn.of_below hbu7w).trans q)
    refine hKK.out _ _ hSu7w (fun hS=>?_)
    clear hKK KK
    try simp only [Act.put,zg1,zg2,zg3,zs1,zs2,zs3]
    refine wpAnyH_ready (rs:=[5,9]) (by kernel_rfl) (by simp) ?_
    refine ready_cons rfl (fun KK hKK=>?_) (ready_cons rfl (fun KK hKK=>?_) AllReadyH.nil)
    ·skip
     refine⟨?_⟩
     have cc:=cPa.out (fun q=>w4.heap.size<=q) u7w vt vr hPs hRr
     go_simp
     refine cc.mono ?_
     rintro e u8w ⟨v9,rfl,hv9,hbu8w⟩
     have hSu8w:Below w4.heap.size w4 u8w:=hS.trans (hbu8w.mono hS.size)
     obtain⟨ra2,rc2,ka2,kc2,sa2,sc2,rfl,_⟩:=(hv9 u8w (Kn.refl _ _)).form
     clear cc
     refine hKK.out _ _ hSu8w (fun hS=>?_)
     clear hKK KK
     try simp only [Act.put,zg1,zg2,zg3,zs1,zs2,zs3]
     refine zk 6 (.tuple #[.agg #[.int .i64 T.kind,.int .i64 T.n,.string T.name,.slice ra2 T.r.length rc2,.slice ka2 T.kids.length kc2,.slice sa2 T.sys.length sc2],.int .i64 er]) rfl (by rfl) (fun w hS=>by go_simp) hS ?_
     try simp only [Act.put,zg1,zg2,zg3,zs1,zs2,zs3]
     refine zk 7 (.agg #[.int .i64 T.kind,.int .i64 T.n,.string T.name,.slice ra2 T.r.length rc2,.slice ka2 T.kids.length kc2,.slice sa2 T.sys.length sc2]) rfl (by rfl) (fun w hS=>by go_simp) hS ?_
     try simp only [Act.put,zg1,zg2,zg3,zs1,zs2,zs3]
     refine zk 8 (.int .i64 er) rfl (by rfl) (fun w hS=>by go_simp) hS ?_
     try simp only [Act.put,zg1,zg2,zg3,zs1,zs2,zs3]
     refine zr 9 rfl (fun KK hKK=>?_)
     have:=hbu6w.size
     have:=hbu7w.size
     have:=hbu8w.size
     obtain⟨u9w,hu9w⟩:∃ W,W=u8w.alloc (.cells #[.int .i64 0,.int .i64 0,.string ⟨#[]⟩,.slice none 0 0,.slice none 0 0,.slice none 0 0] 26):=⟨_,rfl⟩
     have bu9w:Below u8w.heap.size u8w u9w:=by rw [hu9w];exact belowA _ _
     have su9w:u9w.heap.size=u8w.heap.size+1:=by rw [hu9w];simp
     have hZ:Six u9w u8w.heap.size (.int .i64 0) (.int .i64 0) (.string ⟨#[]⟩) (.slice none 0 0) (.slice none 0 0) (.slice none 0 0):=⟨by rw [hu9w];exact heapNew _ _⟩
     have hge:w4.heap.size<=u8w.heap.size:=hS.size
     have hSu9w:Below w4.heap.size w4 u9w:=hS.trans (bu9w.mono hS.size)
     have Hu9w:Hid (_=_):=hu9w
     clear hu9w
     refine⟨?_⟩
     go_simp
     rw [<- Hu9w.out]
     refine hKK.out _ _ hSu9w (fun hS=>?_)
     clear hKK KK
     try simp only [Act.put,zg1,zg2,zg3,zs1,zs2,zs3]
     have zz2:=hZ.set6 (.int .i64 T.kind) (.int .i64 T.n) (.string T.name) (.slice ra2 T.r.length rc2) (.slice ka2 T.kids.length kc2) (.slice sa2 T.sys.length sc2)
     obtain⟨o0,o1,o2,o3,o4,o5,ff⟩:=hZ.cells
     have f0:=ff 0
     have f1:=ff 1
     have f2:=ff 2
     have f3:=ff 3
     have f4:=ff 4
     have f5:=ff 5
     obtain⟨w9,hwz⟩:∃ W,W=(((((u9w.setCell ⟨u8w.heap.size,0,none⟩ (.int .i64 T.kind)).setCell ⟨u8w.heap.size,1,none⟩ (.int .i64 T.n)).setCell ⟨u8w.heap.size,2,none⟩ (.string T.name)).setCell ⟨u8w.heap.size,3,none⟩ (.slice ra2 T.r.length rc2)).setCell ⟨u8w.heap.size,4,none⟩ (.slice ka2 T.kids.length kc2)).setCell ⟨u8w.heap.size,5,none⟩ (.slice sa2 T.sys.length sc2):=⟨_,rfl⟩
     rw [<- hwz] at zz2
     have kz:Kn (fun q=>q≠u8w.heap.size) u9w w9:=by rw [hwz];exact kn_set6 _ _ _ _ _ _ _ _
     have hs4:=hS.size
     have HTm:Hid (∀ V,Kn (fun q=>w4.heap.size<=q) w9 V->TmIn Tt V T (.agg #[.int .i64 T.kind,.int .i64 T.n,.string T.name,.slice ra2 T.r.length rc2,.slice ka2 T.kids.length kc2,.slice sa2 T.sys.length sc2])):=fun W q=>hv9 W ⟨q.os.trans (kz.os.trans bu9w.os),q.tape.trans (kz.tape.trans bu9w.tape),q.output.trans (kz.output.trans bu9w.output),Nat.le_trans (Nat.le_trans bu9w.size kz.size) q.size,fun k hk hs=>(q.block k (by rcases hk with h | h <;> omega) (by have:=bu9w.size;have:=kz.size;omega)).trans ((kz.block k (by omega) (by have:=bu9w.size;omega)).trans (bu9w.block k hs))⟩
     have hS5:Below w4.heap.size w4 w9:=hS.trans (kz.below (fun q hq=>by omega) hS.size)
     have Hwz:Hid (_=_):=hwz
     clear hwz ff kz hv9
     refine zr 10 rfl (fun KK hKK=>?_)
     refine⟨?_⟩
     go_simp
     rw [<- Hwz.out]
     refine hKK.out _ _ hS5 (fun hS=>?_)
     clear hKK KK
     try simp only [Act.put,zg1,zg2,zg3,zs1,zs2,zs3]
     refine zk 11 (.int .i64 er) rfl (by rfl) (fun w hS=>by go_simp) hS ?_
     try simp only [Act.put,zg1,zg2,zg3,zs1,zs2,zs3]
     refine wpAnyH_done (by kernel_rfl) ?_ _
     go_wp2_with fail
     go_meet
     exact⟨_,_,_,_,_,_,_,rfl,rfl,zz2,HTm.out,hS,hge⟩
    ·skip
     obtain⟨u10w,hu10w⟩:∃ W,W=u7w.alloc (.cells #[.int .i64 0,.int .i64 0,.string ⟨#[]⟩,.slice none 0 0,.slice none 0 0,.slice none 0 0] 26):=⟨_,rfl⟩
     have bu10w:Below u7w.heap.size u7w u10w:=by rw [hu10w];exact belowA _ _
     have su10w:u10w.heap.size=u7w.heap.size+1:=by rw [hu10w];simp
     have hZ:Six u10w u7w.heap.size (.int .i64 0) (.int .i64 0) (.string ⟨#[]⟩) (.slice none 0 0) (.slice none 0 0) (.slice none 0 0):=⟨by rw [hu10w];exact heapNew _ _⟩
     have hge:w4.heap.size<=u7w.heap.size:=hS.size
     have hSu10w:Below w4.heap.size w4 u10w:=hS.trans (bu10w.mono hS.size)
     have Hu10w:Hid (_=_):=hu10w
     clear hu10w
     refine⟨?_⟩
     go_simp
     rw [<- Hu10w.out]
     refine hKK.out _ _ hSu10w (fun hS=>?_)
     clear hKK KK
     try simp only [Act.put,zg1,zg2,zg3,zs1,zs2,zs3]
     have hPs:∀ W,Kn (fun q=>w4.heap.size<=q/\q≠u7w.heap.size) u10w W->TmIn Tt W t vt:=fun W q=>hPs W ⟨q.os.trans bu10w.os,q.tape.trans bu10w.tape,q.output.trans bu10w.output,Nat.le_trans bu10w.size q.size,fun k hk hs=>(q.block k ⟨hk,by omega⟩ (Nat.lt_of_lt_of_le hs bu10w.size)).trans (bu10w.block k hs)⟩
     have hRr:=hRr.blw bu10w
     refine zr 5 rfl (fun KK hKK=>?_)
     refine⟨?_⟩
     have cc:=cPa.out (fun q=>w4.heap.size<=q/\q≠u7w.heap.size) u10w vt vr hPs hRr
     go_simp
     refine cc.mono ?_
     rintro e u11w ⟨v9,rfl,hv9,hbu11w⟩
     have hSu11w:Below w4.heap.size w4 u11w:=hS.trans (hbu11w.mono hS.size)
     obtain⟨ra2,rc2,ka2,kc2,sa2,sc2,rfl,_⟩:=(hv9 u11w (Kn.refl _ _)).form
     clear cc
     have hZ:=hZ.blw hbu11w
     refine hKK.out _ _ hSu11w (fun hS=>?_)
     clear hKK KK
     try simp only [Act.put,zg1,zg2,zg3,zs1,zs2,zs3]
     refine zk 6 (.tuple #[.agg #[.int .i64 T.kind,.int .i64 T.n,.string T.name,.slice ra2 T.r.length rc2,.slice ka2 T.kids.length kc2,.slice sa2 T.sys.length sc2],.int .i64 er]) rfl (by rfl) (fun w hS=>by go_simp) hS ?_
     try simp only [Act.put,zg1,zg2,zg3,zs1,zs2,zs3]
     refine zk 7 (.agg #[.int .i64 T.kind,.int .i64 T.n,.string T.name,.slice ra2 T.r.length rc2,.slice ka2 T.kids.length kc2,.slice sa2 T.sys.length sc2]) rfl (by rfl) (fun w hS=>by go_simp) hS ?_
     try simp only [Act.put,zg1,zg2,zg3,zs1,zs2,zs3]
     refine zk 8 (.int .i64 er) rfl (by rfl) (fun w hS=>by go_simp) hS ?_
     try simp only [Act.put,zg1,zg2,zg3,zs1,zs2,zs3]
     have:=hbu6w.size
     have:=hbu7w.size
     have:=bu10w.size
     have:=hbu11w.size
     have zz2:=hZ.set6 (.int .i64 T.kind) (.int .i64 T.n) (.string T.name) (.slice ra2 T.r.length rc2) (.slice ka2 T.kids.length kc2) (.slice sa2 T.sys.length sc2)
     obtain⟨o0,o1,o2,o3,o4,o5,ff⟩:=hZ.cells
     have f0:=ff 0
     have f1:=ff 1
     have f2:=ff 2
     have f3:=ff 3
     have f4:=ff 4
     have f5:=ff 5
     obtain⟨w9,hwz⟩:∃ W,W=(((((u11w.setCell ⟨u7w.heap.size,0,none⟩ (.int .i64 T.kind)).setCell ⟨u7w.heap.size,1,none⟩ (.int .i64 T.n)).setCell ⟨u7w.heap.size,2,none⟩ (.string T.name)).setCell ⟨u7w.heap.size,3,none⟩ (.slice ra2 T.r.length rc2)).setCell ⟨u7w.heap.size,4,none⟩ (.slice ka2 T.kids.length kc2)).setCell ⟨u7w.heap.size,5,none⟩ (.slice sa2 T.sys.length sc2):=⟨_,rfl⟩
     rw [<- hwz] at zz2
     have kz:Kn (fun q=>q≠u7w.heap.size) u11w w9:=by rw [hwz];exact kn_set6 _ _ _ _ _ _ _ _
     have hs4:=hS.size
     have HTm:Hid (∀ V,Kn (fun q=>w4.heap.size<=q) w9 V->TmIn Tt V T (.agg #[.int .i64 T.kind,.int .i64 T.n,.string T.name,.slice ra2 T.r.length rc2,.slice ka2 T.kids.length kc2,.slice sa2 T.sys.length sc2])):=fun W q=>hv9 W ⟨q.os.trans kz.os,q.tape.trans kz.tape,q.output.trans kz.output,Nat.le_trans kz.size q.size,fun k hk hs=>(q.block k (by rcases hk with h | h <;> omega) (Nat.lt_of_lt_of_le hs kz.size)).trans (kz.block k (by rcases hk with h | h <;> omega) hs)⟩
     have hS5:Below w4.heap.size w4 w9:=hS.trans (kz.below (fun q hq=>by omega) hS.size)
     have Hwz:Hid (_=_):=hwz
     clear hwz ff kz hv9
     refine zr 10 rfl (fun KK hKK=>?_)
     refine⟨?_⟩
     go_simp
     rw [<- Hwz.out]
     refine hKK.out _ _ hS5 (fun hS=>?_)
     clear hKK KK
     try simp only [Act.put,zg1,zg2,zg3,zs1,zs2,zs3]
     refine zk 11 (.int .i64 er) rfl (by rfl) (fun w hS=>by go_simp) hS ?_
     try simp only [Act.put,zg1,zg2,zg3,zs1,zs2,zs3]
     refine wpAnyH_done (by kernel_rfl) ?_ _
     go_wp2_with fail
     go_meet
     exact⟨_,_,_,_,_,_,_,rfl,rfl,zz2,HTm.out,hS,hge⟩
   ·skip
    obtain⟨u12w,hu12w⟩:∃ W,W=u6w.alloc (.cells #[.int .i64 0,.int .i64 0,.string ⟨#[]⟩,.slice none 0 0,.slice none 0 0,.slice none 0 0] 26):=⟨_,rfl⟩
    have bu12w:Below u6w.heap.size u6w u12w:=by rw [hu12w];exact belowA _ _
    have su12w:u12w.heap.size=u6w.heap.size+1:=by rw [hu12w];simp
    have hZ:Six u12w u6w.heap.size (.int .i64 0) (.int .i64 0) (.string ⟨#[]⟩) (.slice none 0 0) (.slice none 0 0) (.slice none 0 0):=⟨by rw [hu12w];exact heapNew _ _⟩
    have hge:w4.heap.size<=u6w.heap.size:=hS.size
    have hSu12w:Below w4.heap.size w4 u12w:=hS.trans (bu12w.mono hS.size)
    have Hu12w:Hid (_=_):=hu12w
    clear hu12w
    refine⟨?_⟩
    go_simp
    rw [<- Hu12w.out]
    refine hKK.out _ _ hSu12w (fun hS=>?_)
    clear hKK KK
    try simp only [Act.put,zg1,zg2,zg3,zs1,zs2,zs3]
    have hPs:∀ W,Kn (fun q=>w4.heap.size<=q/\q≠u6w.heap.size) u12w W->TmIn Tt W t vt:=fun W q=>hPs W ⟨q.os.trans bu12w.os,q.tape.trans bu12w.tape,q.output.trans bu12w.output,Nat.le_trans bu12w.size q.size,fun k hk hs=>(q.block k ⟨hk,by omega⟩ (Nat.lt_of_lt_of_le hs bu12w.size)).trans (bu12w.block k hs)⟩
    refine zr 4 rfl (fun KK hKK=>?_)
    refine⟨?_⟩
    have cc:=one_any u12w
    go_simp
    refine cc.mono ?_
    rintro e u13w ⟨vr,rfl,hvr,hbu13w⟩
    have hSu13w:Below w4.heap.size w4 u13w:=hS.trans (hbu13w.mono hS.size)
    have hRr:ClRow Tt u13w [top0] vr:=(OwnsC.okn hvr).keep (Nat.le_refl _) (fun _ _=>trivial) (fun _ _ _=>rfl)
    clear cc hvr
    have hZ:=hZ.blw hbu13w
    have hPs:∀ W,Kn (fun q=>w4.heap.size<=q/\q≠u6w.heap.size) u13w W->TmIn Tt W t vt:=fun W q=>hPs W ((Kn.of_below hbu13w).trans q)
    refine hKK.out _ _ hSu13w (fun hS=>?_)
    clear hKK KK
    try simp only [Act.put,zg1,zg2,zg3,zs1,zs2,zs3]
    refine zr 5 rfl (fun KK hKK=>?_)
    refine⟨?_⟩
    have cc:=cPa.out (fun q=>w4.heap.size<=q/\q≠u6w.heap.size) u13w vt vr hPs hRr
    go_simp
    refine cc.mono ?_
    rintro e u14w ⟨v9,rfl,hv9,hbu14w⟩
    have hSu14w:Below w4.heap.size w4 u14w:=hS.trans (hbu14w.mono hS.size)
    obtain⟨ra2,rc2,ka2,kc2,sa2,sc2,rfl,_⟩:=(hv9 u14w (Kn.refl _ _)).form
    clear cc
    have hZ:=hZ.blw hbu14w
    refine hKK.out _ _ hSu14w (fun hS=>?_)
    clear hKK KK
    try simp only [Act.put,zg1,zg2,zg3,zs1,zs2,zs3]
    refine zk 6 (.tuple #[.agg #[.int .i64 T.kind,.int .i64 T.n,.string T.name,.slice ra2 T.r.length rc2,.slice ka2 T.kids.length kc2,.slice sa2 T.sys.length sc2],.int .i64 er]) rfl (by rfl) (fun w hS=>by go_simp) hS ?_
    try simp only [Act.put,zg1,zg2,zg3,zs1,zs2,zs3]
    refine zk 7 (.agg #[.int .i64 T.kind,.int .i64 T.n,.string T.name,.slice ra2 T.r.length rc2,.slice ka2 T.kids.length kc2,.slice sa2 T.sys.length sc2]) rfl (by rfl) (fun w hS=>by go_simp) hS ?_
    try simp only [Act.put,zg1,zg2,zg3,zs1,zs2,zs3]
    refine zk 8 (.int .i64 er) rfl (by rfl) (fun w hS=>by go_simp) hS ?_
    try simp only [Act.put,zg1,zg2,zg3,zs1,zs2,zs3]
    have:=hbu6w.size
    have:=bu12w.size
    have:=hbu13w.size
    have:=hbu14w.size
    have zz2:=hZ.set6 (.int .i64 T.kind) (.int .i64 T.n) (.string T.name) (.slice ra2 T.r.length rc2) (.slice ka2 T.kids.length kc2) (.slice sa2 T.sys.length sc2)
    obtain⟨o0,o1,o2,o3,o4,o5,ff⟩:=hZ.cells
    have f0:=ff 0
    have f1:=ff 1
    have f2:=ff 2
    have f3:=ff 3
    have f4:=ff 4
    have f5:=ff 5
    obtain⟨w9,hwz⟩:∃ W,W=(((((u14w.setCell ⟨u6w.heap.size,0,none⟩ (.int .i64 T.kind)).setCell ⟨u6w.heap.size,1,none⟩ (.int .i64 T.n)).setCell ⟨u6w.heap.size,2,none⟩ (.string T.name)).setCell ⟨u6w.heap.size,3,none⟩ (.slice ra2 T.r.length rc2)).setCell ⟨u6w.heap.size,4,none⟩ (.slice ka2 T.kids.length kc2)).setCell ⟨u6w.heap.size,5,none⟩ (.slice sa2 T.sys.length sc2):=⟨_,rfl⟩
    rw [<- hwz] at zz2
    have kz:Kn (fun q=>q≠u6w.heap.size) u14w w9:=by rw [hwz];exact kn_set6 _ _ _ _ _ _ _ _
    have hs4:=hS.size
    have HTm:Hid (∀ V,Kn (fun q=>w4.heap.size<=q) w9 V->TmIn Tt V T (.agg #[.int .i64 T.kind,.int .i64 T.n,.string T.name,.slice ra2 T.r.length rc2,.slice ka2 T.kids.length kc2,.slice sa2 T.sys.length sc2])):=fun W q=>hv9 W ⟨q.os.trans kz.os,q.tape.trans kz.tape,q.output.trans kz.output,Nat.le_trans kz.size q.size,fun k hk hs=>(q.block k (by rcases hk with h | h <;> omega) (Nat.lt_of_lt_of_le hs kz.size)).trans (kz.block k (by rcases hk with h | h <;> omega) hs)⟩
    have hS5:Below w4.heap.size w4 w9:=hS.trans (kz.below (fun q hq=>by omega) hS.size)
    have Hwz:Hid (_=_):=hwz
    clear hwz ff kz hv9
    refine zr 10 rfl (fun KK hKK=>?_)
    refine⟨?_⟩
    go_simp
    rw [<- Hwz.out]
    refine hKK.out _ _ hS5 (fun hS=>?_)
    clear hKK KK
    try simp only [Act.put,zg1,zg2,zg3,zs1,zs2,zs3]
    refine zk 11 (.int .i64 er) rfl (by rfl) (fun w hS=>by go_simp) hS ?_
    try simp only [Act.put,zg1,zg2,zg3,zs1,zs2,zs3]
    refine wpAnyH_done (by kernel_rfl) ?_ _
    go_wp2_with fail
    go_meet
    exact⟨_,_,_,_,_,_,_,rfl,rfl,zz2,HTm.out,hS,hge⟩
  ·skip
   obtain⟨u15w,hu15w⟩:∃ W,W=wd.alloc (.cells #[.int .i64 0,.int .i64 0,.string ⟨#[]⟩,.slice none 0 0,.slice none 0 0,.slice none 0 0] 26):=⟨_,rfl⟩
   have bu15w:Below wd.heap.size wd u15w:=by rw [hu15w];exact belowA _ _
   have su15w:u15w.heap.size=wd.heap.size+1:=by rw [hu15w];simp
   have hZ:Six u15w wd.heap.size (.int .i64 0) (.int .i64 0) (.string ⟨#[]⟩) (.slice none 0 0) (.slice none 0 0) (.slice none 0 0):=⟨by rw [hu15w];exact heapNew _ _⟩
   have hge:w4.heap.size<=wd.heap.size:=hS.size
   have hSu15w:Below w4.heap.size w4 u15w:=hS.trans (bu15w.mono hS.size)
   have Hu15w:Hid (_=_):=hu15w
   clear hu15w
   refine⟨?_⟩
   go_simp
   rw [<- Hu15w.out]
   refine hKK.out _ _ hSu15w (fun hS=>?_)
   clear hKK KK
   try simp only [Act.put,zg1,zg2,zg3,zs1,zs2,zs3]
   refine zr 1 rfl (fun KK hKK=>?_)
   refine⟨?_⟩
   have cc:=cCp.out u15w hS
   go_simp
   refine cc.mono ?_
   rintro e u16w ⟨vt,rfl,hvt,hbu16w⟩
   have hSu16w:Below w4.heap.size w4 u16w:=hS.trans (hbu16w.mono hS.size)
   have hPs:∀ W,Kn (fun q=>w4.heap.size<=q/\q≠wd.heap.size) u16w W->TmIn Tt W t vt:=fun W q=>hvt.keep q.size (fun _ _=>trivial) (fun k hk hs=>q.block k ⟨by have:=hk.1;have:=hS.size;omega,by have:=hk.1;omega⟩ hs)
   clear cc hvt
   have hZ:=hZ.blw hbu16w
   refine hKK.out _ _ hSu16w (fun hS=>?_)
   clear hKK KK
   try simp only [Act.put,zg1,zg2,zg3,zs1,zs2,zs3]
   refine zr 4 rfl (fun KK hKK=>?_)
   refine⟨?_⟩
   have cc:=one_any u16w
   go_simp
   refine cc.mono ?_
   rintro e u17w ⟨vr,rfl,hvr,hbu17w⟩
   have hSu17w:Below w4.heap.size w4 u17w:=hS.trans (hbu17w.mono hS.size)
   have hRr:ClRow Tt u17w [top0] vr:=(OwnsC.okn hvr).keep (Nat.le_refl _) (fun _ _=>trivial) (fun _ _ _=>rfl)
   clear cc hvr
   have hZ:=hZ.blw hbu17w
   have hPs:∀ W,Kn (fun q=>w4.heap.size<=q/\q≠wd.heap.size) u17w W->TmIn Tt W t vt:=fun W q=>hPs W ((Kn.of_below hbu17w).trans q)
   refine hKK.out _ _ hSu17w (fun hS=>?_)
   clear hKK KK
   try simp only [Act.put,zg1,zg2,zg3,zs1,zs2,zs3]
   refine zr 5 rfl (fun KK hKK=>?_)
   refine⟨?_⟩
   have cc:=cPa.out (fun q=>w4.heap.size<=q/\q≠wd.heap.size) u17w vt vr hPs hRr
   go_simp
   refine cc.mono ?_
   rintro e u18w ⟨v9,rfl,hv9,hbu18w⟩
   have hSu18w:Below w4.heap.size w4 u18w:=hS.trans (hbu18w.mono hS.size)
   obtain⟨ra2,rc2,ka2,kc2,sa2,sc2,rfl,_⟩:=(hv9 u18w (Kn.refl _ _)).form
   clear cc
   have hZ:=hZ.blw hbu18w
   refine hKK.out _ _ hSu18w (fun hS=>?_)
   clear hKK KK
   try simp only [Act.put,zg1,zg2,zg3,zs1,zs2,zs3]
   refine zk 6 (.tuple #[.agg #[.int .i64 T.kind,.int .i64 T.n,.string T.name,.slice ra2 T.r.length rc2,.slice ka2 T.kids.length kc2,.slice sa2 T.sys.length sc2],.int .i64 er]) rfl (by rfl) (fun w hS=>by go_simp) hS ?_
   try simp only [Act.put,zg1,zg2,zg3,zs1,zs2,zs3]
   refine zk 7 (.agg #[.int .i64 T.kind,.int .i64 T.n,.string T.name,.slice ra2 T.r.length rc2,.slice ka2 T.kids.length kc2,.slice sa2 T.sys.length sc2]) rfl (by rfl) (fun w hS=>by go_simp) hS ?_
   try simp only [Act.put,zg1,zg2,zg3,zs1,zs2,zs3]
   refine zk 8 (.int .i64 er) rfl (by rfl) (fun w hS=>by go_simp) hS ?_
   try simp only [Act.put,zg1,zg2,zg3,zs1,zs2,zs3]
   have:=bu15w.size
   have:=hbu16w.size
   have:=hbu17w.size
   have:=hbu18w.size
   have zz2:=hZ.set6 (.int .i64 T.kind) (.int .i64 T.n) (.string T.name) (.slice ra2 T.r.length rc2) (.slice ka2 T.kids.length kc2) (.slice sa2 T.sys.length sc2)
   obtain⟨o0,o1,o2,o3,o4,o5,ff⟩:=hZ.cells
   have f0:=ff 0
   have f1:=ff 1
   have f2:=ff 2
   have f3:=ff 3
   have f4:=ff 4
   have f5:=ff 5
   obtain⟨w9,hwz⟩:∃ W,W=(((((u18w.setCell ⟨wd.heap.size,0,none⟩ (.int .i64 T.kind)).setCell ⟨wd.heap.size,1,none⟩ (.int .i64 T.n)).setCell ⟨wd.heap.size,2,none⟩ (.string T.name)).setCell ⟨wd.heap.size,3,none⟩ (.slice ra2 T.r.length rc2)).setCell ⟨wd.heap.size,4,none⟩ (.slice ka2 T.kids.length kc2)).setCell ⟨wd.heap.size,5,none⟩ (.slice sa2 T.sys.length sc2):=⟨_,rfl⟩
   rw [<- hwz] at zz2
   have kz:Kn (fun q=>q≠wd.heap.size) u18w w9:=by rw [hwz];exact kn_set6 _ _ _ _ _ _ _ _
   have hs4:=hS.size
   have HTm:Hid (∀ V,Kn (fun q=>w4.heap.size<=q) w9 V->TmIn Tt V T (.agg #[.int .i64 T.kind,.int .i64 T.n,.string T.name,.slice ra2 T.r.length rc2,.slice ka2 T.kids.length kc2,.slice sa2 T.sys.length sc2])):=fun W q=>hv9 W ⟨q.os.trans kz.os,q.tape.trans kz.tape,q.output.trans kz.output,Nat.le_trans kz.size q.size,fun k hk hs=>(q.block k (by rcases hk with h | h <;> omega) (Nat.lt_of_lt_of_le hs kz.size)).trans (kz.block k (by rcases hk with h | h <;> omega) hs)⟩
   have hS5:Below w4.heap.size w4 w9:=hS.trans (kz.below (fun q hq=>by omega) hS.size)
   have Hwz:Hid (_=_):=hwz
   clear hwz ff kz hv9
   refine zr 10 rfl (fun KK hKK=>?_)
   refine⟨?_⟩
   go_simp
   rw [<- Hwz.out]
   refine hKK.out _ _ hS5 (fun hS=>?_)
   clear hKK KK
   try simp only [Act.put,zg1,zg2,zg3,zs1,zs2,zs3]
   refine zk 11 (.int .i64 er) rfl (by rfl) (fun w hS=>by go_simp) hS ?_
   try simp only [Act.put,zg1,zg2,zg3,zs1,zs2,zs3]
   refine wpAnyH_done (by kernel_rfl) ?_ _
   go_wp2_with fail
   go_meet
   exact⟨_,_,_,_,_,_,_,rfl,rfl,zz2,HTm.out,hS,hge⟩
 case rest =>
 obtain⟨ob,ra2,rc2,ka2,kc2,sa2,sc2,rfl,rfl,hO,hTv,hS4,hge⟩:=hcut
 obtain⟨w5,hw5⟩:∃ V,V=wc:=⟨_,rfl⟩
 subst hw5
 have b15:Below w1.heap.size w1 w5:=b14.trans (hS4.mono b14.size)
 clear cCp cPa HC4 hS1
 by_cases hz:er=0
 rotate_left
 ·have Hf:Hid (undA c t=(noT,er)):=(by rw [HE.out,if_neg hz]:_=_)
  have hz1:(er == 0)=false:=by simpa using hz
  clear HE
  have zz:=HZ.out w5 b15
  obtain⟨wz,hwz,zz2,kz,o0,o1,o2,o3,o4,o5,f0,f1,f2,f3,f4,f5⟩:=zst zz (.int .i64 0) (.int .i64 0) (.string ⟨#[]⟩) (.slice none 0 0) (.slice none 0 0) (.slice none 0 0)
  obtain⟨h0,h1,h2,h3,h4,h5,_⟩:=zz2.cells
  have bz:Below X w wz:=(HB.out w5 b15).trans (kz.below (fun q hq=>by omega) (by have:=(HB.out w5 b15).size;have:=HXs.out;omega))
  have Hwz:Hid (_=_):=hwz
  clear hwz zz zz2 kz
  go_wp2_with fail
  rw [<- Hwz.out]
  exact bodyPost_ret (v:=.tuple #[.agg #[.int .i64 0,.int .i64 0,.string ⟨#[]⟩,.slice none 0 0,.slice none 0 0,.slice none 0 0],.int .i64 (er)]) (by simp only [results,Tryz.results37];simp [go_sem,h0,h1,h2,h3,h4,h5]) rfl ⟨_,by rw [Hf.out],fun V q=>by rw [Hf.out];exact noT_in _ _,bz⟩
 subst hz
 rw [if_pos rfl] at HE
 obtain⟨B,hB⟩:∃ B,B=pall [] (dimsOf c.2.val) T:=⟨_,rfl⟩
 rw [<- hB] at HE
 obtain⟨T2,er2⟩:=B
 have cP:Hid (∀ V,Below w5.heap.size w5 V->Calls Tryz.prog 97 #[.agg #[.int .i64 T.kind,.int .i64 T.n,.string T.name,.slice ra2 T.r.length rc2,.slice ka2 T.kids.length kc2,.slice sa2 T.sys.length sc2],.int .u32 (c.2.val:Int),.slice none 0 0] V fun e w'=>∃ v',e=.returned (.tuple #[v',.int .i64 er2])/\(∀ W,Kn (fun q=>w4.heap.size<=q\/V.heap.size<=q) w' W->TmIn Tt W T2 v')/\Below V.heap.size V w'):=fun V q=>by
  have:=pall_any (fun q=>w4.heap.size<=q) T (.agg #[.int .i64 T.kind,.int .i64 T.n,.string T.name,.slice ra2 T.r.length rc2,.slice ka2 T.kids.length kc2,.slice sa2 T.sys.length sc2]) V (fun W qW=>hTv W ((Kn.of_below q).trans qW)) HAc.out c.2.val hc2 [] (.slice none 0 0) (cl_nil _ _) (by simp)
  rw [<- hB] at this
  exact this
 have HO:Hid (∀ V,Below w5.heap.size w5 V->Six V ob (.int .i64 T.kind) (.int .i64 T.n) (.string T.name) (.slice ra2 T.r.length rc2) (.slice ka2 T.kids.length kc2) (.slice sa2 T.sys.length sc2)):=fun V q=>hO.blw q
 have hobX:ob≠X+2:=by have:=b14.size;omega
 have hob1:w4.heap.size<=ob:=hge
 clear hB
 go_upto_region 9 with fail
 refine wp_region_held_drew (S:=fun V=>Below X w V/\Six V ob (.int .i64 T.kind) (.int .i64 T.n) (.string T.name) (.slice ra2 T.r.length rc2) (.slice ka2 T.kids.length kc2) (.slice sa2 T.sys.length sc2)/\V.cell? ⟨X+1,1,none⟩=some (.int .u32 (c.2.val:Int))) (by kernel_rfl) ⟨(HB.out w5 b15).drew,⟨hO.blk⟩,(HCc.out w5 b15).2⟩ (fun hS=>?_)
 obtain⟨wd,hwd⟩:∃ V,V=w5.drew:=⟨_,rfl⟩
 have hbd:Below w5.heap.size w5 wd:=by rw [hwd];exact (Below.refl _ _).drew
 rw [<- hwd] at hS ⊢
 clear hwd hO
 refine zk 0 (.agg #[.int .i64 T.kind,.int .i64 T.n,.string T.name,.slice ra2 T.r.length rc2,.slice ka2 T.kids.length kc2,.slice sa2 T.sys.length sc2]) rfl (by rfl) (fun w hS=>by obtain⟨y0,y1,y2,y3,y4,y5,_⟩:=hS.2.1.cells;go_simp) hS ?_
 try simp only [Act.put,zg1,zg2,zg3,zs1,zs2,zs3]
 refine zk 1 (.pointer (some ⟨X+1,1,none⟩)) rfl (by rfl) (fun w hS=>by go_simp) hS ?_
 try simp only [Act.put,zg1,zg2,zg3,zs1,zs2,zs3]
 refine zk 2 (.int .u32 (c.2.val:Int)) rfl (by rfl) (fun w hS=>by have e:=hS.2.2;go_simp) hS ?_
 try simp only [Act.put,zg1,zg2,zg3,zs1,zs2,zs3]
 refine zr 3 rfl (fun KK hKK=>?_)
 refine⟨?_⟩
 have cc:=zero_any wd
 go_simp
 refine cc.mono ?_
 rintro e wx ⟨rfl,hwx⟩
 replace hwx:=hwx.symm
 subst hwx
 clear cc
 refine hKK.out _ _ hS (fun hS=>?_)
 clear hKK KK
 try simp only [Act.put,zg1,zg2,zg3,zs1,zs2,zs3]
 refine zr 4 rfl (fun KK hKK=>?_)
 refine⟨?_⟩
 have cc:=cP.out wd hbd
 go_simp
 refine cc.mono ?_
 rintro e w6 ⟨v3,rfl,hv3,hb3⟩
 obtain⟨ra2b,rc2b,ka2b,kc2b,sa2b,sc2b,rfl,_⟩:=(hv3 w6 (Kn.refl _ _)).form
 have hn3:=hbd.size
 have hn4:=b15.size
 have hbd:Below w5.heap.size w5 w6:=hbd.trans (hb3.mono hbd.size)
 have b16:Below w1.heap.size w1 w6:=b15.trans (hbd.mono b15.size)
 clear cc
 refine hKK.out _ _ ⟨HB.out w6 b16,HO.out w6 hbd,(HCc.out w6 b16).2⟩ (fun hS=>?_)
 clear hKK KK
 try simp only [Act.put,zg1,zg2,zg3,zs1,zs2,zs3]
 refine zk 5 (.agg #[.int .i64 T2.kind,.int .i64 T2.n,.string T2.name,.slice ra2b T2.r.length rc2b,.slice ka2b T2.kids.length kc2b,.slice sa2b T2.sys.length sc2b]) rfl (by rfl) (fun w hS=>by go_simp) hS ?_
 try simp only [Act.put,zg1,zg2,zg3,zs1,zs2,zs3]
 refine zk 6 (.int .i64 er2) rfl (by rfl) (fun w hS=>by go_simp) hS ?_
 try simp only [Act.put,zg1,zg2,zg3,zs1,zs2,zs3]
 have htv:=hv3
 clear hv3
 have zz:=HZ.out w6 b16
 have zz2:=zz.set6 (.int .i64 T2.kind) (.int .i64 T2.n) (.string T2.name) (.slice ra2b T2.r.length rc2b) (.slice ka2b T2.kids.length kc2b) (.slice sa2b T2.sys.length sc2b)
 obtain⟨o0,o1,o2,o3,o4,o5,ff⟩:=zz.cells
 have f0:=ff 0
 have f1:=ff 1
 have f2:=ff 2
 have f3:=ff 3
 have f4:=ff 4
 have f5:=ff 5
 obtain⟨w7,hwz⟩:∃ W,W=(((((w6.setCell ⟨X+2,0,none⟩ (.int .i64 T2.kind)).setCell ⟨X+2,1,none⟩ (.int .i64 T2.n)).setCell ⟨X+2,2,none⟩ (.string T2.name)).setCell ⟨X+2,3,none⟩ (.slice ra2b T2.r.length rc2b)).setCell ⟨X+2,4,none⟩ (.slice ka2b T2.kids.length kc2b)).setCell ⟨X+2,5,none⟩ (.slice sa2b T2.sys.length sc2b):=⟨_,rfl⟩
 rw [<- hwz] at zz2
 have kz:Kn (fun q=>q≠X+2) w6 w7:=by rw [hwz];exact kn_set6 _ _ _ _ _ _ _ _
 have HTm:Hid (∀ V,Kn (fun q=>X<=q) w7 V->TmIn Tt V T2 (.agg #[.int .i64 T2.kind,.int .i64 T2.n,.string T2.name,.slice ra2b T2.r.length rc2b,.slice ka2b T2.kids.length kc2b,.slice sa2b T2.sys.length sc2b])):=fun V q=>htv V ⟨q.os.trans kz.os,q.tape.trans kz.tape,q.output.trans kz.output,Nat.le_trans kz.size q.size,fun k hk hs=>(q.block k (by have:=b14.size;rcases hk with h | h <;> omega) (Nat.lt_of_lt_of_le hs kz.size)).trans (kz.block k (by have:=b14.size;rcases hk with h | h <;> omega) hs)⟩
 have hS5:Below X w w7/\Six w7 ob (.int .i64 T.kind) (.int .i64 T.n) (.string T.name) (.slice ra2 T.r.length rc2) (.slice ka2 T.kids.length kc2) (.slice sa2 T.sys.length sc2)/\w7.cell? ⟨X+1,1,none⟩=some (.int .u32 (c.2.val:Int)):=⟨(HB.out w6 b16).trans (kz.below (fun q hq=>by omega) (by have:=(HB.out w6 b16).size;have:=HXs.out;omega)),(HO.out w6 hbd).kn kz hobX,(World.cell?_of_block (w:=w6) (w':=w7) (a:=⟨X+1,1,none⟩) (kz.block (X+1) (by omega) (by have:=b16.size;omega))).trans (HCc.out w6 b16).2⟩
 have Hwz:Hid (_=_):=hwz
 clear hwz ff zz kz htv
 refine zr 7 rfl (fun KK hKK=>?_)
 refine⟨?_⟩
 go_simp
 rw [<- Hwz.out]
 refine hKK.out _ _ hS5 (fun hS=>?_)
 clear hKK KK
 try simp only [Act.put,zg1,zg2,zg3,zs1,zs2,zs3]
 refine zk 8 (.int .i64 er2) rfl (by rfl) (fun w hS=>by go_simp) hS ?_
 try simp only [Act.put,zg1,zg2,zg3,zs1,zs2,zs3]
 obtain⟨h0,h1,h2,h3,h4,h5,_⟩:=zz2.cells
 refine wpAnyH_done (by kernel_rfl) ?_ _
 go_wp2_with fail
 exact bodyPost_ret (v:=.tuple #[.agg #[.int .i64 T2.kind,.int .i64 T2.n,.string T2.name,.slice ra2b T2.r.length rc2b,.slice ka2b T2.kids.length kc2b,.slice sa2b T2.sys.length sc2b],.int .i64 (er2)]) (by simp only [results,Tryz.results37];simp [go_sem,h0,h1,h2,h3,h4,h5]) rfl ⟨_,by rw [HE.out],fun V q=>by rw [HE.out];exact HTm.out V q,hS.1⟩
theorem under_any (t:Tm) (v:Value) (w:World) (hv:TmIn Tt w t v) (hb:blk t<=20000) (hcp:capT t<=40000) (c:C):Calls Tryz.prog 37 #[v,clV c] w fun e w'=>∃ v',e=.returned (.tuple #[v',.int .i64 (undA c t).2])/\TmIn Tt w' (undA c t).1 v'/\Below w.heap.size w w' :=
 (under_all t v w hv hb hcp c).mono fun e w' h=>by
  obtain⟨v',h1,h2,h3⟩:=h
  exact⟨v',h1,h2 w' (Kn.refl _ _),h3⟩
end Go.Proofs.YtblbhmnahoiecaaGreat
