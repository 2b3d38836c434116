/- A part of the proof. -/
import Derived.Deep.DeepCutAuto
import Derived.Deep.CutBlock
import Derived.Test.YtblbhmnahoiecaaGreatHG21
set_option linter.unusedVariables false
set_option linter.unusedSimpArgs false
set_option maxRecDepth 100000
set_option maxHeartbeats 8000000
namespace Go.Proofs.YtblbhmnahoiecaaGreat
open Go.RowKit
attribute [local go_sem] Oper.semAt_some
theorem half_start {n o:Nat} {l:List C} {w4 w5:World} {v:Value} (hO:OwnsC w4 n v l) (ho:v.ownBlock≠some o) (hge:n<=o) (hk:Kn (fun q=>q≠o) w4 w5):Half n o l [] w5 v (.slice none 0 0) :=
 ⟨(hO.but ho).keep hk.size (fun q hq=>⟨hq.1.same (hk.block q hq.2 hq.1.lt),(fun e=>by cases e),hq.2⟩) (fun q hq hs=>hk.block q hq.2 hs),KOwn.nil _ _ _,hge⟩
theorem kn_set6 (w:World) (s:Nat) (u0 u1 u2 u3 u4 u5:Value):Kn (fun q=>q≠s) w ((((((w.setCell ⟨s,0,none⟩ u0).setCell ⟨s,1,none⟩ u1).setCell ⟨s,2,none⟩ u2).setCell ⟨s,3,none⟩ u3).setCell ⟨s,4,none⟩ u4).setCell ⟨s,5,none⟩ u5) :=
 (((((kn_set _ _ _ _).trans (kn_set _ _ _ _)).trans (kn_set _ _ _ _)).trans (kn_set _ _ _ _)).trans (kn_set _ _ _ _)).trans (kn_set _ _ _ _)
theorem owns_blw {w w':World} {base:Nat} {v:Value} {l:List C} (h:OwnsC w base v l) (hb:Below w.heap.size w w'):OwnsC w' base v l:=owns_keep h (fun k hk=>hb.block k (World.ownsRow.lt h k hk).2)
def RCpC (N:Nat):Prop:=∀ (t:Tm) (v:Value) (w:World),TmIn Tt w t v->blk t<=N->blk t<=100000->Calls Tryz.prog 9 #[v] w fun e w'=>∃ v',e=.returned v'/\TmIn (OkN w.heap.size w') w' t v'/\Below w.heap.size w w'
theorem rcopy_eg:∀ args w,(callFunc 9 args).run Tryz.prog w=.ok (.enter 9 args) w:=enters_of Tryz.func9 (by kernel_rfl) rfl
theorem rcopy_step (N:Nat) (IH:RCpC N):RCpC (N+1):=by
 intro t v w h hN hbb
 obtain⟨ra,rc,ka,kc,sa,sc,rfl,ht⟩:=h.form
 have HI:Hid (I64 t.kind/\I64 t.n):=⟨ht.ik,ht.inn⟩
 obtain⟨w1,hw1⟩:∃ W,W=(w.alloc (.cells #[.int .i64 t.kind,.int .i64 t.n,.string t.name,.slice ra t.r.length rc,.slice ka t.kids.length kc,.slice sa t.sys.length sc] 26)).alloc (.cells #[.int .i64 0,.int .i64 0,.string ⟨#[]⟩,.slice none 0 0,.slice none 0 0,.slice none 0 0] 26):=⟨_,rfl⟩
 have b1:Below w.heap.size w w1:=by rw [hw1];exact bchain (belowA _ _) (belowA _ _)
 have s1:w1.heap.size=w.heap.size+2:=by rw [hw1];simp
 obtain⟨X,hX⟩:∃ X,X=w.heap.size:=⟨_,rfl⟩
 have x1:Six w1 X (.int .i64 t.kind) (.int .i64 t.n) (.string t.name) (.slice ra t.r.length rc) (.slice ka t.kids.length kc) (.slice sa t.sys.length sc):=⟨by rw [hX,hw1];exact (Below.heap_alloc _ _ _ (by simp)).trans (heapNew w _)⟩
 have x2:Six w1 (X+1) (.int .i64 0) (.int .i64 0) (.string ⟨#[]⟩) (.slice none 0 0) (.slice none 0 0) (.slice none 0 0):=⟨by
  rw [hX,hw1];have:=heapNew (w.alloc (.cells #[.int .i64 t.kind,.int .i64 t.n,.string t.name,.slice ra t.r.length rc,.slice ka t.kids.length kc,.slice sa t.sys.length sc] 26)) (.cells #[.int .i64 0,.int .i64 0,.string ⟨#[]⟩,.slice none 0 0,.slice none 0 0,.slice none 0 0] 26);rwa [World.size_alloc] at this⟩
 obtain⟨n1,hn1⟩:∃ n,n=w1.heap.size:=⟨_,rfl⟩
 have hXn:n1=X+2:=by omega
 obtain⟨R,hR⟩:∃ L,L=t.r.length:=⟨_,rfl⟩
 obtain⟨L,hL⟩:∃ L,L=t.kids.length:=⟨_,rfl⟩
 obtain⟨M,hM⟩:∃ M,M=t.sys.length:=⟨_,rfl⟩
 have HL:Hid (R=t.r.length/\L=t.kids.length/\M=t.sys.length):=⟨hR,hL,hM⟩
 have hLb:L<=100000:=by have:=(blk_lens t).2.2.1;omega
 have hMb:M<=100000:=by have:=(blk_lens t).2.2.2;omega
 have hRb:R<=100000:=by have:=(blk_lens t).1;omega
 have HT:Hid (∀ W,Below n1 w1 W->TmTop Tt W t ra rc ka kc sa sc):=fun W q=>(ht.blw b1).blw (by rw [<- hn1];exact q)
 have HX:Hid (∀ W,Below n1 w1 W->Six W X (.int .i64 t.kind) (.int .i64 t.n) (.string t.name) (.slice ra R rc) (.slice ka L kc) (.slice sa M sc)):=fun W q=>by rw [hR,hL,hM];exact x1.blw (by rw [<- hn1];exact q)
 have HX2:Hid (∀ W,Below n1 w1 W->Six W (X+1) (.int .i64 0) (.int .i64 0) (.string ⟨#[]⟩) (.slice none 0 0) (.slice none 0 0) (.slice none 0 0)):=fun W q=>x2.blw (by rw [<- hn1];exact q)
 have HB1:Hid (∀ W,Below n1 w1 W->Below w.heap.size w W):=fun W q=>bchain b1 (by rw [<- hn1];exact q)
 have HR0:Hid (∀ W,Below n1 w1 W->CRow W (.slice ra R rc) t.r):=fun W q=>by rw [hR];exact (HT.out W q).row.row
 have HW:Hid (_=_):=hw1
 have HXs:Hid (X=w.heap.size):=hX
 have Hn1:Hid (n1=w1.heap.size):=hn1
 have eg:=rcopy_eg
 simp only [<- hR,<- hL,<- hM]
 rw [<- hR,<- hL,<- hM] at HW
 clear hw1 x1 x2 b1 h ht hR hL hM hX hn1 s1
 go_enter Tryz.func9,Tryz.ntmps9
 go_upto_region 1 with fail
 rw [<- HW.out]
 simp only [<- HXs.out]
 clear HW
 have hS1:Below n1 w1 w1:=Below.refl _ _
 go_cut [3] (fun s wx=>∃ o a c,s=.pointer (some ⟨o,0,none⟩)/\Six wx o (.int .i64 t.kind) (.int .i64 t.n) (.string t.name) (.slice a R c) (.slice none 0 0) (.slice none 0 0)/\Half n1 o t.r [] wx (.slice a R c) (.slice none 0 0)/\Below n1 w1 wx)
 case first=>as_aux_lemma =>
  refine region_nrm (S:=fun W=>Below n1 w1 W) (by kernel_rfl) (hS1.drew) (fun hS=>?_)
  obtain⟨wd,hwd⟩:∃ W,W=w1.drew:=⟨_,rfl⟩
  rw [<- hwd] at hS ⊢
  have sd:Hid (wd.heap.size=n1):=(by rw [hwd];exact Hn1.out.symm:wd.heap.size=n1)
  have HXn:Hid (n1=X+2):=hXn
  clear hwd hXn
  refine wpAnyH_take (i:=0) (v:=.pointer (some ⟨X,0,none⟩)) rfl (by kernel_rfl) (by kernel_rfl) (by kernel_rfl) (fun _ _ _ h=>(by cases h.1)) (Or.inl ⟨by rfl,fun w hS=>by go_simp⟩) hS ?_
  try simp only [Act.put,zg1,zg2,zg3,zs1,zs2,zs3]
  refine wpAnyH_take (i:=1) (v:=.int .i64 t.kind) rfl (by kernel_rfl) (by kernel_rfl) (by kernel_rfl) (fun _ _ _ h=>(by cases h.1)) (Or.inl ⟨by rfl,fun w hS=>by have e:=(HX.out w hS).cells.1;go_simp⟩) hS ?_
  try simp only [Act.put,zg1,zg2,zg3,zs1,zs2,zs3]
  refine wpAnyH_take (i:=2) (v:=.pointer (some ⟨X,1,none⟩)) rfl (by kernel_rfl) (by kernel_rfl) (by kernel_rfl) (fun _ _ _ h=>(by cases h.1)) (Or.inl ⟨by rfl,fun w hS=>by go_simp⟩) hS ?_
  try simp only [Act.put,zg1,zg2,zg3,zs1,zs2,zs3]
  refine wpAnyH_take (i:=3) (v:=.int .i64 t.n) rfl (by kernel_rfl) (by kernel_rfl) (by kernel_rfl) (fun _ _ _ h=>(by cases h.1)) (Or.inl ⟨by rfl,fun w hS=>by have e:=(HX.out w hS).cells.2.1;go_simp⟩) hS ?_
  try simp only [Act.put,zg1,zg2,zg3,zs1,zs2,zs3]
  refine wpAnyH_take (i:=4) (v:=.pointer (some ⟨X,2,none⟩)) rfl (by kernel_rfl) (by kernel_rfl) (by kernel_rfl) (fun _ _ _ h=>(by cases h.1)) (Or.inl ⟨by rfl,fun w hS=>by go_simp⟩) hS ?_
  try simp only [Act.put,zg1,zg2,zg3,zs1,zs2,zs3]
  refine wpAnyH_take (i:=5) (v:=.string t.name) rfl (by kernel_rfl) (by kernel_rfl) (by kernel_rfl) (fun _ _ _ h=>(by cases h.1)) (Or.inl ⟨by rfl,fun w hS=>by have e:=(HX.out w hS).cells.2.2.1;go_simp⟩) hS ?_
  try simp only [Act.put,zg1,zg2,zg3,zs1,zs2,zs3]
  refine wpAnyH_take (i:=7) (v:=.pointer (some ⟨X,3,none⟩)) rfl (by kernel_rfl) (by kernel_rfl) (by kernel_rfl) (fun _ _ _ h=>(by cases h.1)) (Or.inl ⟨by rfl,fun w hS=>by go_simp⟩) hS ?_
  try simp only [Act.put,zg1,zg2,zg3,zs1,zs2,zs3]
  refine wpAnyH_take (i:=8) (v:=.slice ra R rc) rfl (by kernel_rfl) (by kernel_rfl) (by kernel_rfl) (fun _ _ _ h=>(by cases h.1)) (Or.inl ⟨by rfl,fun w hS=>by have e:=(HX.out w hS).cells.2.2.2.1;go_simp⟩) hS ?_
  try simp only [Act.put,zg1,zg2,zg3,zs1,zs2,zs3]
  refine wpAnyH_ready (rs:=[6,11]) (by kernel_rfl) (by simp) ?_
  refine ready_cons rfl (fun KK hKK=>?_) (ready_cons rfl (fun KK hKK=>?_) AllReadyH.nil)
  ·skip
   obtain⟨w2,hw2⟩:∃ W,W=wd.alloc (.cells #[] 38):=⟨_,rfl⟩
   have b2:Below wd.heap.size wd w2:=by rw [hw2];exact belowA _ _
   have sw2:Hid (w2.heap.size=wd.heap.size+1):=(by rw [hw2];simp:w2.heap.size=wd.heap.size+1)
   have hE:OwnsC w2 n1 (.slice (some ⟨wd.heap.size,0,none⟩) 0 0) []:=by rw [hw2];exact empty_own wd n1 (by have:=sd.out;have:=sw2.out;omega)
   have hSw2:Below n1 w1 w2:=hS.trans (b2.mono (by have:=sd.out;have:=sw2.out;omega))
   have Hw2:Hid (_=_):=hw2
   clear hw2
   refine⟨?_⟩
   go_simp
   rw [<- Hw2.out]
   refine hKK.out _ _ hSw2 (fun hS=>?_)
   clear hKK KK
   try simp only [Act.put,zg1,zg2,zg3,zs1,zs2,zs3]
   refine wpAnyH_ready (rs:=[9,11]) (by kernel_rfl) (by simp) ?_
   refine ready_cons rfl (fun KK hKK=>?_) (ready_cons rfl (fun KK hKK=>?_) AllReadyH.nil)
   ·skip
    obtain⟨vr,w3,hrun,hO,hg,hv⟩:=append_row 22 hE (HR0.out w2 hS) (by have:=HL.out.1;simp;omega) (by have:=sd.out;have:=sw2.out;omega)
    have gw3:Hid (w2.heap.size<=w3.heap.size):=hg.size
    have bw3:Below n1 w2 w3:=own_grown hE hg (by have:=sd.out;have:=sw2.out;have:=gw3.out;omega)
    have hSw3:Below n1 w1 w3:=hS.trans bw3
    rw [List.nil_append] at hO
    obtain⟨ra3,rc3,rfl⟩:=OwnsC.len hO
    rw [<- HL.out.1] at hrun hO hv
    refine⟨step_append rfl _ _ _ rfl _ _ _ _ rfl rfl hrun ?_⟩
    refine hKK.out _ _ hSw3 (fun hS=>?_)
    clear hKK KK
    try simp only [Act.put,zg1,zg2,zg3,zs1,zs2,zs3]
    refine wpAnyH_take (i:=10) (v:=.agg #[.int .i64 t.kind,.int .i64 t.n,.string t.name,.slice ra3 R rc3,.slice none 0 0,.slice none 0 0]) rfl (by kernel_rfl) (by kernel_rfl) (by kernel_rfl) (fun _ _ _ h=>(by cases h.1)) (Or.inl ⟨by rfl,fun w hS=>by go_simp⟩) hS ?_
    try simp only [Act.put,zg1,zg2,zg3,zs1,zs2,zs3]
    refine wpAnyH_ready (rs:=[11]) (by kernel_rfl) (by simp) ?_
    refine ready_cons rfl (fun KK hKK=>?_) AllReadyH.nil
    have hne:=own_ne hO
    obtain⟨w4,hw4⟩:∃ W,W=w3.alloc (.cells #[.int .i64 0,.int .i64 0,.string ⟨#[]⟩,.slice none 0 0,.slice none 0 0,.slice none 0 0] 26):=⟨_,rfl⟩
    have b4:Below w3.heap.size w3 w4:=by rw [hw4];exact belowA _ _
    have sw4:Hid (w4.heap.size=w3.heap.size+1):=(by rw [hw4];simp:w4.heap.size=w3.heap.size+1)
    have hZ:Six w4 w3.heap.size (.int .i64 0) (.int .i64 0) (.string ⟨#[]⟩) (.slice none 0 0) (.slice none 0 0) (.slice none 0 0):=⟨by rw [hw4];exact heapNew _ _⟩
    have hSw4:Below n1 w1 w4:=hS.trans (b4.mono (by have:=sd.out;have:=sw2.out;have:=gw3.out;have:=sw4.out;omega))
    have Hw4:Hid (_=_):=hw4
    clear hw4
    refine⟨?_⟩
    go_simp
    rw [<- Hw4.out]
    refine hKK.out _ _ hSw4 (fun hS=>?_)
    clear hKK KK
    try simp only [Act.put,zg1,zg2,zg3,zs1,zs2,zs3]
    refine wpAnyH_ready (rs:=[12]) (by kernel_rfl) (by simp) ?_
    refine ready_cons rfl (fun KK hKK=>?_) AllReadyH.nil
    obtain⟨w5,hw5⟩:∃ W,W=(((((w4.setCell ⟨w3.heap.size,0,none⟩ (.int .i64 t.kind)).setCell ⟨w3.heap.size,1,none⟩ (.int .i64 t.n)).setCell ⟨w3.heap.size,2,none⟩ (.string t.name)).setCell ⟨w3.heap.size,3,none⟩ (.slice ra3 R rc3)).setCell ⟨w3.heap.size,4,none⟩ (.slice none 0 0)).setCell ⟨w3.heap.size,5,none⟩ (.slice none 0 0):=⟨_,rfl⟩
    have kst:Kn (fun q=>q≠w3.heap.size) w4 w5:=by rw [hw5];exact kn_set6 _ _ _ _ _ _ _ _
    have hSw5:Below n1 w1 w5:=hS.trans (kst.below (fun q hq=>by have:=sd.out;have:=sw2.out;have:=gw3.out;have:=sw4.out;omega) (by have:=sd.out;have:=sw2.out;have:=gw3.out;have:=sw4.out;omega))
    have hZ2:=hZ.set6 (.int .i64 t.kind) (.int .i64 t.n) (.string t.name) (.slice ra3 R rc3) (.slice none 0 0) (.slice none 0 0)
    rw [<- hw5] at hZ2
    obtain⟨z0,z1,z2,z3,z4,z5,zf⟩:=hZ.cells
    have f0:=zf 0
    have f1:=zf 1
    have f2:=zf 2
    have f3:=zf 3
    have f4:=zf 4
    have f5:=zf 5
    have Hw5:Hid (_=_):=hw5
    have HF:Hid (Half n1 (w3.heap.size) t.r [] w5 (.slice ra3 R rc3) (.slice none 0 0)):=half_start (owns_blw hO b4) hne (by have:=sd.out;have:=sw2.out;have:=gw3.out;have:=sw4.out;omega) kst
    clear hw5 zf
    refine⟨?_⟩
    go_simp
    rw [<- Hw5.out]
    refine hKK.out _ _ hSw5 (fun hS=>?_)
    clear hKK KK
    try simp only [Act.put,zg1,zg2,zg3,zs1,zs2,zs3]
    refine wpAnyH_done (by kernel_rfl) ?_ _
    refine⟨rfl,?_⟩
    go_wp2_with fail
    go_meet
    exact⟨_,_,_,rfl,hZ2,HF.out,hS⟩
   ·skip
    obtain⟨w3,hw3⟩:∃ W,W=w2.alloc (.cells #[.int .i64 0,.int .i64 0,.string ⟨#[]⟩,.slice none 0 0,.slice none 0 0,.slice none 0 0] 26):=⟨_,rfl⟩
    have b3:Below w2.heap.size w2 w3:=by rw [hw3];exact belowA _ _
    have sw3:Hid (w3.heap.size=w2.heap.size+1):=(by rw [hw3];simp:w3.heap.size=w2.heap.size+1)
    have hZ:Six w3 w2.heap.size (.int .i64 0) (.int .i64 0) (.string ⟨#[]⟩) (.slice none 0 0) (.slice none 0 0) (.slice none 0 0):=⟨by rw [hw3];exact heapNew _ _⟩
    have hSw3:Below n1 w1 w3:=hS.trans (b3.mono (by have:=sd.out;have:=sw2.out;have:=sw3.out;omega))
    have Hw3:Hid (_=_):=hw3
    clear hw3
    refine⟨?_⟩
    go_simp
    rw [<- Hw3.out]
    refine hKK.out _ _ hSw3 (fun hS=>?_)
    clear hKK KK
    try simp only [Act.put,zg1,zg2,zg3,zs1,zs2,zs3]
    have hE3:=owns_blw hE b3
    refine wpAnyH_ready (rs:=[9]) (by kernel_rfl) (by simp) ?_
    refine ready_cons rfl (fun KK hKK=>?_) AllReadyH.nil
    obtain⟨vr,w4,hrun,hO,hg,hv⟩:=append_row 22 hE3 (HR0.out w3 hS) (by have:=HL.out.1;simp;omega) (by have:=sd.out;have:=sw2.out;have:=sw3.out;omega)
    have gw4:Hid (w3.heap.size<=w4.heap.size):=hg.size
    have bw4:Below n1 w3 w4:=own_grown hE3 hg (by have:=sd.out;have:=sw2.out;have:=sw3.out;have:=gw4.out;omega)
    have hSw4:Below n1 w1 w4:=hS.trans bw4
    rw [List.nil_append] at hO
    obtain⟨ra3,rc3,rfl⟩:=OwnsC.len hO
    rw [<- HL.out.1] at hrun hO hv
    refine⟨step_append rfl _ _ _ rfl _ _ _ _ rfl rfl hrun ?_⟩
    refine hKK.out _ _ hSw4 (fun hS=>?_)
    clear hKK KK
    try simp only [Act.put,zg1,zg2,zg3,zs1,zs2,zs3]
    refine wpAnyH_take (i:=10) (v:=.agg #[.int .i64 t.kind,.int .i64 t.n,.string t.name,.slice ra3 R rc3,.slice none 0 0,.slice none 0 0]) rfl (by kernel_rfl) (by kernel_rfl) (by kernel_rfl) (fun _ _ _ h=>(by cases h.1)) (Or.inl ⟨by rfl,fun w hS=>by go_simp⟩) hS ?_
    try simp only [Act.put,zg1,zg2,zg3,zs1,zs2,zs3]
    have hZ:=hZ.grown hg (fun e=>by have e:some (wd.heap.size)=some (w2.heap.size):=e;injection e with e;have:=sd.out;have:=sw2.out;have:=sw3.out;have:=gw4.out;omega)
    refine wpAnyH_ready (rs:=[12]) (by kernel_rfl) (by simp) ?_
    refine ready_cons rfl (fun KK hKK=>?_) AllReadyH.nil
    obtain⟨w5,hw5⟩:∃ W,W=(((((w4.setCell ⟨w2.heap.size,0,none⟩ (.int .i64 t.kind)).setCell ⟨w2.heap.size,1,none⟩ (.int .i64 t.n)).setCell ⟨w2.heap.size,2,none⟩ (.string t.name)).setCell ⟨w2.heap.size,3,none⟩ (.slice ra3 R rc3)).setCell ⟨w2.heap.size,4,none⟩ (.slice none 0 0)).setCell ⟨w2.heap.size,5,none⟩ (.slice none 0 0):=⟨_,rfl⟩
    have kst:Kn (fun q=>q≠w2.heap.size) w4 w5:=by rw [hw5];exact kn_set6 _ _ _ _ _ _ _ _
    have hSw5:Below n1 w1 w5:=hS.trans (kst.below (fun q hq=>by have:=sd.out;have:=sw2.out;have:=sw3.out;have:=gw4.out;omega) (by have:=sd.out;have:=sw2.out;have:=sw3.out;have:=gw4.out;omega))
    have hZ2:=hZ.set6 (.int .i64 t.kind) (.int .i64 t.n) (.string t.name) (.slice ra3 R rc3) (.slice none 0 0) (.slice none 0 0)
    rw [<- hw5] at hZ2
    obtain⟨z0,z1,z2,z3,z4,z5,zf⟩:=hZ.cells
    have f0:=zf 0
    have f1:=zf 1
    have f2:=zf 2
    have f3:=zf 3
    have f4:=zf 4
    have f5:=zf 5
    have Hw5:Hid (_=_):=hw5
    have HF:Hid (Half n1 (w2.heap.size) t.r [] w5 (.slice ra3 R rc3) (.slice none 0 0)):=half_start hO (own_next hv (fun e=>by have e:some (wd.heap.size)=some (w2.heap.size):=e;injection e with e;have:=sd.out;have:=sw2.out;have:=sw3.out;have:=gw4.out;omega) (by have:=sd.out;have:=sw2.out;have:=sw3.out;have:=gw4.out;omega)) (by have:=sd.out;have:=sw2.out;have:=sw3.out;have:=gw4.out;omega) kst
    clear hw5 zf
    refine⟨?_⟩
    go_simp
    rw [<- Hw5.out]
    refine hKK.out _ _ hSw5 (fun hS=>?_)
    clear hKK KK
    try simp only [Act.put,zg1,zg2,zg3,zs1,zs2,zs3]
    refine wpAnyH_done (by kernel_rfl) ?_ _
    refine⟨rfl,?_⟩
    go_wp2_with fail
    go_meet
    exact⟨_,_,_,rfl,hZ2,HF.out,hS⟩
  ·skip
   obtain⟨w2,hw2⟩:∃ W,W=wd.alloc (.cells #[.int .i64 0,.int .i64 0,.string ⟨#[]⟩,.slice none 0 0,.slice none 0 0,.slice none 0 0] 26):=⟨_,rfl⟩
   have b2:Below wd.heap.size wd w2:=by rw [hw2];exact belowA _ _
   have sw2:Hid (w2.heap.size=wd.heap.size+1):=(by rw [hw2];simp:w2.heap.size=wd.heap.size+1)
   have hZ:Six w2 wd.heap.size (.int .i64 0) (.int .i64 0) (.string ⟨#[]⟩) (.slice none 0 0) (.slice none 0 0) (.slice none 0 0):=⟨by rw [hw2];exact heapNew _ _⟩
   have hSw2:Below n1 w1 w2:=hS.trans (b2.mono (by have:=sd.out;have:=sw2.out;omega))
   have Hw2:Hid (_=_):=hw2
   clear hw2
   refine⟨?_⟩
   go_simp
   rw [<- Hw2.out]
   refine hKK.out _ _ hSw2 (fun hS=>?_)
   clear hKK KK
   try simp only [Act.put,zg1,zg2,zg3,zs1,zs2,zs3]
   refine wpAnyH_ready (rs:=[6]) (by kernel_rfl) (by simp) ?_
   refine ready_cons rfl (fun KK hKK=>?_) AllReadyH.nil
   obtain⟨w3,hw3⟩:∃ W,W=w2.alloc (.cells #[] 38):=⟨_,rfl⟩
   have b3:Below w2.heap.size w2 w3:=by rw [hw3];exact belowA _ _
   have sw3:Hid (w3.heap.size=w2.heap.size+1):=(by rw [hw3];simp:w3.heap.size=w2.heap.size+1)
   have hE:OwnsC w3 n1 (.slice (some ⟨w2.heap.size,0,none⟩) 0 0) []:=by rw [hw3];exact empty_own w2 n1 (by have:=sd.out;have:=sw2.out;have:=sw3.out;omega)
   have hSw3:Below n1 w1 w3:=hS.trans (b3.mono (by have:=sd.out;have:=sw2.out;have:=sw3.out;omega))
   have Hw3:Hid (_=_):=hw3
   clear hw3
   refine⟨?_⟩
   go_simp
   rw [<- Hw3.out]
   refine hKK.out _ _ hSw3 (fun hS=>?_)
   clear hKK KK
   try simp only [Act.put,zg1,zg2,zg3,zs1,zs2,zs3]
   refine wpAnyH_ready (rs:=[9]) (by kernel_rfl) (by simp) ?_
   refine ready_cons rfl (fun KK hKK=>?_) AllReadyH.nil
   obtain⟨vr,w4,hrun,hO,hg,hv⟩:=append_row 22 hE (HR0.out w3 hS) (by have:=HL.out.1;simp;omega) (by have:=sd.out;have:=sw2.out;have:=sw3.out;omega)
   have gw4:Hid (w3.heap.size<=w4.heap.size):=hg.size
   have bw4:Below n1 w3 w4:=own_grown hE hg (by have:=sd.out;have:=sw2.out;have:=sw3.out;have:=gw4.out;omega)
   have hSw4:Below n1 w1 w4:=hS.trans bw4
   rw [List.nil_append] at hO
   obtain⟨ra3,rc3,rfl⟩:=OwnsC.len hO
   rw [<- HL.out.1] at hrun hO hv
   refine⟨step_append rfl _ _ _ rfl _ _ _ _ rfl rfl hrun ?_⟩
   refine hKK.out _ _ hSw4 (fun hS=>?_)
   clear hKK KK
   try simp only [Act.put,zg1,zg2,zg3,zs1,zs2,zs3]
   refine wpAnyH_take (i:=10) (v:=.agg #[.int .i64 t.kind,.int .i64 t.n,.string t.name,.slice ra3 R rc3,.slice none 0 0,.slice none 0 0]) rfl (by kernel_rfl) (by kernel_rfl) (by kernel_rfl) (fun _ _ _ h=>(by cases h.1)) (Or.inl ⟨by rfl,fun w hS=>by go_simp⟩) hS ?_
   try simp only [Act.put,zg1,zg2,zg3,zs1,zs2,zs3]
   have hZ:=(hZ.blw b3).grown hg (fun e=>by have e:some (w2.heap.size)=some (wd.heap.size):=e;injection e with e;have:=sd.out;have:=sw2.out;have:=sw3.out;have:=gw4.out;omega)
   refine wpAnyH_ready (rs:=[12]) (by kernel_rfl) (by simp) ?_
   refine ready_cons rfl (fun KK hKK=>?_) AllReadyH.nil
   obtain⟨w5,hw5⟩:∃ W,W=(((((w4.setCell ⟨wd.heap.size,0,none⟩ (.int .i64 t.kind)).setCell ⟨wd.heap.size,1,none⟩ (.int .i64 t.n)).setCell ⟨wd.heap.size,2,none⟩ (.string t.name)).setCell ⟨wd.heap.size,3,none⟩ (.slice ra3 R rc3)).setCell ⟨wd.heap.size,4,none⟩ (.slice none 0 0)).setCell ⟨wd.heap.size,5,none⟩ (.slice none 0 0):=⟨_,rfl⟩
   have kst:Kn (fun q=>q≠wd.heap.size) w4 w5:=by rw [hw5];exact kn_set6 _ _ _ _ _ _ _ _
   have hSw5:Below n1 w1 w5:=hS.trans (kst.below (fun q hq=>by have:=sd.out;have:=sw2.out;have:=sw3.out;have:=gw4.out;omega) (by have:=sd.out;have:=sw2.out;have:=sw3.out;have:=gw4.out;omega))
   have hZ2:=hZ.set6 (.int .i64 t.kind) (.int .i64 t.n) (.string t.name) (.slice ra3 R rc3) (.slice none 0 0) (.slice none 0 0)
   rw [<- hw5] at hZ2
   obtain⟨z0,z1,z2,z3,z4,z5,zf⟩:=hZ.cells
   have f0:=zf 0
   have f1:=zf 1
   have f2:=zf 2
   have f3:=zf 3
   have f4:=zf 4
   have f5:=zf 5
   have Hw5:Hid (_=_):=hw5
   have HF:Hid (Half n1 (wd.heap.size) t.r [] w5 (.slice ra3 R rc3) (.slice none 0 0)):=half_start hO (own_next hv (fun e=>by have e:some (w2.heap.size)=some (wd.heap.size):=e;injection e with e;have:=sd.out;have:=sw2.out;have:=sw3.out;have:=gw4.out;omega) (by have:=sd.out;have:=sw2.out;have:=sw3.out;have:=gw4.out;omega)) (by have:=sd.out;have:=sw2.out;have:=sw3.out;have:=gw4.out;omega) kst
   clear hw5 zf
   refine⟨?_⟩
   go_simp
   rw [<- Hw5.out]
   refine hKK.out _ _ hSw5 (fun hS=>?_)
   clear hKK KK
   try simp only [Act.put,zg1,zg2,zg3,zs1,zs2,zs3]
   refine wpAnyH_done (by kernel_rfl) ?_ _
   refine⟨rfl,?_⟩
   go_wp2_with fail
   go_meet
   exact⟨_,_,_,rfl,hZ2,HF.out,hS⟩
 case rest =>
 obtain⟨o,ra0,rc0,rfl,hO0,hH0,hS0⟩:=hcut
 clear HR0 hS1
 have hno:n1<=o:=hH0.ge
 go_wp2_with fail
 go_loopw [4] (fun i wr=>∃ (k:Nat) (a:Option Addr) (c:Nat),k<=L/\i=.int .i64 k/\Six wr o (.int .i64 t.kind) (.int .i64 t.n) (.string t.name) (.slice ra0 R rc0) (.slice a k c) (.slice none 0 0)/\Half n1 o t.r (t.kids.take k) wr (.slice ra0 R rc0) (.slice a k c)/\Below n1 w1 wr) (fun i _=>L - (intOf i).toNat)
 case atStart=>exact⟨0,none,0,Nat.zero_le _,rfl,hO0,hH0,hS0⟩
 case round =>
  obtain⟨wo,hwo⟩:∃ wo,wo=wr:=⟨_,rfl⟩
  subst hwo
  clear hO0 hH0 hS0
  obtain⟨k,ka0,kc0,hk,rfl,hO,hH,hSo⟩:=hrel
  have hso:n1<=wo.heap.size:=by rw [Hn1.out];exact hSo.size
  have holt:=hO.lt
  have x4:=(HX.out wo hSo).cells.2.2.2.2.1
  by_cases hlt:k<L
  ·have hkI:(k:Int) < (L:Int):=by omega
   obtain⟨y,hy⟩:=someL (l:=t.kids) (k:=k) (by rw [<- HL.out.2.1];exact hlt)
   have hby:blk y<blk t:=blk_kid (List.mem_of_getElem? hy)
   obtain⟨g1,off1,ra1,rc1,ka1,kc1,sa1,sc1,rfl,_,h61,hty⟩:=(HT.out w1 (Below.refl _ _)).kids.at hy
   have HQ:Hid (∀ W,Below n1 w1 W->Cs6 W g1 (off1+k*6) y ra1 rc1 ka1 kc1 sa1 sc1):=fun W q=>h61.keep q.size (q.block g1 (by rw [Hn1.out];exact h61.lt))
   obtain⟨wd,hwd⟩:∃ W,W=wo.drew:=⟨_,rfl⟩
   have hbd:Below wo.heap.size wo wd:=by rw [hwd];exact (Below.refl _ _).drew
   have ssd:wd.heap.size=wo.heap.size:=by rw [hwd];rfl
   have hSd:Below n1 w1 wd:=by rw [hwd];exact hSo.drew
   have cc:=IH y _ wd (hty.blw (by rw [<- Hn1.out];exact hSd)).value (by omega) (by omega)
   have l0:wd.cell? ⟨o,4,none⟩=some (.slice ka0 k kc0):=by rw [hwd];exact hO.cells.2.2.2.2.1
   rw [ssd] at cc
   have Hwd:Hid (_=_):=hwd
   clear hty h61
   go_upto_region 5 with fail
   clear x4
   refine region_nrm (S:=fun W=>Below n1 w1 W) (by kernel_rfl) (by rw [<- Hwd.out];exact hSd) (fun hS=>?_)
   rw [<- Hwd.out] at hS ⊢
   clear ssd hwd
   refine wpAnyH_take (i:=0) (v:=.pointer (some ⟨o,4,none⟩)) rfl (by kernel_rfl) (by kernel_rfl) (by kernel_rfl) (fun _ _ _ h=>(by cases h.1)) (Or.inl ⟨by rfl,fun w hS=>by go_simp⟩) hS ?_
   try simp only [Act.put,zg1,zg2,zg3,zs1,zs2,zs3]
   refine wpAnyH_take (i:=2) (v:=.pointer (some ⟨X,4,none⟩)) rfl (by kernel_rfl) (by kernel_rfl) (by kernel_rfl) (fun _ _ _ h=>(by cases h.1)) (Or.inl ⟨by rfl,fun w hS=>by go_simp⟩) hS ?_
   try simp only [Act.put,zg1,zg2,zg3,zs1,zs2,zs3]
   refine wpAnyH_take (i:=3) (v:=.slice (some ⟨g1,off1,none⟩) L kc) rfl (by kernel_rfl) (by kernel_rfl) (by kernel_rfl) (fun _ _ _ h=>(by cases h.1)) (Or.inl ⟨by rfl,fun w hS=>by have e:=(HX.out w hS).cells.2.2.2.2.1;go_simp⟩) hS ?_
   try simp only [Act.put,zg1,zg2,zg3,zs1,zs2,zs3]
   refine wpAnyH_take (i:=4) (v:=.int .i64 k) rfl (by kernel_rfl) (by kernel_rfl) (by kernel_rfl) (fun _ _ _ h=>(by cases h.1)) (Or.inl ⟨by rfl,fun w hS=>by go_simp⟩) hS ?_
   try simp only [Act.put,zg1,zg2,zg3,zs1,zs2,zs3]
   refine wpAnyH_take (i:=5) (v:=.pointer (some ⟨g1,off1+k*6,none⟩)) rfl (by kernel_rfl) (by kernel_rfl) (by kernel_rfl) (fun _ _ _ h=>(by cases h.1)) (Or.inl ⟨by rfl,fun w hS=>by go_simp⟩) hS ?_
   try simp only [Act.put,zg1,zg2,zg3,zs1,zs2,zs3]
   refine wpAnyH_take (i:=6) (v:=.agg #[.int .i64 y.kind,.int .i64 y.n,.string y.name,.slice ra1 y.r.length rc1,.slice ka1 y.kids.length kc1,.slice sa1 y.sys.length sc1]) rfl (by kernel_rfl) (by kernel_rfl) (by kernel_rfl) (fun _ _ _ h=>(by cases h.1)) (Or.inl ⟨by rfl,fun w hS=>by obtain⟨_,c0,c1,c2,c3,c4,c5⟩:=HQ.out w hS;go_simp⟩) hS ?_
   try simp only [Act.put,zg1,zg2,zg3,zs1,zs2,zs3]
   refine wpAnyH_ready (rs:=[1,7]) (by kernel_rfl) (by simp) ?_
   refine ready_cons rfl (fun KK hKK=>?_) (ready_cons rfl (fun KK hKK=>?_) AllReadyH.nil)
   ·skip
    refine⟨?_⟩
    have ex:=l0
    go_simp
    refine hKK.out _ _ hS (fun hS=>?_)
    clear hKK KK
    try simp only [Act.put,zg1,zg2,zg3,zs1,zs2,zs3]
    clear ex
    refine wpAnyH_ready (rs:=[7]) (by kernel_rfl) (by simp) ?_
    refine ready_cons rfl (fun KK hKK=>?_) AllReadyH.nil
    refine⟨?_⟩
    go_simp
    refine cc.mono ?_
    rintro e w2 ⟨v2,rfl,hv2,hb2⟩
    clear cc
    have hb2:Below wo.heap.size wo w2:=hbd.trans hb2
    obtain⟨ra2,rc2,ka2,kc2,sa2,sc2,rfl,ht2⟩:=hv2.form
    have hnx:=hH.next (u:=(.int .i64 y.kind,.int .i64 y.n,.string y.name,.slice ra2 y.r.length rc2,.slice ka2 y.kids.length kc2,.slice sa2 y.sys.length sc2)) 23 hso holt hb2 ht2.value (by rw [List.length_take];omega)
    obtain⟨w3,hw3⟩:∃ W,W=w2.alloc (.cells #[.int .i64 y.kind,.int .i64 y.n,.string y.name,.slice ra2 y.r.length rc2,.slice ka2 y.kids.length kc2,.slice sa2 y.sys.length sc2] 26):=⟨_,rfl⟩
    dsimp only at hnx
    rw [<- hw3] at hnx
    obtain⟨vk4,w4,hrun,hH4,hB4,ho4⟩:=hnx
    rw [show t.kids.take k ++ [y]=t.kids.take (k+1) by rw [List.take_add_one,hy];rfl] at hH4
    obtain⟨ka4,kc4,hvk4⟩:=hH4.kids.len
    rw [show (t.kids.take (k+1)).length=k+1 by rw [List.length_take];have:=some_lt hy;omega] at hvk4
    subst hvk4
    have b3:Below w2.heap.size w2 w3:=by rw [hw3];exact belowA _ _
    have hO4:Six w4 o (.int .i64 t.kind) (.int .i64 t.n) (.string t.name) (.slice ra0 R rc0) (.slice ka0 k kc0) (.slice none 0 0):=⟨ho4.trans hO.blk⟩
    obtain⟨w5,hw5⟩:∃ W,W=w4.setCell ⟨o,4,none⟩ (.slice ka4 (k+1) kc4):=⟨_,rfl⟩
    have k5:Kn (fun q=>q≠o) w4 w5:=by rw [hw5];exact kn_set _ _ _ _
    have hO5:Six w5 o (.int .i64 t.kind) (.int .i64 t.n) (.string t.name) (.slice ra0 R rc0) (.slice ka4 (k+1) kc4) (.slice none 0 0):=by rw [hw5];exact hO4.set4 _
    have hH5:=hH4.set k5
    have hB5:Below n1 wo w5:=hB4.trans (k5.below (fun q hq=>by omega) (by have:=hB4.size;omega))
    have hS2:Below n1 w1 w2:=hSo.trans (hb2.mono hso)
    have hS3:Below n1 w1 w3:=hS2.trans (b3.mono (by have:=hb2.size;omega))
    have hS4:Below n1 w1 w4:=hSo.trans (hB4.mono (Nat.le_refl _))
    have hS5:Below n1 w1 w5:=hSo.trans (hB5.mono (Nat.le_refl _))
    have l2:Six w2 o (.int .i64 t.kind) (.int .i64 t.n) (.string t.name) (.slice ra0 R rc0) (.slice ka0 k kc0) (.slice none 0 0):=hO.blw hb2
    have l3:Six w3 o (.int .i64 t.kind) (.int .i64 t.n) (.string t.name) (.slice ra0 R rc0) (.slice ka0 k kc0) (.slice none 0 0):=l2.blw b3
    have q2:=l2.cells.2.2.2.2.1
    have q3:=l3.cells.2.2.2.2.1
    have q4:=hO4.cells.2.2.2.2.1
    have f4:=hO4.cells.2.2.2.2.2.2 4
    have H3:Hid (_=_):=hw3
    have H5:Hid (_=_):=hw5
    clear hw3 hw5 hv2 ht2 l2 l3 hO4 hH4 hb2 b3 ho4 k5
    refine hKK.out _ _ hS2 (fun hS=>?_)
    clear hKK KK
    try simp only [Act.put,zg1,zg2,zg3,zs1,zs2,zs3]
    refine wpAnyH_ready (rs:=[8]) (by kernel_rfl) (by simp) ?_
    refine ready_cons rfl (fun KK hKK=>?_) AllReadyH.nil
    refine⟨?_⟩
    go_simp
    rw [<- H3.out]
    refine hKK.out _ _ hS3 (fun hS=>?_)
    clear hKK KK
    try simp only [Act.put,zg1,zg2,zg3,zs1,zs2,zs3]
    refine wpAnyH_ready (rs:=[9]) (by kernel_rfl) (by simp) ?_
    refine ready_cons rfl (fun KK hKK=>?_) AllReadyH.nil
    refine⟨step_append rfl _ _ _ rfl _ _ _ _ rfl rfl hrun ?_⟩
    refine hKK.out _ _ hS4 (fun hS=>?_)
    clear hKK KK
    try simp only [Act.put,zg1,zg2,zg3,zs1,zs2,zs3]
    refine wpAnyH_take (i:=10) (v:=.pointer (some ⟨o,4,none⟩)) rfl (by kernel_rfl) (by kernel_rfl) (by kernel_rfl) (fun _ _ _ h=>(by cases h.1)) (Or.inl ⟨by rfl,fun w hS=>by go_simp⟩) hS ?_
    try simp only [Act.put,zg1,zg2,zg3,zs1,zs2,zs3]
    refine wpAnyH_ready (rs:=[11]) (by kernel_rfl) (by simp) ?_
    refine ready_cons rfl (fun KK hKK=>?_) AllReadyH.nil
    refine⟨?_⟩
    go_simp
    rw [<- H5.out]
    refine hKK.out _ _ hS5 (fun hS=>?_)
    clear hKK KK
    try simp only [Act.put,zg1,zg2,zg3,zs1,zs2,zs3]
    refine wpAnyH_done (by kernel_rfl) ?_ _
    refine⟨rfl,?_⟩
    go_wp2_with fail
    go_roundw
    case rel=>exact⟨k+1,_,_,by omega,by go_num,hO5,hH5,hS5⟩
    case measure=>simp [intOf];omega
   ·skip
    refine⟨?_⟩
    go_simp
    refine cc.mono ?_
    rintro e w2 ⟨v2,rfl,hv2,hb2⟩
    clear cc
    have hb2:Below wo.heap.size wo w2:=hbd.trans hb2
    obtain⟨ra2,rc2,ka2,kc2,sa2,sc2,rfl,ht2⟩:=hv2.form
    have hnx:=hH.next (u:=(.int .i64 y.kind,.int .i64 y.n,.string y.name,.slice ra2 y.r.length rc2,.slice ka2 y.kids.length kc2,.slice sa2 y.sys.length sc2)) 23 hso holt hb2 ht2.value (by rw [List.length_take];omega)
    obtain⟨w3,hw3⟩:∃ W,W=w2.alloc (.cells #[.int .i64 y.kind,.int .i64 y.n,.string y.name,.slice ra2 y.r.length rc2,.slice ka2 y.kids.length kc2,.slice sa2 y.sys.length sc2] 26):=⟨_,rfl⟩
    dsimp only at hnx
    rw [<- hw3] at hnx
    obtain⟨vk4,w4,hrun,hH4,hB4,ho4⟩:=hnx
    rw [show t.kids.take k ++ [y]=t.kids.take (k+1) by rw [List.take_add_one,hy];rfl] at hH4
    obtain⟨ka4,kc4,hvk4⟩:=hH4.kids.len
    rw [show (t.kids.take (k+1)).length=k+1 by rw [List.length_take];have:=some_lt hy;omega] at hvk4
    subst hvk4
    have b3:Below w2.heap.size w2 w3:=by rw [hw3];exact belowA _ _
    have hO4:Six w4 o (.int .i64 t.kind) (.int .i64 t.n) (.string t.name) (.slice ra0 R rc0) (.slice ka0 k kc0) (.slice none 0 0):=⟨ho4.trans hO.blk⟩
    obtain⟨w5,hw5⟩:∃ W,W=w4.setCell ⟨o,4,none⟩ (.slice ka4 (k+1) kc4):=⟨_,rfl⟩
    have k5:Kn (fun q=>q≠o) w4 w5:=by rw [hw5];exact kn_set _ _ _ _
    have hO5:Six w5 o (.int .i64 t.kind) (.int .i64 t.n) (.string t.name) (.slice ra0 R rc0) (.slice ka4 (k+1) kc4) (.slice none 0 0):=by rw [hw5];exact hO4.set4 _
    have hH5:=hH4.set k5
    have hB5:Below n1 wo w5:=hB4.trans (k5.below (fun q hq=>by omega) (by have:=hB4.size;omega))
    have hS2:Below n1 w1 w2:=hSo.trans (hb2.mono hso)
    have hS3:Below n1 w1 w3:=hS2.trans (b3.mono (by have:=hb2.size;omega))
    have hS4:Below n1 w1 w4:=hSo.trans (hB4.mono (Nat.le_refl _))
    have hS5:Below n1 w1 w5:=hSo.trans (hB5.mono (Nat.le_refl _))
    have l2:Six w2 o (.int .i64 t.kind) (.int .i64 t.n) (.string t.name) (.slice ra0 R rc0) (.slice ka0 k kc0) (.slice none 0 0):=hO.blw hb2
    have l3:Six w3 o (.int .i64 t.kind) (.int .i64 t.n) (.string t.name) (.slice ra0 R rc0) (.slice ka0 k kc0) (.slice none 0 0):=l2.blw b3
    have q2:=l2.cells.2.2.2.2.1
    have q3:=l3.cells.2.2.2.2.1
    have q4:=hO4.cells.2.2.2.2.1
    have f4:=hO4.cells.2.2.2.2.2.2 4
    have H3:Hid (_=_):=hw3
    have H5:Hid (_=_):=hw5
    clear hw3 hw5 hv2 ht2 l2 l3 hO4 hH4 hb2 b3 ho4 k5
    refine hKK.out _ _ hS2 (fun hS=>?_)
    clear hKK KK
    try simp only [Act.put,zg1,zg2,zg3,zs1,zs2,zs3]
    refine wpAnyH_ready (rs:=[1,8]) (by kernel_rfl) (by simp) ?_
    refine ready_cons rfl (fun KK hKK=>?_) (ready_cons rfl (fun KK hKK=>?_) AllReadyH.nil)
    ·skip
     refine⟨?_⟩
     have ex:=q2
     go_simp
     refine hKK.out _ _ hS (fun hS=>?_)
     clear hKK KK
     try simp only [Act.put,zg1,zg2,zg3,zs1,zs2,zs3]
     clear ex
     refine wpAnyH_ready (rs:=[8]) (by kernel_rfl) (by simp) ?_
     refine ready_cons rfl (fun KK hKK=>?_) AllReadyH.nil
     refine⟨?_⟩
     go_simp
     rw [<- H3.out]
     refine hKK.out _ _ hS3 (fun hS=>?_)
     clear hKK KK
     try simp only [Act.put,zg1,zg2,zg3,zs1,zs2,zs3]
     refine wpAnyH_ready (rs:=[9]) (by kernel_rfl) (by simp) ?_
     refine ready_cons rfl (fun KK hKK=>?_) AllReadyH.nil
     refine⟨step_append rfl _ _ _ rfl _ _ _ _ rfl rfl hrun ?_⟩
     refine hKK.out _ _ hS4 (fun hS=>?_)
     clear hKK KK
     try simp only [Act.put,zg1,zg2,zg3,zs1,zs2,zs3]
     refine wpAnyH_take (i:=10) (v:=.pointer (some ⟨o,4,none⟩)) rfl (by kernel_rfl) (by kernel_rfl) (by kernel_rfl) (fun _ _ _ h=>(by cases h.1)) (Or.inl ⟨by rfl,fun w hS=>by go_simp⟩) hS ?_
     try simp only [Act.put,zg1,zg2,zg3,zs1,zs2,zs3]
     refine wpAnyH_ready (rs:=[11]) (by kernel_rfl) (by simp) ?_
     refine ready_cons rfl (fun KK hKK=>?_) AllReadyH.nil
     refine⟨?_⟩
     go_simp
     rw [<- H5.out]
     refine hKK.out _ _ hS5 (fun hS=>?_)
     clear hKK KK
     try simp only [Act.put,zg1,zg2,zg3,zs1,zs2,zs3]
     refine wpAnyH_done (by kernel_rfl) ?_ _
     refine⟨rfl,?_⟩
     go_wp2_with fail
     go_roundw
     case rel=>exact⟨k+1,_,_,by omega,by go_num,hO5,hH5,hS5⟩
     case measure=>simp [intOf];omega
    ·skip
     refine⟨?_⟩
     go_simp
     rw [<- H3.out]
     refine hKK.out _ _ hS3 (fun hS=>?_)
     clear hKK KK
     try simp only [Act.put,zg1,zg2,zg3,zs1,zs2,zs3]
     refine wpAnyH_ready (rs:=[1]) (by kernel_rfl) (by simp) ?_
     refine ready_cons rfl (fun KK hKK=>?_) AllReadyH.nil
     refine⟨?_⟩
     have ex:=q3
     go_simp
     refine hKK.out _ _ hS (fun hS=>?_)
     clear hKK KK
     try simp only [Act.put,zg1,zg2,zg3,zs1,zs2,zs3]
     clear ex
     refine wpAnyH_ready (rs:=[9]) (by kernel_rfl) (by simp) ?_
     refine ready_cons rfl (fun KK hKK=>?_) AllReadyH.nil
     refine⟨step_append rfl _ _ _ rfl _ _ _ _ rfl rfl hrun ?_⟩
     refine hKK.out _ _ hS4 (fun hS=>?_)
     clear hKK KK
     try simp only [Act.put,zg1,zg2,zg3,zs1,zs2,zs3]
     refine wpAnyH_take (i:=10) (v:=.pointer (some ⟨o,4,none⟩)) rfl (by kernel_rfl) (by kernel_rfl) (by kernel_rfl) (fun _ _ _ h=>(by cases h.1)) (Or.inl ⟨by rfl,fun w hS=>by go_simp⟩) hS ?_
     try simp only [Act.put,zg1,zg2,zg3,zs1,zs2,zs3]
     refine wpAnyH_ready (rs:=[11]) (by kernel_rfl) (by simp) ?_
     refine ready_cons rfl (fun KK hKK=>?_) AllReadyH.nil
     refine⟨?_⟩
     go_simp
     rw [<- H5.out]
     refine hKK.out _ _ hS5 (fun hS=>?_)
     clear hKK KK
     try simp only [Act.put,zg1,zg2,zg3,zs1,zs2,zs3]
     refine wpAnyH_done (by kernel_rfl) ?_ _
     refine⟨rfl,?_⟩
     go_wp2_with fail
     go_roundw
     case rel=>exact⟨k+1,_,_,by omega,by go_num,hO5,hH5,hS5⟩
     case measure=>simp [intOf];omega
  ·have hkI:¬ (k:Int) < (L:Int):=by omega
   obtain rfl:k=L:=by omega
   have hW0:Whole n1 o t 0 wo (.slice ra0 R rc0) (.slice ka0 k kc0) (.slice none 0 0):=by
    rw [List.take_of_length_le (by rw [<- HL.out.2.1];exact Nat.le_refl _)] at hH
    exact hH.all
   go_wp2_with fail
   clear x4
   go_loopw [5] (fun i wr=>∃ (j:Nat) (a:Option Addr) (c:Nat),j<=M/\i=.int .i64 j/\Six wr o (.int .i64 t.kind) (.int .i64 t.n) (.string t.name) (.slice ra0 R rc0) (.slice ka0 k kc0) (.slice a j c)/\Whole n1 o t j wr (.slice ra0 R rc0) (.slice ka0 k kc0) (.slice a j c)/\Below n1 w1 wr) (fun i _=>M - (intOf i).toNat)
   case atStart=>exact⟨0,none,0,Nat.zero_le _,rfl,hO,hW0,hSo⟩
   case round =>
    obtain⟨wq,hwq⟩:∃ wq,wq=wr:=⟨_,rfl⟩
    subst hwq
    clear hkI hO hH hSo hW0 hlt hk hso holt
    obtain⟨i,sa0,sc0,hi,rfl,hOq,hWq,hSq⟩:=hrel
    have hsq:n1<=wq.heap.size:=by rw [Hn1.out];exact hSq.size
    have hoq:=hOq.lt
    have x5:=(HX.out wq hSq).cells.2.2.2.2.2.1
    by_cases hlt:i<M
    ·have hkI:(i:Int) < (M:Int):=by omega
     obtain⟨b,hb⟩:=someL (l:=t.sys) (k:=i) (by rw [<- HL.out.2.2];exact hlt)
     have hbr:=blk_br (List.mem_of_getElem? hb)
     have hbl:=blkL_len b.2
     have HBm:Hid (b∈t.sys):=List.mem_of_getElem? hb
     have HBi:Hid (t.sys[i]? = some b):=hb
     obtain⟨gs,offs,fa1,fc1,kb1,kbc1,rfl,_,h21,hF1,hK1⟩:=(HT.out w1 (Below.refl _ _)).sys.at hb
     obtain⟨F,hF⟩:∃ F,F=b.1.length:=⟨_,rfl⟩
     obtain⟨K,hK⟩:∃ K,K=b.2.length:=⟨_,rfl⟩
     have HFK:Hid (F=b.1.length/\K=b.2.length):=⟨hF,hK⟩
     have HQ2:Hid (∀ W,Below n1 w1 W->W.cell? ⟨gs,offs+i*2,none⟩=some (.slice fa1 F fc1)/\W.cell? ⟨gs,offs+i*2+1,none⟩=some (.slice kb1 K kbc1)):=fun W q=>by
      rw [hF,hK]
      have:=h21.keep q.size (q.block gs (by rw [Hn1.out];exact h21.lt))
      exact⟨this.c0,this.c1⟩
     have HKd:Hid (KdT Tt w1 (TmIn Tt w1) b.2 (.slice kb1 b.2.length kbc1)):=hK1
     have HCr:Hid (∀ W,Below n1 w1 W->CRow W (.slice fa1 F fc1) b.1):=fun W q=>by rw [hF];exact (hF1.blw (w':=W) (by rw [<- Hn1.out];exact q)).row
     have hKb:K<=100000:=by omega
     have hFb:F<=100000:=by omega
     obtain⟨c0,c1⟩:=HQ2.out wq hSq
     obtain⟨n0,hn0⟩:∃ n,n=wq.heap.size:=⟨_,rfl⟩
     have Hn0:Hid (n0=wq.heap.size):=hn0
     have hE:=empty_own wq n0 (by omega)
     have hB2:=belowA wq (.cells #[] 38)
     have s2:(wq.alloc (.cells #[] 38)).heap.size=n0+1:=by simp;omega
     have hSq2:Below n1 w1 (wq.alloc (.cells #[] 38)):=hSq.trans (hB2.mono (by omega))
     have x52:=(HX.out _ hSq2).cells.2.2.2.2.2.1
     obtain⟨d0,d1⟩:=HQ2.out _ hSq2
     clear h21 hF1 hK1 hF hK hn0 hbl hb
     obtain⟨v4,w4,hrun,hO4,hg4,hv4⟩:=append_row 22 hE (HCr.out _ hSq2) (by have:=HFK.out.1;simp;omega) (by omega)
     rw [List.nil_append] at hO4
     obtain⟨fa4,fc4,rfl⟩:=OwnsC.len hO4
     rw [<- HFK.out.1] at hO4 hv4 hrun
     have Hg4:Hid (_/\_):=(⟨hO4,hg4⟩:_/\_)
     have Hs2:Hid (_=_):=s2
     clear hO4 hg4 hv4 s2
     go_upto_region 10 with (at_builtin;refine wpList_append_run rfl _ _ _ rfl _ _ _ _ rfl rfl hrun ?_)
     obtain⟨hO4,hg4⟩:=Hg4.out
     have s2:=Hs2.out
     clear c0 c1 d0 d1 x5 x52
     have e0:=Hn0.out
     have s4:n0+1<=w4.heap.size:=by rw [<- s2];exact hg4.size
     have b4:Below n0 wq w4:=(hB2.mono (by omega)).trans (own_grown hE hg4 (by omega))
     have hne:=own_ne hO4
     obtain⟨p,hp⟩:∃ p,p=w4.heap.size:=⟨_,rfl⟩
     obtain⟨w6,hw6⟩:∃ W,W=w4.alloc (.cells #[.slice fa4 F fc4,.slice none 0 0] 40):=⟨_,rfl⟩
     have b6:Below w4.heap.size w4 w6:=by rw [hw6];exact belowA _ _
     have t6:Two w6 p (.slice fa4 F fc4) (.slice none 0 0):=⟨by rw [hw6,hp];exact heapNew _ _⟩
     have hB6:Below n0 wq w6:=b4.trans (b6.mono (by omega))
     have hH6:Half n0 p b.1 [] w6 (.slice fa4 F fc4) (.slice none 0 0):=half_start (owns_blw hO4 b6) (by rw [hp];exact hne) (by omega) (Kn.refl _ _)
     have hpn:n0<=p:=by omega
     have hn10:n1<=n0:=by omega
     have H6:Hid (_=_):=hw6
     have Hp:Hid (p=w4.heap.size):=hp
     rw [<- H6.out]
     simp only [<- Hp.out]
     clear H6 Hp hw6 hp e0 s2 s4 b4 b6 hne hO4 hg4 hrun hE hB2 Hs2 Hg4 hSq2 HCr
     go_wp2_with fail
     go_loopw [7] (fun u wr=>∃ (j:Nat) (a:Option Addr) (c:Nat),j<=K/\u=.int .i64 j/\Two wr p (.slice fa4 F fc4) (.slice a j c)/\Half n0 p b.1 (b.2.take j) wr (.slice fa4 F fc4) (.slice a j c)/\Below n0 wq wr) (fun u _=>K - (intOf u).toNat)
     case atStart=>exact⟨0,none,0,Nat.zero_le _,rfl,t6,hH6,hB6⟩
     case round =>
      obtain⟨wo,hwo⟩:∃ wo,wo=wr:=⟨_,rfl⟩
      subst hwo
      clear t6 hH6 hB6
      obtain⟨j,ka9,kc9,hj,rfl,hO,hH,hBo⟩:=hrel
      have hs0:n0<=wo.heap.size:=by rw [Hn0.out];exact hBo.size
      have hso:n1<=wo.heap.size:=by omega
      have hSo:Below n1 w1 wo:=hSq.trans (hBo.mono hn10)
      have holt:=hO.lt
      have x5:=(HX.out wo hSo).cells.2.2.2.2.2.1
      obtain⟨c0,c1⟩:=HQ2.out wo hSo
      by_cases hlt2:j<K
      ·have hjI:(j:Int) < (K:Int):=by omega
       obtain⟨y,hy⟩:=someL (l:=b.2) (k:=j) (by rw [<- HFK.out.2];exact hlt2)
       have hby:blk y<blk t:=blk_sub HBm.out (List.mem_of_getElem? hy)
       obtain⟨g1,off1,ra1,rc1,ka1,kc1,sa1,sc1,rfl,_,h61,hty⟩:=HKd.out.at hy
       have HQ:Hid (∀ W,Below n1 w1 W->Cs6 W g1 (off1+j*6) y ra1 rc1 ka1 kc1 sa1 sc1):=fun W q=>h61.keep q.size (q.block g1 (by rw [Hn1.out];exact h61.lt))
       obtain⟨wd,hwd⟩:∃ W,W=wo.drew:=⟨_,rfl⟩
       have hbd:Below wo.heap.size wo wd:=by rw [hwd];exact (Below.refl _ _).drew
       have ssd:wd.heap.size=wo.heap.size:=by rw [hwd];rfl
       have hSd:Below n1 w1 wd:=by rw [hwd];exact hSo.drew
       have cc:=IH y _ wd (hty.blw (by rw [<- Hn1.out];exact hSd)).value (by omega) (by omega)
       have l0:wd.cell? ⟨p,1,none⟩=some (.slice ka9 j kc9):=by rw [hwd];exact hO.cells.2.1
       rw [ssd] at cc
       have Hwd:Hid (_=_):=hwd
       clear hty h61
       go_upto_region 13 with fail
       clear x5 c0 c1
       refine region_nrm (S:=fun W=>Below n1 w1 W) (by kernel_rfl) (by rw [<- Hwd.out];exact hSd) (fun hS=>?_)
       rw [<- Hwd.out] at hS ⊢
       clear ssd hwd
       refine wpAnyH_take (i:=0) (v:=.pointer (some ⟨p,1,none⟩)) rfl (by kernel_rfl) (by kernel_rfl) (by kernel_rfl) (fun _ _ _ h=>(by cases h.1)) (Or.inl ⟨by rfl,fun w hS=>by go_simp⟩) hS ?_
       try simp only [Act.put,zg1,zg2,zg3,zs1,zs2,zs3]
       refine wpAnyH_take (i:=2) (v:=.pointer (some ⟨X,5,none⟩)) rfl (by kernel_rfl) (by kernel_rfl) (by kernel_rfl) (fun _ _ _ h=>(by cases h.1)) (Or.inl ⟨by rfl,fun w hS=>by go_simp⟩) hS ?_
       try simp only [Act.put,zg1,zg2,zg3,zs1,zs2,zs3]
       refine wpAnyH_take (i:=3) (v:=.slice (some ⟨gs,offs,none⟩) M sc) rfl (by kernel_rfl) (by kernel_rfl) (by kernel_rfl) (fun _ _ _ h=>(by cases h.1)) (Or.inl ⟨by rfl,fun w hS=>by have e:=(HX.out w hS).cells.2.2.2.2.2.1;go_simp⟩) hS ?_
       try simp only [Act.put,zg1,zg2,zg3,zs1,zs2,zs3]
       refine wpAnyH_take (i:=4) (v:=.int .i64 i) rfl (by kernel_rfl) (by kernel_rfl) (by kernel_rfl) (fun _ _ _ h=>(by cases h.1)) (Or.inl ⟨by rfl,fun w hS=>by go_simp⟩) hS ?_
       try simp only [Act.put,zg1,zg2,zg3,zs1,zs2,zs3]
       refine wpAnyH_take (i:=5) (v:=.pointer (some ⟨gs,offs+i*2,none⟩)) rfl (by kernel_rfl) (by kernel_rfl) (by kernel_rfl) (fun _ _ _ h=>(by cases h.1)) (Or.inl ⟨by rfl,fun w hS=>by go_simp⟩) hS ?_
       try simp only [Act.put,zg1,zg2,zg3,zs1,zs2,zs3]
       refine wpAnyH_take (i:=6) (v:=.pointer (some ⟨gs,offs+i*2+1,none⟩)) rfl (by kernel_rfl) (by kernel_rfl) (by kernel_rfl) (fun _ _ _ h=>(by cases h.1)) (Or.inl ⟨by rfl,fun w hS=>by go_simp⟩) hS ?_
       try simp only [Act.put,zg1,zg2,zg3,zs1,zs2,zs3]
       refine wpAnyH_take (i:=7) (v:=.slice (some ⟨g1,off1,none⟩) K kbc1) rfl (by kernel_rfl) (by kernel_rfl) (by kernel_rfl) (fun _ _ _ h=>(by cases h.1)) (Or.inl ⟨by rfl,fun w hS=>by have e:=(HQ2.out w hS).2;go_simp⟩) hS ?_
       try simp only [Act.put,zg1,zg2,zg3,zs1,zs2,zs3]
       refine wpAnyH_take (i:=8) (v:=.int .i64 j) rfl (by kernel_rfl) (by kernel_rfl) (by kernel_rfl) (fun _ _ _ h=>(by cases h.1)) (Or.inl ⟨by rfl,fun w hS=>by go_simp⟩) hS ?_
       try simp only [Act.put,zg1,zg2,zg3,zs1,zs2,zs3]
       refine wpAnyH_take (i:=9) (v:=.pointer (some ⟨g1,off1+j*6,none⟩)) rfl (by kernel_rfl) (by kernel_rfl) (by kernel_rfl) (fun _ _ _ h=>(by cases h.1)) (Or.inl ⟨by rfl,fun w hS=>by go_simp⟩) hS ?_
       try simp only [Act.put,zg1,zg2,zg3,zs1,zs2,zs3]
       refine wpAnyH_take (i:=10) (v:=.agg #[.int .i64 y.kind,.int .i64 y.n,.string y.name,.slice ra1 y.r.length rc1,.slice ka1 y.kids.length kc1,.slice sa1 y.sys.length sc1]) rfl (by kernel_rfl) (by kernel_rfl) (by kernel_rfl) (fun _ _ _ h=>(by cases h.1)) (Or.inl ⟨by rfl,fun w hS=>by obtain⟨_,c0,c1,c2,c3,c4,c5⟩:=HQ.out w hS;go_simp⟩) hS ?_
       try simp only [Act.put,zg1,zg2,zg3,zs1,zs2,zs3]
       refine wpAnyH_ready (rs:=[1,11]) (by kernel_rfl) (by simp) ?_
       refine ready_cons rfl (fun KK hKK=>?_) (ready_cons rfl (fun KK hKK=>?_) AllReadyH.nil)
       ·skip
        refine⟨?_⟩
        have ex:=l0
        go_simp
        refine hKK.out _ _ hS (fun hS=>?_)
        clear hKK KK
        try simp only [Act.put,zg1,zg2,zg3,zs1,zs2,zs3]
        clear ex
        refine wpAnyH_ready (rs:=[11]) (by kernel_rfl) (by simp) ?_
        refine ready_cons rfl (fun KK hKK=>?_) AllReadyH.nil
        refine⟨?_⟩
        go_simp
        refine cc.mono ?_
        rintro e w2 ⟨v2,rfl,hv2,hb2⟩
        clear cc
        have hb2:Below wo.heap.size wo w2:=hbd.trans hb2
        obtain⟨ra2,rc2,ka2,kc2,sa2,sc2,rfl,ht2⟩:=hv2.form
        have hnx:=hH.next (u:=(.int .i64 y.kind,.int .i64 y.n,.string y.name,.slice ra2 y.r.length rc2,.slice ka2 y.kids.length kc2,.slice sa2 y.sys.length sc2)) 23 hs0 holt hb2 ht2.value (by rw [List.length_take];omega)
        obtain⟨w3,hw3⟩:∃ W,W=w2.alloc (.cells #[.int .i64 y.kind,.int .i64 y.n,.string y.name,.slice ra2 y.r.length rc2,.slice ka2 y.kids.length kc2,.slice sa2 y.sys.length sc2] 26):=⟨_,rfl⟩
        dsimp only at hnx
        rw [<- hw3] at hnx
        obtain⟨vk4,w4,hrun,hH4,hB4,ho4⟩:=hnx
        rw [show b.2.take j ++ [y]=b.2.take (j+1) by rw [List.take_add_one,hy];rfl] at hH4
        obtain⟨ka4,kc4,hvk4⟩:=hH4.kids.len
        rw [show (b.2.take (j+1)).length=j+1 by rw [List.length_take];have:=some_lt hy;omega] at hvk4
        subst hvk4
        have b3:Below w2.heap.size w2 w3:=by rw [hw3];exact belowA _ _
        have hO4:Two w4 p (.slice fa4 F fc4) (.slice ka9 j kc9):=⟨ho4.trans hO.blk⟩
        obtain⟨w5,hw5⟩:∃ W,W=w4.setCell ⟨p,1,none⟩ (.slice ka4 (j+1) kc4):=⟨_,rfl⟩
        have k5:Kn (fun q=>q≠p) w4 w5:=by rw [hw5];exact kn_set _ _ _ _
        have hO5:Two w5 p (.slice fa4 F fc4) (.slice ka4 (j+1) kc4):=by rw [hw5];exact hO4.set1 _
        have hH5:=hH4.set k5
        have hB5:Below n0 wo w5:=hB4.trans (k5.below (fun q hq=>by omega) (by have:=hB4.size;omega))
        have hS2:Below n1 w1 w2:=hSo.trans (hb2.mono hso)
        have hS3:Below n1 w1 w3:=hS2.trans (b3.mono (by have:=hb2.size;omega))
        have hS4:Below n1 w1 w4:=hSo.trans (hB4.mono hn10)
        have hS5:Below n1 w1 w5:=hSo.trans (hB5.mono hn10)
        have l2:Two w2 p (.slice fa4 F fc4) (.slice ka9 j kc9):=hO.blw hb2
        have l3:Two w3 p (.slice fa4 F fc4) (.slice ka9 j kc9):=l2.blw b3
        have q2:=l2.cells.2.1
        have q3:=l3.cells.2.1
        have q4:=hO4.cells.2.1
        have f4:=hO4.cells.2.2 1
        have H3:Hid (_=_):=hw3
        have H5:Hid (_=_):=hw5
        clear hw3 hw5 hv2 ht2 l2 l3 hO4 hH4 hb2 b3 ho4 k5
        refine hKK.out _ _ hS2 (fun hS=>?_)
        clear hKK KK
        try simp only [Act.put,zg1,zg2,zg3,zs1,zs2,zs3]
        refine wpAnyH_ready (rs:=[12]) (by kernel_rfl) (by simp) ?_
        refine ready_cons rfl (fun KK hKK=>?_) AllReadyH.nil
        refine⟨?_⟩
        go_simp
        rw [<- H3.out]
        refine hKK.out _ _ hS3 (fun hS=>?_)
        clear hKK KK
        try simp only [Act.put,zg1,zg2,zg3,zs1,zs2,zs3]
        refine wpAnyH_ready (rs:=[13]) (by kernel_rfl) (by simp) ?_
        refine ready_cons rfl (fun KK hKK=>?_) AllReadyH.nil
        refine⟨step_append rfl _ _ _ rfl _ _ _ _ rfl rfl hrun ?_⟩
        refine hKK.out _ _ hS4 (fun hS=>?_)
        clear hKK KK
        try simp only [Act.put,zg1,zg2,zg3,zs1,zs2,zs3]
        refine wpAnyH_take (i:=14) (v:=.pointer (some ⟨p,1,none⟩)) rfl (by kernel_rfl) (by kernel_rfl) (by kernel_rfl) (fun _ _ _ h=>(by cases h.1)) (Or.inl ⟨by rfl,fun w hS=>by go_simp⟩) hS ?_
        try simp only [Act.put,zg1,zg2,zg3,zs1,zs2,zs3]
        refine wpAnyH_ready (rs:=[15]) (by kernel_rfl) (by simp) ?_
        refine ready_cons rfl (fun KK hKK=>?_) AllReadyH.nil
        refine⟨?_⟩
        go_simp
        rw [<- H5.out]
        refine hKK.out _ _ hS5 (fun hS=>?_)
        clear hKK KK
        try simp only [Act.put,zg1,zg2,zg3,zs1,zs2,zs3]
        refine wpAnyH_done (by kernel_rfl) ?_ _
        refine⟨rfl,?_⟩
        go_wp2_with fail
        go_roundw
        case rel=>exact⟨j+1,_,_,by omega,by go_num,hO5,hH5,hBo.trans hB5⟩
        case measure=>simp [intOf];omega
       ·skip
        refine⟨?_⟩
        go_simp
        refine cc.mono ?_
        rintro e w2 ⟨v2,rfl,hv2,hb2⟩
        clear cc
        have hb2:Below wo.heap.size wo w2:=hbd.trans hb2
        obtain⟨ra2,rc2,ka2,kc2,sa2,sc2,rfl,ht2⟩:=hv2.form
        have hnx:=hH.next (u:=(.int .i64 y.kind,.int .i64 y.n,.string y.name,.slice ra2 y.r.length rc2,.slice ka2 y.kids.length kc2,.slice sa2 y.sys.length sc2)) 23 hs0 holt hb2 ht2.value (by rw [List.length_take];omega)
        obtain⟨w3,hw3⟩:∃ W,W=w2.alloc (.cells #[.int .i64 y.kind,.int .i64 y.n,.string y.name,.slice ra2 y.r.length rc2,.slice ka2 y.kids.length kc2,.slice sa2 y.sys.length sc2] 26):=⟨_,rfl⟩
        dsimp only at hnx
        rw [<- hw3] at hnx
        obtain⟨vk4,w4,hrun,hH4,hB4,ho4⟩:=hnx
        rw [show b.2.take j ++ [y]=b.2.take (j+1) by rw [List.take_add_one,hy];rfl] at hH4
        obtain⟨ka4,kc4,hvk4⟩:=hH4.kids.len
        rw [show (b.2.take (j+1)).length=j+1 by rw [List.length_take];have:=some_lt hy;omega] at hvk4
        subst hvk4
        have b3:Below w2.heap.size w2 w3:=by rw [hw3];exact belowA _ _
        have hO4:Two w4 p (.slice fa4 F fc4) (.slice ka9 j kc9):=⟨ho4.trans hO.blk⟩
        obtain⟨w5,hw5⟩:∃ W,W=w4.setCell ⟨p,1,none⟩ (.slice ka4 (j+1) kc4):=⟨_,rfl⟩
        have k5:Kn (fun q=>q≠p) w4 w5:=by rw [hw5];exact kn_set _ _ _ _
        have hO5:Two w5 p (.slice fa4 F fc4) (.slice ka4 (j+1) kc4):=by rw [hw5];exact hO4.set1 _
        have hH5:=hH4.set k5
        have hB5:Below n0 wo w5:=hB4.trans (k5.below (fun q hq=>by omega) (by have:=hB4.size;omega))
        have hS2:Below n1 w1 w2:=hSo.trans (hb2.mono hso)
        have hS3:Below n1 w1 w3:=hS2.trans (b3.mono (by have:=hb2.size;omega))
        have hS4:Below n1 w1 w4:=hSo.trans (hB4.mono hn10)
        have hS5:Below n1 w1 w5:=hSo.trans (hB5.mono hn10)
        have l2:Two w2 p (.slice fa4 F fc4) (.slice ka9 j kc9):=hO.blw hb2
        have l3:Two w3 p (.slice fa4 F fc4) (.slice ka9 j kc9):=l2.blw b3
        have q2:=l2.cells.2.1
        have q3:=l3.cells.2.1
        have q4:=hO4.cells.2.1
        have f4:=hO4.cells.2.2 1
        have H3:Hid (_=_):=hw3
        have H5:Hid (_=_):=hw5
        clear hw3 hw5 hv2 ht2 l2 l3 hO4 hH4 hb2 b3 ho4 k5
        refine hKK.out _ _ hS2 (fun hS=>?_)
        clear hKK KK
        try simp only [Act.put,zg1,zg2,zg3,zs1,zs2,zs3]
        refine wpAnyH_ready (rs:=[1,12]) (by kernel_rfl) (by simp) ?_
        refine ready_cons rfl (fun KK hKK=>?_) (ready_cons rfl (fun KK hKK=>?_) AllReadyH.nil)
        ·skip
         refine⟨?_⟩
         have ex:=q2
         go_simp
         refine hKK.out _ _ hS (fun hS=>?_)
         clear hKK KK
         try simp only [Act.put,zg1,zg2,zg3,zs1,zs2,zs3]
         clear ex
         refine wpAnyH_ready (rs:=[12]) (by kernel_rfl) (by simp) ?_
         refine ready_cons rfl (fun KK hKK=>?_) AllReadyH.nil
         refine⟨?_⟩
         go_simp
         rw [<- H3.out]
         refine hKK.out _ _ hS3 (fun hS=>?_)
         clear hKK KK
         try simp only [Act.put,zg1,zg2,zg3,zs1,zs2,zs3]
         refine wpAnyH_ready (rs:=[13]) (by kernel_rfl) (by simp) ?_
         refine ready_cons rfl (fun KK hKK=>?_) AllReadyH.nil
         refine⟨step_append rfl _ _ _ rfl _ _ _ _ rfl rfl hrun ?_⟩
         refine hKK.out _ _ hS4 (fun hS=>?_)
         clear hKK KK
         try simp only [Act.put,zg1,zg2,zg3,zs1,zs2,zs3]
         refine wpAnyH_take (i:=14) (v:=.pointer (some ⟨p,1,none⟩)) rfl (by kernel_rfl) (by kernel_rfl) (by kernel_rfl) (fun _ _ _ h=>(by cases h.1)) (Or.inl ⟨by rfl,fun w hS=>by go_simp⟩) hS ?_
         try simp only [Act.put,zg1,zg2,zg3,zs1,zs2,zs3]
         refine wpAnyH_ready (rs:=[15]) (by kernel_rfl) (by simp) ?_
         refine ready_cons rfl (fun KK hKK=>?_) AllReadyH.nil
         refine⟨?_⟩
         go_simp
         rw [<- H5.out]
         refine hKK.out _ _ hS5 (fun hS=>?_)
         clear hKK KK
         try simp only [Act.put,zg1,zg2,zg3,zs1,zs2,zs3]
         refine wpAnyH_done (by kernel_rfl) ?_ _
         refine⟨rfl,?_⟩
         go_wp2_with fail
         go_roundw
         case rel=>exact⟨j+1,_,_,by omega,by go_num,hO5,hH5,hBo.trans hB5⟩
         case measure=>simp [intOf];omega
        ·skip
         refine⟨?_⟩
         go_simp
         rw [<- H3.out]
         refine hKK.out _ _ hS3 (fun hS=>?_)
         clear hKK KK
         try simp only [Act.put,zg1,zg2,zg3,zs1,zs2,zs3]
         refine wpAnyH_ready (rs:=[1]) (by kernel_rfl) (by simp) ?_
         refine ready_cons rfl (fun KK hKK=>?_) AllReadyH.nil
         refine⟨?_⟩
         have ex:=q3
         go_simp
         refine hKK.out _ _ hS (fun hS=>?_)
         clear hKK KK
         try simp only [Act.put,zg1,zg2,zg3,zs1,zs2,zs3]
         clear ex
         refine wpAnyH_ready (rs:=[13]) (by kernel_rfl) (by simp) ?_
         refine ready_cons rfl (fun KK hKK=>?_) AllReadyH.nil
         refine⟨step_append rfl _ _ _ rfl _ _ _ _ rfl rfl hrun ?_⟩
         refine hKK.out _ _ hS4 (fun hS=>?_)
         clear hKK KK
         try simp only [Act.put,zg1,zg2,zg3,zs1,zs2,zs3]
         refine wpAnyH_take (i:=14) (v:=.pointer (some ⟨p,1,none⟩)) rfl (by kernel_rfl) (by kernel_rfl) (by kernel_rfl) (fun _ _ _ h=>(by cases h.1)) (Or.inl ⟨by rfl,fun w hS=>by go_simp⟩) hS ?_
         try simp only [Act.put,zg1,zg2,zg3,zs1,zs2,zs3]
         refine wpAnyH_ready (rs:=[15]) (by kernel_rfl) (by simp) ?_
         refine ready_cons rfl (fun KK hKK=>?_) AllReadyH.nil
         refine⟨?_⟩
         go_simp
         rw [<- H5.out]
         refine hKK.out _ _ hS5 (fun hS=>?_)
         clear hKK KK
         try simp only [Act.put,zg1,zg2,zg3,zs1,zs2,zs3]
         refine wpAnyH_done (by kernel_rfl) ?_ _
         refine⟨rfl,?_⟩
         go_wp2_with fail
         go_roundw
         case rel=>exact⟨j+1,_,_,by omega,by go_num,hO5,hH5,hBo.trans hB5⟩
         case measure=>simp [intOf];omega
      ·have hjI:¬ (j:Int) < (K:Int):=by omega
       obtain rfl:j=K:=by omega
       rw [List.take_of_length_le (by rw [<- HFK.out.2];exact Nat.le_refl _)] at hH
       have hnx:=hWq.next 24 HBi.out hsq hoq (by rw [<- Hn0.out];exact hBo) (by rw [<- Hn0.out];exact hH) (by omega)
       obtain⟨w7,hw7⟩:∃ W,W=wo.alloc (.cells #[.slice fa4 F fc4,.slice ka9 j kc9] 40):=⟨_,rfl⟩
       rw [<- hw7] at hnx
       obtain⟨vs8,w8,hrun,hW8,hB8,ho8⟩:=hnx
       obtain⟨sa8,sc8,hvs⟩:=hW8.sys.len
       rw [show (t.sys.take (i+1)).length=i+1 by rw [List.length_take];have:=some_lt HBi.out;omega] at hvs
       subst hvs
       have hO8:Six w8 o (.int .i64 t.kind) (.int .i64 t.n) (.string t.name) (.slice ra0 R rc0) (.slice ka0 k kc0) (.slice sa0 i sc0):=⟨ho8.trans hOq.blk⟩
       obtain⟨w9,hw9⟩:∃ W,W=w8.setCell ⟨o,5,none⟩ (.slice sa8 (i+1) sc8):=⟨_,rfl⟩
       have k9:Kn (fun q=>q≠o) w8 w9:=by rw [hw9];exact kn_set _ _ _ _
       have hO9:Six w9 o (.int .i64 t.kind) (.int .i64 t.n) (.string t.name) (.slice ra0 R rc0) (.slice ka0 k kc0) (.slice sa8 (i+1) sc8):=by rw [hw9];exact hO8.set5 _
       have hW9:=hW8.set k9
       have hS9:Below n1 w1 w9:=(hSq.trans hB8).trans (k9.below (fun q hq=>by omega) (by have:=hB8.size;omega))
       have b7:Below wo.heap.size wo w7:=by rw [hw7];exact belowA _ _
       have lo:Six wo o (.int .i64 t.kind) (.int .i64 t.n) (.string t.name) (.slice ra0 R rc0) (.slice ka0 k kc0) (.slice sa0 i sc0):=⟨(hBo.block o (by rw [Hn0.out];exact hoq)).trans hOq.blk⟩
       have q0:=lo.cells.2.2.2.2.2.1
       have q1:=hO.cells.1
       have q2:=hO.cells.2.1
       have q8:=hO8.cells.2.2.2.2.2.1
       have f8:=hO8.cells.2.2.2.2.2.2 5
       have H7:Hid (_=_):=hw7
       have H9:Hid (_=_):=hw9
       clear hw7 hw9 lo hO8 hW8 hH b7 k9 hB8 ho8
       go_wp2_with (at_builtin;rw [<- H7.out];refine wpList_append_run rfl _ _ _ rfl _ _ _ _ rfl rfl hrun ?_)
       rw [<- H9.out]
       go_roundw
       case rel=>exact⟨i+1,_,_,by omega,by go_num,hO9,hW9,hS9⟩
       case measure=>simp [intOf];omega
    ·have hkI:¬ (i:Int) < (M:Int):=by omega
     obtain rfl:i=M:=by omega
     have y2:=HX2.out wq hSq
     obtain⟨a0,a1,a2,a3,a4,a5,_⟩:=hOq.cells
     obtain⟨e0,e1,e2,e3,e4,e5,ef⟩:=y2.cells
     have g0:=ef 0
     have g1:=ef 1
     have g2:=ef 2
     have g3:=ef 3
     have g4:=ef 4
     have g5:=ef 5
     obtain⟨w8,hw8⟩:∃ W,W=(((((wq.setCell ⟨X+1,0,none⟩ (.int .i64 t.kind)).setCell ⟨X+1,1,none⟩ (.int .i64 t.n)).setCell ⟨X+1,2,none⟩ (.string t.name)).setCell ⟨X+1,3,none⟩ (.slice ra0 R rc0)).setCell ⟨X+1,4,none⟩ (.slice ka0 k kc0)).setCell ⟨X+1,5,none⟩ (.slice sa0 i sc0):=⟨_,rfl⟩
     have k8:Kn (fun q=>q≠X+1) wq w8:=by rw [hw8];exact kn_set6 _ _ _ _ _ _ _ _
     have y8:=y2.set6 (.int .i64 t.kind) (.int .i64 t.n) (.string t.name) (.slice ra0 R rc0) (.slice ka0 k kc0) (.slice sa0 i sc0)
     rw [<- hw8] at y8
     obtain⟨h0,h1,h2,h3,h4,h5,_⟩:=y8.cells
     have hXl:=HXs.out
     have hXn2:n1=X+2:=hXn
     have HT8:Hid (TmIn (OkN w.heap.size w8) w8 t (.agg #[.int .i64 t.kind,.int .i64 t.n,.string t.name,.slice ra0 R rc0,.slice ka0 k kc0,.slice sa0 i sc0])):=by
      have hm:=HL.out.2.2
      rw [hm] at hWq
      have hT:=hWq.term HI.out.1 HI.out.2
      rw [<- hm] at hT
      exact hT.keep k8.size (fun q hq=>(hq.same (k8.block q (by have:=hq.1;omega) hq.lt)).mono (by omega)) (fun q hq hs=>k8.block q (by have:=hq.1;omega) hs)
     have b8:Below w.heap.size w w8:=(HB1.out wq hSq).trans (k8.below (fun q hq=>by omega) (by omega))
     have H8:Hid (_=_):=hw8
     clear hw8 ef y2 y8 k8 hXl hXn2 hXn hWq hOq
     go_wp2_with fail
     rw [<- H8.out]
     exact bodyPost_ret (v:=.agg #[.int .i64 t.kind,.int .i64 t.n,.string t.name,.slice ra0 R rc0,.slice ka0 k kc0,.slice sa0 i sc0]) (by simp only [results,Tryz.results9];simp [go_sem,h0,h1,h2,h3,h4,h5]) rfl ⟨_,rfl,HT8.out,b8⟩
theorem rcopy_any:∀ N:Nat,RCpC N
 | 0=>fun t v w h hN _=>by have:=blk_pos t;omega
 | N+1=>rcopy_step N (rcopy_any N)
theorem rCopy_any (t:Tm) (v:Value) (w:World) (h:TmIn Tt w t v) (hb:blk t<=100000):Calls Tryz.prog 9 #[v] w fun e w'=>∃ v',e=.returned v'/\TmIn (OkN w.heap.size w') w' t v'/\Below w.heap.size w w':=rcopy_any _ t v w h (Nat.le_refl _) hb
end Go.Proofs.YtblbhmnahoiecaaGreat
