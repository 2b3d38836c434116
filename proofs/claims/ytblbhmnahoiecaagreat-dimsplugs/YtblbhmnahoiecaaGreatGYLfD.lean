/- Lifts: the function that calls itself. -/
import Derived.Deep.RegionHeld
import Derived.Deep.DeepCutAuto
import Derived.Deep.CutBlock
import Derived.Test.YtblbhmnahoiecaaGreatGG10
set_option linter.unusedVariables false
set_option linter.unusedSimpArgs false
set_option maxRecDepth 100000
set_option maxHeartbeats 8000000
namespace Go.Proofs.YtblbhmnahoiecaaGreat
open Go.RowKit
theorem kn_six (w:World) (s:Nat) (u0 u1 u2 u3 u4 u5:Value):Kn (fun q=>q≠s) w ((((((w.setCell ⟨s,0,none⟩ u0).setCell ⟨s,1,none⟩ u1).setCell ⟨s,2,none⟩ u2).setCell ⟨s,3,none⟩ u3).setCell ⟨s,4,none⟩ u4).setCell ⟨s,5,none⟩ u5) :=
 (((((kn_set _ _ _ _).trans (kn_set _ _ _ _)).trans (kn_set _ _ _ _)).trans (kn_set _ _ _ _)).trans (kn_set _ _ _ _)).trans (kn_set _ _ _ _)
theorem oc_blw {w w':World} {base:Nat} {v:Value} {l:List C} (h:OwnsC w base v l) (hb:Below w.heap.size w w'):OwnsC w' base v l:=owns_keep h (fun k hk=>hb.block k (World.ownsRow.lt h k hk).2)
theorem row_start {n o:Nat} {l:List C} {w4 w5:World} {v:Value} (hO:OwnsC w4 n v l) (ho:v.ownBlock≠some o) (hk:Kn (fun q=>q≠o) w4 w5):ClRow (fun q=>OkN n w5 q∧q≠o) w5 l v :=
 (hO.but ho).keep hk.size (fun q hq=>⟨hq.1.same (hk.block q hq.2 hq.1.lt),hq.2⟩) (fun q hq hs=>hk.block q hq.2 hs)
theorem rowk {n o:Nat} {w w':World} {l:List C} {v:Value} (h:ClRow (fun q=>OkN n w q∧q≠o) w l v) (hk:Kn (fun q=>q≠o) w w'):ClRow (fun q=>OkN n w' q∧q≠o) w' l v :=
 h.keep hk.size (fun q hq=>⟨hq.1.same (hk.block q hq.2 hq.1.lt),hq.2⟩) (fun q hq hs=>hk.block q hq.2 hs)
theorem kdk {n o:Nat} {w w':World} {l:List Tm} {v:Value} (h:KdT (fun q=>OkN n w q∧q≠o) w (TmIn (fun q=>OkN n w q∧q≠o) w) l v) (hk:Kn (fun q=>q≠o) w w'):KdT (fun q=>OkN n w' q∧q≠o) w' (TmIn (fun q=>OkN n w' q∧q≠o) w') l v :=
 h.all hk.size (fun q hq=>⟨hq.1.same (hk.block q hq.2 hq.1.lt),hq.2⟩) (fun q hq hs=>hk.block q hq.2 hs)
theorem syk {n o:Nat} {w w':World} {l:List (List C × List Tm)} {v:Value} (h:SyT (fun q=>OkN n w q∧q≠o) w (TmIn (fun q=>OkN n w q∧q≠o) w) l v) (hk:Kn (fun q=>q≠o) w w'):SyT (fun q=>OkN n w' q∧q≠o) w' (TmIn (fun q=>OkN n w' q∧q≠o) w') l v :=
 h.all hk.size (fun q hq=>⟨hq.1.same (hk.block q hq.2 hq.1.lt),hq.2⟩) (fun q hq hs=>hk.block q hq.2 hs)
theorem numV_i64 {s:Sf} (hs:s.ok) {bv:Nat} {k n:Int} (hn:I64 n) (h0:0≤n) (he:numE s bv k n=0):I64 (numV s bv k n):=by
 unfold numE at he
 unfold numV
 unfold I64 at *
 obtain⟨_,_,h1,h2,_⟩:=hs
 split
 ·rename_i hf
  have:¬ 1000000000 - s.vb<n:=fun h=>by rw [if_pos ⟨hf,h⟩] at he;omega
  omega
 ·exact hn
theorem lf_step {s:Sf} (hs:s.ok) (N:Nat) (IH:LfC s N):LfC s (N+1):=by
 intro t bv bd g off xs xl ra rc ka kc sa sc w hE h6 ht hf hN hbv hbd hb4
 obtain⟨hl1,hl2,hl3,hl4⟩:=blk_lens t
 obtain⟨hn0,hvr,hfk,hfs⟩:=(fm_eq t).1 hf
 obtain⟨w1,hw1⟩:∃ W,W=((w.alloc (.cells #[.pointer (some ⟨g,off,none⟩)] 119)).alloc (.cells #[.int .i64 (bv:Int),.int .i64 (bd:Int)] 194)).alloc (.cells #[.int .i64 0,.int .i64 0,.string ⟨#[]⟩,.slice none 0 0,.slice none 0 0,.slice none 0 0] 26):=⟨_,rfl⟩
 have b1:Below w.heap.size w w1:=by rw [hw1];exact bchain (bchain (belowA _ _) (belowA _ _)) (belowA _ _)
 have s1:w1.heap.size=w.heap.size+3:=by rw [hw1];simp
 obtain⟨X,hX⟩:∃ X,X=w.heap.size:=⟨_,rfl⟩
 have m0:w1.heap[X]? = some (.cells #[.pointer (some ⟨g,off,none⟩)] 119 (0,0)):=by
  rw [hw1,hX];exact (Below.heap_alloc _ _ _ (by simp;omega)).trans ((Below.heap_alloc _ _ _ (by simp)).trans (heapNew w _))
 have m1:Bnd w1 (X+1) bv bd:=by
  rw [hw1,hX]
  refine (Below.heap_alloc _ _ _ (by simp)).trans ?_
  have:=heapNew (w.alloc (.cells #[.pointer (some ⟨g,off,none⟩)] 119)) (.cells #[.int .i64 (bv:Int),.int .i64 (bd:Int)] 194);rwa [World.size_alloc] at this
 have m2:Six w1 (X+2) (.int .i64 0) (.int .i64 0) (.string ⟨#[]⟩) (.slice none 0 0) (.slice none 0 0) (.slice none 0 0):=⟨by
  rw [hw1,hX]
  have:=heapNew ((w.alloc (.cells #[.pointer (some ⟨g,off,none⟩)] 119)).alloc (.cells #[.int .i64 (bv:Int),.int .i64 (bd:Int)] 194)) (.cells #[.int .i64 0,.int .i64 0,.string ⟨#[]⟩,.slice none 0 0,.slice none 0 0,.slice none 0 0] 26);rwa [World.size_alloc,World.size_alloc] at this⟩
 obtain⟨n1,hn1⟩:∃ n,n=w1.heap.size:=⟨_,rfl⟩
 have toB:∀ W,Below n1 w1 W→Below w1.heap.size w1 W:=fun W q=>by rw [← hn1];exact q
 have HP:Hid (∀ W,Below n1 w1 W→W.cell? ⟨X,0,none⟩=some (.pointer (some ⟨g,off,none⟩))):=fun W q=>((toB W q).cell (p:=⟨X,0,none⟩) (by show X<_;omega)).trans (by simp [World.cell?,m0])
 have HB:Hid (∀ W,Below n1 w1 W→Bnd W (X+1) bv bd):=fun W q=>m1.blw (toB W q)
 have HZ:Hid (∀ W,Below n1 w1 W→Six W (X+2) (.int .i64 0) (.int .i64 0) (.string ⟨#[]⟩) (.slice none 0 0) (.slice none 0 0) (.slice none 0 0)):=fun W q=>m2.blw (toB W q)
 have HE:Hid (∀ W,Below n1 w1 W→LEnv W s xs xl):=fun W q=>(hE.blw b1).blw (toB W q)
 have H6:Hid (∀ W,Below n1 w1 W→Cs6 W g off t ra rc ka kc sa sc):=fun W q=>(h6.blw b1).blw (toB W q)
 have HT:Hid (∀ W,Below n1 w1 W→TmTop Tt W t ra rc ka kc sa sc):=fun W q=>(ht.blw b1).blw (toB W q)
 have HB1:Hid (∀ W,Below n1 w1 W→Below w.heap.size w W):=fun W q=>bchain b1 (toB W q)
 obtain⟨R,hR⟩:∃ L,L=t.r.length:=⟨_,rfl⟩
 obtain⟨L,hL⟩:∃ L,L=t.kids.length:=⟨_,rfl⟩
 obtain⟨M,hM⟩:∃ M,M=t.sys.length:=⟨_,rfl⟩
 have HL:Hid (R=t.r.length∧L=t.kids.length∧M=t.sys.length):=⟨hR,hL,hM⟩
 have hIk:I64 t.kind:=ht.ik
 have hIn:I64 t.n:=ht.inn
 have HN:Hid (∀ W,Below n1 w1 W→Calls Tryz.prog 216 #[.agg #[.int .i64 s.vf,.int .i64 s.vb,.int .i64 s.df,.int .i64 s.db],.pointer (some ⟨g,off,none⟩),.agg #[.int .i64 (bv:Int),.int .i64 (bd:Int)]] W fun e w'=>LOut (numE s bv t.kind t.n) (fun v=>v=.int .i64 (numV s bv t.kind t.n)) e∧Below W.heap.size W w'):=fun W q =>
  lnum_any s hs bv bd g off t W (H6.out W q).lt (H6.out W q).c0 (H6.out W q).c1 ⟨hn0,hIn.2⟩ (by omega)
 have HRw:Hid (∀ W,Below n1 w1 W→Calls Tryz.prog 217 #[.agg #[.int .i64 s.vf,.int .i64 s.vb,.int .i64 s.df,.int .i64 s.db],.slice ra R rc,.agg #[.int .i64 (bv:Int),.int .i64 (bd:Int)]] W fun e w'=>LOut (rowP s bd t.r).2 (fun v'=>OwnsC w' W.heap.size v' (rowP s bd t.r).1) e∧Below W.heap.size W w'):=fun W q=>by
  rw [hR];exact lrow_any s hs bv bd t.r _ W (HT.out W q).row (by omega) (by omega)
 have HK:Hid (∀ W,Below n1 w1 W→Calls Tryz.prog 218 #[.slice ka L kc,.func (.func 219) #[] #[.pointer (some ⟨X,0,none⟩),.pointer (some ⟨xl,0,none⟩),.pointer (some ⟨X+1,0,none⟩)]] W fun e w'=>LOut (firstE (erK s t.kind t.kids bv bd)) (fun v'=>KdT (OkN W.heap.size w') w' (TmIn (OkN W.heap.size w') w') (liK s t.kind t.kids bv bd) v') e∧Below W.heap.size W w'):=fun W q=>by
  rw [hL]
  refine lbecT_any 219 _ lf1_eg t.kids _ _ (liK_len _ _ _ _ _) (erK_len _ _ _ _ _) _ W (HT.out W q).kids (by omega) ?_
  intro i x y e0 p V hx hy he hat hV
  have qV:Below n1 w1 V:=q.trans (hV.mono (by rw [hn1];exact q.size))
  rw [liK_get hx] at hy
  rw [erK_get hx] at he
  cases hy
  cases he
  obtain⟨g2,o2,n2,c2,e1,rfl⟩:=hat
  obtain⟨g3,o3,ra3,rc3,ka3,kc3,sa3,sc3,e2,_,h63,ht3⟩:=(HT.out V qV).kids.at hx
  cases e1
  cases e2
  have hbx:=blk_kid (List.mem_of_getElem? hx)
  have hil:=some_lt hx
  have hsz:=qV.size
  exact lkid1_any IH i x t.kind hIk (by omega) bv bd g2 (o2+i*6) g off xs xl X (X+1) ra3 rc3 ka3 kc3 sa3 sc3 V (HE.out V qV) (HB.out V qV) (HP.out V qV) (by omega) (H6.out V qV).c0 (H6.out V qV).lt h63 ht3 (hfk x (List.mem_of_getElem? hx)) (by omega) (by omega) (by omega) (by omega)
 have HS:Hid (∀ W p,Below n1 w1 W→Bnd W p bv (bd+moreK t.kind)→Calls Tryz.prog 220 #[.slice sa M sc,.func (.func 221) #[] #[.pointer (some ⟨xs,0,none⟩),.pointer (some ⟨X+1,0,none⟩),.pointer (some ⟨xl,0,none⟩),.pointer (some ⟨p,0,none⟩)]] W fun e w'=>LOut (firstE (t.sys.map fun b=>erB s t.kind b bv bd)) (fun v'=>SyT (OkN W.heap.size w') w' (TmIn (OkN W.heap.size w') w') (t.sys.map fun b=>liB s t.kind b bv bd) v') e∧Below W.heap.size W w'):=fun W p q hp=>by
  rw [hM]
  refine lbecB_any 221 _ lf2_eg t.sys _ _ (by simp) (by simp) _ W (HT.out W q).sys (by omega) ?_
  intro i b y e0 pp V hx hy he hat hV
  have qV:Below n1 w1 V:=q.trans (hV.mono (by rw [hn1];exact q.size))
  rw [map_get hx hy,map_get hx he]
  obtain⟨g2,o2,n2,c2,e1,rfl⟩:=hat
  obtain⟨g3,o3,fa3,fc3,ka3,kc3,e2,_,h23,hf3,hk3⟩:=(HT.out V qV).sys.at hx
  cases e1
  cases e2
  have hbx:=blk_br (List.mem_of_getElem? hx)
  have hmo:=moreK_le t.kind
  exact lbr_any hs IH i b bv bd (bd+moreK t.kind) g2 (o2+i*2) xs (X+1) xl p fa3 fc3 ka3 kc3 V (HE.out V qV) (HB.out V qV) (hp.blw hV) h23 hf3 hk3 (fun x hxx=>hfs b (List.mem_of_getElem? hx) x hxx) (by omega) (by omega) (by omega) (by omega) (by omega) (by omega)
 have HNR:Hid (numE s bv t.kind t.n≠0→(rowP s bd t.r).2=0):=fun h=>num_row hf h
 have HVI:Hid (numE s bv t.kind t.n=0→I64 (numV s bv t.kind t.n)):=fun h=>numV_i64 hs hIn hn0 h
 have HEr:Hid (_=_):=er_eq s t bv bd
 have HLi:Hid (_=_):=li_eq s t bv bd
 have HM15:Hid (moreK t.kind=if t.kind=15 then 1 else 0):=rfl
 obtain⟨nE,hnE⟩:∃ e,e=numE s bv t.kind t.n:=⟨_,rfl⟩
 obtain⟨nV,hnV⟩:∃ e,e=numV s bv t.kind t.n:=⟨_,rfl⟩
 obtain⟨Pr,hPr⟩:∃ P,P=rowP s bd t.r:=⟨_,rfl⟩
 obtain⟨eK,heK⟩:∃ e,e=firstE (erK s t.kind t.kids bv bd):=⟨_,rfl⟩
 obtain⟨eS,heS⟩:∃ e,e=firstE (t.sys.map fun b=>erB s t.kind b bv bd):=⟨_,rfl⟩
 have HEr2:Hid (erT s t bv bd=if nE=0 then (if Pr.2=0 then (if eK=0 then eS else eK) else Pr.2) else nE):=(by rw [HEr.out,firstE_cons,firstE_cons,firstE_append,← hnE,← hPr,← heK,← heS]:_=_)
 obtain⟨lK,hlK⟩:∃ l,l=liK s t.kind t.kids bv bd:=⟨_,rfl⟩
 obtain⟨lS,hlS⟩:∃ l,l=t.sys.map fun b=>liB s t.kind b bv bd:=⟨_,rfl⟩
 have Hll:Hid (lK.length=L∧lS.length=M):=⟨by rw [hlK,liK_len,hL],by rw [hlS,List.length_map,hM]⟩
 rw [← hlK,← hlS] at HLi
 rw [← hPr,← hnV] at HLi
 rw [← hlK,← heK] at HK
 rw [← hlS,← heS] at HS
 rw [← hnE,← hnV] at HN
 rw [← hPr] at HRw
 rw [← hnE,← hPr] at HNR
 rw [← hnE,← hnV] at HVI
 obtain⟨rw',re⟩:=Pr
 dsimp only at HRw HNR HEr2 HLi
 have HXs:Hid (X=w.heap.size):=hX
 have Hn1:Hid (n1=w1.heap.size∧n1=X+3):=⟨hn1,by omega⟩
 have HW:Hid (_=_):=hw1
 have HIk:Hid (I64 t.kind):=hIk
 have hmk:=mkfn
 have eg1:=lf1_eg
 have eg2:=lf2_eg
 obtain⟨kd,hkd⟩:∃ k,k=t.kind:=⟨_,rfl⟩
 have Hkd:Hid (kd=t.kind):=hkd
 rw [← hX]
 clear hw1 m0 m1 m2 b1 s1 hX hn1 toB hE h6 ht hf hR hL hM hIk hIn hn0 hvr hfk hfs hnE hnV hPr heK heS hlK hlS HEr IH hs hl1 hl2 hl3 hl4 hkd
 go_enter Tryz.func215,Tryz.ntmps215
 go_upto_region 1 with fail
 rw [← HW.out]
 simp only [← HXs.out]
 clear HW
 have hS1:Below n1 w1 w1:=Below.refl _ _
 go_cut [7] (fun sl wx=>∃ o a c,sl=.pointer (some ⟨o,0,none⟩)∧Six wx o (.int .i64 kd) (.int .i64 nV) (.string t.name) (.slice a rw'.length c) (.slice none 0 0) (.slice none 0 0)∧ClRow (fun q=>OkN n1 wx q∧q≠o) wx rw' (.slice a rw'.length c)∧n1≤o∧Below n1 w1 wx∧Hid (nE=0∧re=0))
 case first=>as_aux_lemma =>
  refine wp_region_held_drew (S:=fun W=>Below n1 w1 W) (by kernel_rfl) (hS1.drew) (fun hS=>?_)
  obtain⟨wd,hwd⟩:∃ W,W=w1.drew:=⟨_,rfl⟩
  rw [← hwd] at hS ⊢
  have sd:Hid (wd.heap.size=n1):=(by rw [hwd];exact Hn1.out.1.symm:wd.heap.size=n1)
  clear hwd
  refine wpAnyH_take (i:=0) (v:=.pointer (some ⟨g,off,none⟩)) rfl (by kernel_rfl) (by kernel_rfl) (by kernel_rfl) (fun _ _ _ h=>h) (Or.inl ⟨by rfl,fun w hS=>by have e:=HP.out w hS;go_simp⟩) hS ?_
  try simp only [Act.put,List.getElem_toArray,List.getElem_cons_zero,List.getElem_cons_succ,List.setIfInBounds_toArray,List.set_cons_zero,List.set_cons_succ]
  refine wpAnyH_take (i:=1) (v:=.pointer (some ⟨g,off,none⟩)) rfl (by kernel_rfl) (by kernel_rfl) (by kernel_rfl) (fun _ _ _ h=>h) (Or.inl ⟨by rfl,fun w hS=>by go_simp⟩) hS ?_
  try simp only [Act.put,List.getElem_toArray,List.getElem_cons_zero,List.getElem_cons_succ,List.setIfInBounds_toArray,List.set_cons_zero,List.set_cons_succ]
  refine wpAnyH_take (i:=2) (v:=.pointer (some ⟨g,off,none⟩)) rfl (by kernel_rfl) (by kernel_rfl) (by kernel_rfl) (fun _ _ _ h=>h) (Or.inl ⟨by rfl,fun w hS=>by go_simp⟩) hS ?_
  try simp only [Act.put,List.getElem_toArray,List.getElem_cons_zero,List.getElem_cons_succ,List.setIfInBounds_toArray,List.set_cons_zero,List.set_cons_succ]
  refine wpAnyH_take (i:=3) (v:=.int .i64 kd) rfl (by kernel_rfl) (by kernel_rfl) (by kernel_rfl) (fun _ _ _ h=>h) (Or.inl ⟨by rfl,fun w hS=>by have e:=(H6.out w hS).c0;rw [← Hkd.out] at e;go_simp⟩) hS ?_
  try simp only [Act.put,List.getElem_toArray,List.getElem_cons_zero,List.getElem_cons_succ,List.setIfInBounds_toArray,List.set_cons_zero,List.set_cons_succ]
  refine wpAnyH_take (i:=4) (v:=.agg #[.int .i64 s.vf,.int .i64 s.vb,.int .i64 s.df,.int .i64 s.db]) rfl (by kernel_rfl) (by kernel_rfl) (by kernel_rfl) (fun _ _ _ h=>h) (Or.inl ⟨by rfl,fun w hS=>by obtain⟨q0,q1,q2,q3⟩:=(HE.out w hS).cs;go_simp⟩) hS ?_
  try simp only [Act.put,List.getElem_toArray,List.getElem_cons_zero,List.getElem_cons_succ,List.setIfInBounds_toArray,List.set_cons_zero,List.set_cons_succ]
  refine wpAnyH_take (i:=5) (v:=.pointer (some ⟨g,off,none⟩)) rfl (by kernel_rfl) (by kernel_rfl) (by kernel_rfl) (fun _ _ _ h=>h) (Or.inl ⟨by rfl,fun w hS=>by have e:=HP.out w hS;go_simp⟩) hS ?_
  try simp only [Act.put,List.getElem_toArray,List.getElem_cons_zero,List.getElem_cons_succ,List.setIfInBounds_toArray,List.set_cons_zero,List.set_cons_succ]
  refine wpAnyH_take (i:=6) (v:=.agg #[.int .i64 (bv:Int),.int .i64 (bd:Int)]) rfl (by kernel_rfl) (by kernel_rfl) (by kernel_rfl) (fun _ _ _ h=>h) (Or.inl ⟨by rfl,fun w hS=>by obtain⟨q0,q1⟩:=(HB.out w hS).cs;go_simp⟩) hS ?_
  try simp only [Act.put,List.getElem_toArray,List.getElem_cons_zero,List.getElem_cons_succ,List.setIfInBounds_toArray,List.set_cons_zero,List.set_cons_succ]
  refine wpAnyH_take (i:=8) (v:=.pointer (some ⟨g,off,none⟩)) rfl (by kernel_rfl) (by kernel_rfl) (by kernel_rfl) (fun _ _ _ h=>h) (Or.inl ⟨by rfl,fun w hS=>by have e:=HP.out w hS;go_simp⟩) hS ?_
  try simp only [Act.put,List.getElem_toArray,List.getElem_cons_zero,List.getElem_cons_succ,List.setIfInBounds_toArray,List.set_cons_zero,List.set_cons_succ]
  refine wpAnyH_take (i:=9) (v:=.pointer (some ⟨g,off,none⟩)) rfl (by kernel_rfl) (by kernel_rfl) (by kernel_rfl) (fun _ _ _ h=>h) (Or.inl ⟨by rfl,fun w hS=>by go_simp⟩) hS ?_
  try simp only [Act.put,List.getElem_toArray,List.getElem_cons_zero,List.getElem_cons_succ,List.setIfInBounds_toArray,List.set_cons_zero,List.set_cons_succ]
  refine wpAnyH_take (i:=10) (v:=.pointer (some ⟨g,off+2,none⟩)) rfl (by kernel_rfl) (by kernel_rfl) (by kernel_rfl) (fun _ _ _ h=>h) (Or.inl ⟨by rfl,fun w hS=>by go_simp⟩) hS ?_
  try simp only [Act.put,List.getElem_toArray,List.getElem_cons_zero,List.getElem_cons_succ,List.setIfInBounds_toArray,List.set_cons_zero,List.set_cons_succ]
  refine wpAnyH_take (i:=11) (v:=.string t.name) rfl (by kernel_rfl) (by kernel_rfl) (by kernel_rfl) (fun _ _ _ h=>h) (Or.inl ⟨by rfl,fun w hS=>by have e:=(H6.out w hS).c2;go_simp⟩) hS ?_
  try simp only [Act.put,List.getElem_toArray,List.getElem_cons_zero,List.getElem_cons_succ,List.setIfInBounds_toArray,List.set_cons_zero,List.set_cons_succ]
  refine wpAnyH_take (i:=12) (v:=.agg #[.int .i64 s.vf,.int .i64 s.vb,.int .i64 s.df,.int .i64 s.db]) rfl (by kernel_rfl) (by kernel_rfl) (by kernel_rfl) (fun _ _ _ h=>h) (Or.inl ⟨by rfl,fun w hS=>by obtain⟨q0,q1,q2,q3⟩:=(HE.out w hS).cs;go_simp⟩) hS ?_
  try simp only [Act.put,List.getElem_toArray,List.getElem_cons_zero,List.getElem_cons_succ,List.setIfInBounds_toArray,List.set_cons_zero,List.set_cons_succ]
  refine wpAnyH_take (i:=13) (v:=.pointer (some ⟨g,off,none⟩)) rfl (by kernel_rfl) (by kernel_rfl) (by kernel_rfl) (fun _ _ _ h=>h) (Or.inl ⟨by rfl,fun w hS=>by have e:=HP.out w hS;go_simp⟩) hS ?_
  try simp only [Act.put,List.getElem_toArray,List.getElem_cons_zero,List.getElem_cons_succ,List.setIfInBounds_toArray,List.set_cons_zero,List.set_cons_succ]
  refine wpAnyH_take (i:=14) (v:=.pointer (some ⟨g,off,none⟩)) rfl (by kernel_rfl) (by kernel_rfl) (by kernel_rfl) (fun _ _ _ h=>h) (Or.inl ⟨by rfl,fun w hS=>by go_simp⟩) hS ?_
  try simp only [Act.put,List.getElem_toArray,List.getElem_cons_zero,List.getElem_cons_succ,List.setIfInBounds_toArray,List.set_cons_zero,List.set_cons_succ]
  refine wpAnyH_take (i:=15) (v:=.pointer (some ⟨g,off+3,none⟩)) rfl (by kernel_rfl) (by kernel_rfl) (by kernel_rfl) (fun _ _ _ h=>h) (Or.inl ⟨by rfl,fun w hS=>by go_simp⟩) hS ?_
  try simp only [Act.put,List.getElem_toArray,List.getElem_cons_zero,List.getElem_cons_succ,List.setIfInBounds_toArray,List.set_cons_zero,List.set_cons_succ]
  refine wpAnyH_take (i:=16) (v:=.slice ra R rc) rfl (by kernel_rfl) (by kernel_rfl) (by kernel_rfl) (fun _ _ _ h=>h) (Or.inl ⟨by rfl,fun w hS=>by have e:=(H6.out w hS).c3;rw [← HL.out.1] at e;go_simp⟩) hS ?_
  try simp only [Act.put,List.getElem_toArray,List.getElem_cons_zero,List.getElem_cons_succ,List.setIfInBounds_toArray,List.set_cons_zero,List.set_cons_succ]
  refine wpAnyH_take (i:=17) (v:=.agg #[.int .i64 (bv:Int),.int .i64 (bd:Int)]) rfl (by kernel_rfl) (by kernel_rfl) (by kernel_rfl) (fun _ _ _ h=>h) (Or.inl ⟨by rfl,fun w hS=>by obtain⟨q0,q1⟩:=(HB.out w hS).cs;go_simp⟩) hS ?_
  try simp only [Act.put,List.getElem_toArray,List.getElem_cons_zero,List.getElem_cons_succ,List.setIfInBounds_toArray,List.set_cons_zero,List.set_cons_succ]
  refine wpAnyH_ready (rs:=[7,20]) (by kernel_rfl) (by simp) ?_
  refine ready_cons rfl (fun KK hKK=>?_) (ready_cons rfl (fun KK hKK=>?_) AllReadyH.nil)
  ·skip
   refine⟨?_⟩
   have cN:=HN.out wd hS
   go_simp
   refine cN.mono ?_
   rintro e w2 ⟨⟨hN0,v9,rfl,rfl⟩ | ⟨hne,rfl⟩,hb9⟩
   rotate_left
   ·have hSw2:Below n1 w1 w2:=hS.trans (hb9.mono (by have:=sd.out;omega))
    exact⟨rfl,.inr ⟨by rw [HEr2.out,if_neg hne];exact hne,by rw [HEr2.out,if_neg hne]⟩,by rw [HXs.out];exact HB1.out _ hSw2⟩
   have hSw2:Below n1 w1 w2:=hS.trans (hb9.mono (by have:=sd.out;omega))
   have gw2:Hid (wd.heap.size≤w2.heap.size):=hb9.size
   have bw2:=hb9
   clear cN hb9
   refine hKK.out _ _ hSw2 (fun hS=>?_)
   clear hKK KK
   try simp only [Act.put,List.getElem_toArray,List.getElem_cons_zero,List.getElem_cons_succ,List.setIfInBounds_toArray,List.set_cons_zero,List.set_cons_succ]
   refine wpAnyH_ready (rs:=[18,20]) (by kernel_rfl) (by simp) ?_
   refine ready_cons rfl (fun KK hKK=>?_) (ready_cons rfl (fun KK hKK=>?_) AllReadyH.nil)
   ·skip
    refine⟨?_⟩
    have cR:=HRw.out w2 hS
    go_simp
    refine cR.mono ?_
    rintro e w3 ⟨⟨hR0,v9,rfl,hO⟩ | ⟨hne,rfl⟩,hb9⟩
    rotate_left
    ·have hSw3:Below n1 w1 w3:=hS.trans (hb9.mono (by have:=sd.out;have:=gw2.out;omega))
     exact⟨rfl,.inr ⟨by rw [HEr2.out,if_pos hN0,if_neg hne];exact hne,by rw [HEr2.out,if_pos hN0,if_neg hne]⟩,by rw [HXs.out];exact HB1.out _ hSw3⟩
    have hSw3:Below n1 w1 w3:=hS.trans (hb9.mono (by have:=sd.out;have:=gw2.out;omega))
    have hge:=(World.ownsRow.lt hO)
    have gw3:Hid (w2.heap.size≤w3.heap.size):=hb9.size
    have bw3:=hb9
    obtain⟨ra3,rc3,rfl⟩:=OwnsC.len hO
    have hO1:=OwnsC.mono hO (show n1≤w2.heap.size from by have:=sd.out;have:=gw2.out;have:=gw3.out;omega)
    clear cR hb9
    refine hKK.out _ _ hSw3 (fun hS=>?_)
    clear hKK KK
    try simp only [Act.put,List.getElem_toArray,List.getElem_cons_zero,List.getElem_cons_succ,List.setIfInBounds_toArray,List.set_cons_zero,List.set_cons_succ]
    refine wpAnyH_take (i:=19) (v:=.agg #[.int .i64 kd,.int .i64 nV,.string t.name,.slice ra3 rw'.length rc3,.slice none 0 0,.slice none 0 0]) rfl (by kernel_rfl) (by kernel_rfl) (by kernel_rfl) (fun _ _ _ h=>h) (Or.inl ⟨by rfl,fun w hS=>by go_simp⟩) hS ?_
    try simp only [Act.put,List.getElem_toArray,List.getElem_cons_zero,List.getElem_cons_succ,List.setIfInBounds_toArray,List.set_cons_zero,List.set_cons_succ]
    refine wpAnyH_ready (rs:=[20]) (by kernel_rfl) (by simp) ?_
    refine ready_cons rfl (fun KK hKK=>?_) AllReadyH.nil
    have hne:=own_ne hO1
    obtain⟨w4,hw4⟩:∃ W,W=w3.alloc (.cells #[.int .i64 0,.int .i64 0,.string ⟨#[]⟩,.slice none 0 0,.slice none 0 0,.slice none 0 0] 26):=⟨_,rfl⟩
    have bw4:Below w3.heap.size w3 w4:=by rw [hw4];exact belowA _ _
    have sw4:Hid (w4.heap.size=w3.heap.size+1):=(by rw [hw4];simp:w4.heap.size=w3.heap.size+1)
    have hZ:Six w4 w3.heap.size (.int .i64 0) (.int .i64 0) (.string ⟨#[]⟩) (.slice none 0 0) (.slice none 0 0) (.slice none 0 0):=⟨by rw [hw4];exact heapNew _ _⟩
    have hSw4:Below n1 w1 w4:=hS.trans (bw4.mono (by have:=sd.out;have:=gw2.out;have:=gw3.out;omega))
    have Hw4:Hid (_=_):=hw4
    clear hw4
    refine⟨?_⟩
    go_simp
    rw [← Hw4.out]
    refine hKK.out _ _ hSw4 (fun hS=>?_)
    clear hKK KK
    try simp only [Act.put,List.getElem_toArray,List.getElem_cons_zero,List.getElem_cons_succ,List.setIfInBounds_toArray,List.set_cons_zero,List.set_cons_succ]
    have hO1:=oc_blw hO1 bw4
    refine wpAnyH_ready (rs:=[21]) (by kernel_rfl) (by simp) ?_
    refine ready_cons rfl (fun KK hKK=>?_) AllReadyH.nil
    obtain⟨w5,hw5⟩:∃ W,W=(((((w4.setCell ⟨w3.heap.size,0,none⟩ (.int .i64 kd)).setCell ⟨w3.heap.size,1,none⟩ (.int .i64 nV)).setCell ⟨w3.heap.size,2,none⟩ (.string t.name)).setCell ⟨w3.heap.size,3,none⟩ (.slice ra3 rw'.length rc3)).setCell ⟨w3.heap.size,4,none⟩ (.slice none 0 0)).setCell ⟨w3.heap.size,5,none⟩ (.slice none 0 0):=⟨_,rfl⟩
    have kst:Kn (fun q=>q≠w3.heap.size) w4 w5:=by rw [hw5];exact kn_six _ _ _ _ _ _ _ _
    have hSw5:Below n1 w1 w5:=hS.trans (kst.below (fun q hq=>by have:=sd.out;have:=gw2.out;have:=gw3.out;have:=sw4.out;omega) (by have:=sd.out;have:=gw2.out;have:=gw3.out;have:=sw4.out;omega))
    have hZ2:=hZ.set6 (.int .i64 kd) (.int .i64 nV) (.string t.name) (.slice ra3 rw'.length rc3) (.slice none 0 0) (.slice none 0 0)
    rw [← hw5] at hZ2
    obtain⟨z0,z1,z2,z3,z4,z5,zf⟩:=hZ.cells
    have f0:=zf 0
    have f1:=zf 1
    have f2:=zf 2
    have f3:=zf 3
    have f4:=zf 4
    have f5:=zf 5
    have Hw5:Hid (_=_):=hw5
    have HFn:Hid (ClRow (fun q=>OkN n1 w5 q∧q≠w3.heap.size) w5 rw' (.slice ra3 rw'.length rc3)):=row_start hO1 (hne) kst
    have hno:n1≤w3.heap.size:=by have:=sd.out;have:=gw2.out;have:=gw3.out;have:=sw4.out;omega
    clear hw5 zf
    refine⟨?_⟩
    go_simp
    rw [← Hw5.out]
    refine hKK.out _ _ hSw5 (fun hS=>?_)
    clear hKK KK
    try simp only [Act.put,List.getElem_toArray,List.getElem_cons_zero,List.getElem_cons_succ,List.setIfInBounds_toArray,List.set_cons_zero,List.set_cons_succ]
    refine wpAnyH_done (by kernel_rfl) ?_ _
    go_wp2_with fail
    go_meet
    exact⟨_,_,_,rfl,hZ2,HFn.out,hno,hS,⟨hN0,hR0⟩⟩
   ·skip
    obtain⟨w3,hw3⟩:∃ W,W=w2.alloc (.cells #[.int .i64 0,.int .i64 0,.string ⟨#[]⟩,.slice none 0 0,.slice none 0 0,.slice none 0 0] 26):=⟨_,rfl⟩
    have bw3:Below w2.heap.size w2 w3:=by rw [hw3];exact belowA _ _
    have sw3:Hid (w3.heap.size=w2.heap.size+1):=(by rw [hw3];simp:w3.heap.size=w2.heap.size+1)
    have hZ:Six w3 w2.heap.size (.int .i64 0) (.int .i64 0) (.string ⟨#[]⟩) (.slice none 0 0) (.slice none 0 0) (.slice none 0 0):=⟨by rw [hw3];exact heapNew _ _⟩
    have hSw3:Below n1 w1 w3:=hS.trans (bw3.mono (by have:=sd.out;have:=gw2.out;omega))
    have Hw3:Hid (_=_):=hw3
    clear hw3
    refine⟨?_⟩
    go_simp
    rw [← Hw3.out]
    refine hKK.out _ _ hSw3 (fun hS=>?_)
    clear hKK KK
    try simp only [Act.put,List.getElem_toArray,List.getElem_cons_zero,List.getElem_cons_succ,List.setIfInBounds_toArray,List.set_cons_zero,List.set_cons_succ]
    refine wpAnyH_ready (rs:=[18]) (by kernel_rfl) (by simp) ?_
    refine ready_cons rfl (fun KK hKK=>?_) AllReadyH.nil
    refine⟨?_⟩
    have cR:=HRw.out w3 hS
    go_simp
    refine cR.mono ?_
    rintro e w4 ⟨⟨hR0,v9,rfl,hO⟩ | ⟨hne,rfl⟩,hb9⟩
    rotate_left
    ·have hSw4:Below n1 w1 w4:=hS.trans (hb9.mono (by have:=sd.out;have:=gw2.out;have:=sw3.out;omega))
     exact⟨rfl,.inr ⟨by rw [HEr2.out,if_pos hN0,if_neg hne];exact hne,by rw [HEr2.out,if_pos hN0,if_neg hne]⟩,by rw [HXs.out];exact HB1.out _ hSw4⟩
    have hSw4:Below n1 w1 w4:=hS.trans (hb9.mono (by have:=sd.out;have:=gw2.out;have:=sw3.out;omega))
    have hge:=(World.ownsRow.lt hO)
    have gw4:Hid (w3.heap.size≤w4.heap.size):=hb9.size
    have bw4:=hb9
    obtain⟨ra3,rc3,rfl⟩:=OwnsC.len hO
    have hO1:=OwnsC.mono hO (show n1≤w3.heap.size from by have:=sd.out;have:=gw2.out;have:=sw3.out;have:=gw4.out;omega)
    clear cR hb9
    refine hKK.out _ _ hSw4 (fun hS=>?_)
    clear hKK KK
    try simp only [Act.put,List.getElem_toArray,List.getElem_cons_zero,List.getElem_cons_succ,List.setIfInBounds_toArray,List.set_cons_zero,List.set_cons_succ]
    refine wpAnyH_take (i:=19) (v:=.agg #[.int .i64 kd,.int .i64 nV,.string t.name,.slice ra3 rw'.length rc3,.slice none 0 0,.slice none 0 0]) rfl (by kernel_rfl) (by kernel_rfl) (by kernel_rfl) (fun _ _ _ h=>h) (Or.inl ⟨by rfl,fun w hS=>by go_simp⟩) hS ?_
    try simp only [Act.put,List.getElem_toArray,List.getElem_cons_zero,List.getElem_cons_succ,List.setIfInBounds_toArray,List.set_cons_zero,List.set_cons_succ]
    have hZ:=hZ.blw bw4
    refine wpAnyH_ready (rs:=[21]) (by kernel_rfl) (by simp) ?_
    refine ready_cons rfl (fun KK hKK=>?_) AllReadyH.nil
    obtain⟨w5,hw5⟩:∃ W,W=(((((w4.setCell ⟨w2.heap.size,0,none⟩ (.int .i64 kd)).setCell ⟨w2.heap.size,1,none⟩ (.int .i64 nV)).setCell ⟨w2.heap.size,2,none⟩ (.string t.name)).setCell ⟨w2.heap.size,3,none⟩ (.slice ra3 rw'.length rc3)).setCell ⟨w2.heap.size,4,none⟩ (.slice none 0 0)).setCell ⟨w2.heap.size,5,none⟩ (.slice none 0 0):=⟨_,rfl⟩
    have kst:Kn (fun q=>q≠w2.heap.size) w4 w5:=by rw [hw5];exact kn_six _ _ _ _ _ _ _ _
    have hSw5:Below n1 w1 w5:=hS.trans (kst.below (fun q hq=>by have:=sd.out;have:=gw2.out;have:=sw3.out;have:=gw4.out;omega) (by have:=sd.out;have:=gw2.out;have:=sw3.out;have:=gw4.out;omega))
    have hZ2:=hZ.set6 (.int .i64 kd) (.int .i64 nV) (.string t.name) (.slice ra3 rw'.length rc3) (.slice none 0 0) (.slice none 0 0)
    rw [← hw5] at hZ2
    obtain⟨z0,z1,z2,z3,z4,z5,zf⟩:=hZ.cells
    have f0:=zf 0
    have f1:=zf 1
    have f2:=zf 2
    have f3:=zf 3
    have f4:=zf 4
    have f5:=zf 5
    have Hw5:Hid (_=_):=hw5
    have HFn:Hid (ClRow (fun q=>OkN n1 w5 q∧q≠w2.heap.size) w5 rw' (.slice ra3 rw'.length rc3)):=row_start hO1 (fun e=>by have:=(hge _ e).1;have:=sw3.out;omega) kst
    have hno:n1≤w2.heap.size:=by have:=sd.out;have:=gw2.out;have:=sw3.out;have:=gw4.out;omega
    clear hw5 zf
    refine⟨?_⟩
    go_simp
    rw [← Hw5.out]
    refine hKK.out _ _ hSw5 (fun hS=>?_)
    clear hKK KK
    try simp only [Act.put,List.getElem_toArray,List.getElem_cons_zero,List.getElem_cons_succ,List.setIfInBounds_toArray,List.set_cons_zero,List.set_cons_succ]
    refine wpAnyH_done (by kernel_rfl) ?_ _
    go_wp2_with fail
    go_meet
    exact⟨_,_,_,rfl,hZ2,HFn.out,hno,hS,⟨hN0,hR0⟩⟩
  ·skip
   obtain⟨w2,hw2⟩:∃ W,W=wd.alloc (.cells #[.int .i64 0,.int .i64 0,.string ⟨#[]⟩,.slice none 0 0,.slice none 0 0,.slice none 0 0] 26):=⟨_,rfl⟩
   have bw2:Below wd.heap.size wd w2:=by rw [hw2];exact belowA _ _
   have sw2:Hid (w2.heap.size=wd.heap.size+1):=(by rw [hw2];simp:w2.heap.size=wd.heap.size+1)
   have hZ:Six w2 wd.heap.size (.int .i64 0) (.int .i64 0) (.string ⟨#[]⟩) (.slice none 0 0) (.slice none 0 0) (.slice none 0 0):=⟨by rw [hw2];exact heapNew _ _⟩
   have hSw2:Below n1 w1 w2:=hS.trans (bw2.mono (by have:=sd.out;omega))
   have Hw2:Hid (_=_):=hw2
   clear hw2
   refine⟨?_⟩
   go_simp
   rw [← Hw2.out]
   refine hKK.out _ _ hSw2 (fun hS=>?_)
   clear hKK KK
   try simp only [Act.put,List.getElem_toArray,List.getElem_cons_zero,List.getElem_cons_succ,List.setIfInBounds_toArray,List.set_cons_zero,List.set_cons_succ]
   refine wpAnyH_ready (rs:=[7]) (by kernel_rfl) (by simp) ?_
   refine ready_cons rfl (fun KK hKK=>?_) AllReadyH.nil
   refine⟨?_⟩
   have cN:=HN.out w2 hS
   go_simp
   refine cN.mono ?_
   rintro e w3 ⟨⟨hN0,v9,rfl,rfl⟩ | ⟨hne,rfl⟩,hb9⟩
   rotate_left
   ·have hSw3:Below n1 w1 w3:=hS.trans (hb9.mono (by have:=sd.out;have:=sw2.out;omega))
    exact⟨rfl,.inr ⟨by rw [HEr2.out,if_neg hne];exact hne,by rw [HEr2.out,if_neg hne]⟩,by rw [HXs.out];exact HB1.out _ hSw3⟩
   have hSw3:Below n1 w1 w3:=hS.trans (hb9.mono (by have:=sd.out;have:=sw2.out;omega))
   have gw3:Hid (w2.heap.size≤w3.heap.size):=hb9.size
   have bw3:=hb9
   clear cN hb9
   refine hKK.out _ _ hSw3 (fun hS=>?_)
   clear hKK KK
   try simp only [Act.put,List.getElem_toArray,List.getElem_cons_zero,List.getElem_cons_succ,List.setIfInBounds_toArray,List.set_cons_zero,List.set_cons_succ]
   have hZ:=hZ.blw bw3
   refine wpAnyH_ready (rs:=[18]) (by kernel_rfl) (by simp) ?_
   refine ready_cons rfl (fun KK hKK=>?_) AllReadyH.nil
   refine⟨?_⟩
   have cR:=HRw.out w3 hS
   go_simp
   refine cR.mono ?_
   rintro e w4 ⟨⟨hR0,v9,rfl,hO⟩ | ⟨hne,rfl⟩,hb9⟩
   rotate_left
   ·have hSw4:Below n1 w1 w4:=hS.trans (hb9.mono (by have:=sd.out;have:=sw2.out;have:=gw3.out;omega))
    exact⟨rfl,.inr ⟨by rw [HEr2.out,if_pos hN0,if_neg hne];exact hne,by rw [HEr2.out,if_pos hN0,if_neg hne]⟩,by rw [HXs.out];exact HB1.out _ hSw4⟩
   have hSw4:Below n1 w1 w4:=hS.trans (hb9.mono (by have:=sd.out;have:=sw2.out;have:=gw3.out;omega))
   have hge:=(World.ownsRow.lt hO)
   have gw4:Hid (w3.heap.size≤w4.heap.size):=hb9.size
   have bw4:=hb9
   obtain⟨ra3,rc3,rfl⟩:=OwnsC.len hO
   have hO1:=OwnsC.mono hO (show n1≤w3.heap.size from by have:=sd.out;have:=sw2.out;have:=gw3.out;have:=gw4.out;omega)
   clear cR hb9
   refine hKK.out _ _ hSw4 (fun hS=>?_)
   clear hKK KK
   try simp only [Act.put,List.getElem_toArray,List.getElem_cons_zero,List.getElem_cons_succ,List.setIfInBounds_toArray,List.set_cons_zero,List.set_cons_succ]
   refine wpAnyH_take (i:=19) (v:=.agg #[.int .i64 kd,.int .i64 nV,.string t.name,.slice ra3 rw'.length rc3,.slice none 0 0,.slice none 0 0]) rfl (by kernel_rfl) (by kernel_rfl) (by kernel_rfl) (fun _ _ _ h=>h) (Or.inl ⟨by rfl,fun w hS=>by go_simp⟩) hS ?_
   try simp only [Act.put,List.getElem_toArray,List.getElem_cons_zero,List.getElem_cons_succ,List.setIfInBounds_toArray,List.set_cons_zero,List.set_cons_succ]
   have hZ:=hZ.blw bw4
   refine wpAnyH_ready (rs:=[21]) (by kernel_rfl) (by simp) ?_
   refine ready_cons rfl (fun KK hKK=>?_) AllReadyH.nil
   obtain⟨w5,hw5⟩:∃ W,W=(((((w4.setCell ⟨wd.heap.size,0,none⟩ (.int .i64 kd)).setCell ⟨wd.heap.size,1,none⟩ (.int .i64 nV)).setCell ⟨wd.heap.size,2,none⟩ (.string t.name)).setCell ⟨wd.heap.size,3,none⟩ (.slice ra3 rw'.length rc3)).setCell ⟨wd.heap.size,4,none⟩ (.slice none 0 0)).setCell ⟨wd.heap.size,5,none⟩ (.slice none 0 0):=⟨_,rfl⟩
   have kst:Kn (fun q=>q≠wd.heap.size) w4 w5:=by rw [hw5];exact kn_six _ _ _ _ _ _ _ _
   have hSw5:Below n1 w1 w5:=hS.trans (kst.below (fun q hq=>by have:=sd.out;have:=sw2.out;have:=gw3.out;have:=gw4.out;omega) (by have:=sd.out;have:=sw2.out;have:=gw3.out;have:=gw4.out;omega))
   have hZ2:=hZ.set6 (.int .i64 kd) (.int .i64 nV) (.string t.name) (.slice ra3 rw'.length rc3) (.slice none 0 0) (.slice none 0 0)
   rw [← hw5] at hZ2
   obtain⟨z0,z1,z2,z3,z4,z5,zf⟩:=hZ.cells
   have f0:=zf 0
   have f1:=zf 1
   have f2:=zf 2
   have f3:=zf 3
   have f4:=zf 4
   have f5:=zf 5
   have Hw5:Hid (_=_):=hw5
   have HFn:Hid (ClRow (fun q=>OkN n1 w5 q∧q≠wd.heap.size) w5 rw' (.slice ra3 rw'.length rc3)):=row_start hO1 (fun e=>by have:=(hge _ e).1;have:=sw2.out;have:=gw3.out;omega) kst
   have hno:n1≤wd.heap.size:=by have:=sd.out;have:=sw2.out;have:=gw3.out;have:=gw4.out;omega
   clear hw5 zf
   refine⟨?_⟩
   go_simp
   rw [← Hw5.out]
   refine hKK.out _ _ hSw5 (fun hS=>?_)
   clear hKK KK
   try simp only [Act.put,List.getElem_toArray,List.getElem_cons_zero,List.getElem_cons_succ,List.setIfInBounds_toArray,List.set_cons_zero,List.set_cons_succ]
   refine wpAnyH_done (by kernel_rfl) ?_ _
   go_wp2_with fail
   go_meet
   exact⟨_,_,_,rfl,hZ2,HFn.out,hno,hS,⟨hN0,hR0⟩⟩
 case rest =>
 obtain⟨o,ra0,rc0,rfl,hO,hR0,hno,hSc,HZ0⟩:=hcut
 obtain⟨wo,hwo⟩:∃ W,W=wc:=⟨_,rfl⟩
 subst hwo
 clear hS1 HN HRw
 have hso:n1≤wo.heap.size:=by rw [Hn1.out.1];exact hSc.size
 have holt:=hO.lt
 have cK:=HK.out wo hSc
 have xp:=HP.out wo hSc
 have x4:=(H6.out wo hSc).c4
 rw [← HL.out.2.1] at x4
 go_wp2_with fail
 refine cK.mono ?_
 rintro e w2 ⟨⟨hK0,v2,rfl,hv2⟩ | ⟨hne,rfl⟩,hb2⟩
 rotate_left
 ·exact⟨rfl,.inr ⟨by rw [HEr2.out,if_pos HZ0.out.1,if_pos HZ0.out.2,if_neg hne];exact hne,by rw [HEr2.out,if_pos HZ0.out.1,if_pos HZ0.out.2,if_neg hne]⟩,by rw [HXs.out];exact HB1.out _ (hSc.trans (hb2.mono hso))⟩
 clear cK xp x4
 obtain⟨ka2,kc2,rfl,_⟩:=id hv2
 rw [Hll.out.1] at hv2 ⊢
 have hO2:=hO.blw hb2
 have hS2:Below n1 w1 w2:=hSc.trans (hb2.mono hso)
 have hs2:=hb2.size
 obtain⟨w3,hw3⟩:∃ W,W=w2.setCell ⟨o,4,none⟩ (.slice ka2 L kc2):=⟨_,rfl⟩
 have k3:Kn (fun q=>q≠o) w2 w3:=by rw [hw3];exact kn_set _ _ _ _
 have hO3:Six w3 o (.int .i64 kd) (.int .i64 nV) (.string t.name) (.slice ra0 rw'.length rc0) (.slice ka2 L kc2) (.slice none 0 0):=by rw [hw3];exact hO2.set4 _
 have hS3:Below n1 w1 w3:=hS2.trans (k3.below (fun q hq=>by omega) (by omega))
 have z4:=hO2.cells.2.2.2.2.1
 have f4:=hO2.cells.2.2.2.2.2.2 4
 have H3:Hid (_=_):=hw3
 have hs3:=k3.size
 have HKd:Hid (KdT (fun q=>OkN n1 w2 q∧q≠o) w2 (TmIn (fun q=>OkN n1 w2 q∧q≠o) w2) lK (.slice ka2 L kc2)):=hv2.all (Nat.le_refl _) (fun q hq=>⟨hq.mono hso,by have:=hq.1;omega⟩) (fun _ _ _=>rfl)
 have K3:Hid (Kn (fun q=>q≠o) wo w3):=(Kn.of_below hb2).trans k3
 have Kk3:Hid (Kn (fun q=>q≠o) w2 w3):=k3
 clear hw3 hv2 k3 hO2 hb2 HK
 go_upto_region 3 with fail
 rw [← H3.out]
 clear H3 z4 f4
 obtain⟨p,hp⟩:∃ p,p=w3.heap.size:=⟨_,rfl⟩
 obtain⟨w4,hw4⟩:∃ W,W=w3.alloc (.cells #[.int .i64 (bv:Int),.int .i64 (bd:Int)] 194):=⟨_,rfl⟩
 have b4:Below w3.heap.size w3 w4:=by rw [hw4];exact belowA _ _
 have hB4:Bnd w4 p bv bd:=by rw [hw4,hp];exact heapNew _ _
 have hS4:Below n1 w1 w4:=hS3.trans (b4.mono (by omega))
 obtain⟨y0,y1⟩:=(HB.out w3 hS3).cs
 have H4:Hid (_=_):=hw4
 have Hp:Hid (p=w3.heap.size):=hp
 clear hw4 hp
 go_upto_region 4 with fail
 rw [← H4.out]
 simp only [← Hp.out]
 clear H4 y0 y1
 have xp:=HP.out w4 hS4
 have xk:=(H6.out w4 hS4).c0
 rw [← Hkd.out] at xk
 go_upto_if 41 with fail
 clear xp xk
 have HB4:Hid (Bnd w4 p bv bd):=hB4
 obtain⟨q0,q1⟩:=hB4.cs
 have qf:w4.frozen? ⟨p,1,none⟩=false:=by unfold Bnd at hB4;unfold World.frozen?; simp [hB4]
 go_cut [] (fun wx=>Bnd wx p bv (bd+moreK t.kind)∧Kn (fun q=>q≠p) w4 wx)
 case first=>as_aux_lemma =>
  by_cases h15:kd=15
  ·subst h15
   have hm:moreK t.kind=1:=by rw [HM15.out,if_pos Hkd.out.symm]
   have wr:wrap64 ((bd:Int) + 1)=(bd:Int) + 1:=by simp [wrap64];omega
   have HBn:Hid (Bnd (w4.setCell ⟨p,1,none⟩ (.int .i64 ((bd:Int) + 1))) p bv (bd+moreK t.kind)):=by
    rw [hm]
    have:=set_blk (i:=1) hB4 (.int .i64 ((bd:Int) + 1))
    exact this
   clear hB4
   go_wp2_with fail
   go_meet
   exact⟨HBn.out,kn_set _ _ _ _⟩
  ·have h15b:(kd == 15)=false:=by simpa using h15
   have hm:moreK t.kind=0:=by rw [HM15.out,if_neg (by rw [← Hkd.out];exact h15)]
   clear hB4
   go_wp2_with fail
   go_meet
   exact⟨by rw [hm];exact HB4.out,Kn.refl _ _⟩
 case rest =>
 obtain⟨hBn,k5⟩:=hcut
 obtain⟨w5,hw5⟩:∃ W,W=wc:=⟨_,rfl⟩
 subst hw5
 clear q0 q1 qf HB4 hB4
 have b35:Below w3.heap.size w3 w5:=b4.trans (k5.below (fun q hq=>by have:=Hp.out;omega) b4.size)
 have hS5:Below n1 w1 w5:=hS3.trans (b35.mono (by omega))
 have hO5:=hO3.blw b35
 have hs5:=b35.size
 have cS:=HS.out w5 p hS5 hBn
 have xp:=HP.out w5 hS5
 have x5:=(H6.out w5 hS5).c5
 rw [← HL.out.2.2] at x5
 clear k5 b4 hO3 hBn HS
 go_wp2_with fail
 refine cS.mono ?_
 rintro e w6 ⟨⟨hS0,v6,rfl,hv6⟩ | ⟨hne,rfl⟩,hb6⟩
 rotate_left
 ·exact⟨rfl,.inr ⟨by rw [HEr2.out,if_pos HZ0.out.1,if_pos HZ0.out.2,if_pos hK0];exact hne,by rw [HEr2.out,if_pos HZ0.out.1,if_pos HZ0.out.2,if_pos hK0]⟩,by rw [HXs.out];exact HB1.out _ (hS5.trans (hb6.mono (by omega)))⟩
 clear cS xp x5
 obtain⟨sa6,sc6,rfl,_⟩:=id hv6
 rw [Hll.out.2] at hv6 ⊢
 have hO6:=hO5.blw hb6
 have hs6:=hb6.size
 have hS6:Below n1 w1 w6:=hS5.trans (hb6.mono (by omega))
 obtain⟨w7,hw7⟩:∃ W,W=w6.setCell ⟨o,5,none⟩ (.slice sa6 M sc6):=⟨_,rfl⟩
 have k7:Kn (fun q=>q≠o) w6 w7:=by rw [hw7];exact kn_set _ _ _ _
 have hO7:Six w7 o (.int .i64 kd) (.int .i64 nV) (.string t.name) (.slice ra0 rw'.length rc0) (.slice ka2 L kc2) (.slice sa6 M sc6):=by rw [hw7];exact hO6.set5 _
 have hS7:Below n1 w1 w7:=hS6.trans (k7.below (fun q hq=>by omega) (by omega))
 have K37:Kn (fun q=>q≠o) w3 w7:=((Kn.of_below b35).trans (Kn.of_below hb6)).trans k7
 have r7:=rowk hR0 (K3.out.trans K37)
 have d7:=kdk HKd.out (Kk3.out.trans K37)
 have y7:=syk (n:=n1) (o:=o) (hv6.all (Nat.le_refl _) (fun q hq=>(⟨hq.mono (by omega),by have:=hq.1;omega⟩:OkN n1 w6 q∧q≠o)) (fun _ _ _=>rfl)) k7
 obtain⟨w8,hw8⟩:∃ W,W=(((((w7.setCell ⟨X+2,0,none⟩ (.int .i64 kd)).setCell ⟨X+2,1,none⟩ (.int .i64 nV)).setCell ⟨X+2,2,none⟩ (.string t.name)).setCell ⟨X+2,3,none⟩ (.slice ra0 rw'.length rc0)).setCell ⟨X+2,4,none⟩ (.slice ka2 L kc2)).setCell ⟨X+2,5,none⟩ (.slice sa6 M sc6):=⟨_,rfl⟩
 have k8:Kn (fun q=>q≠X+2) w7 w8:=by rw [hw8];exact kn_six _ _ _ _ _ _ _ _
 have z7:=HZ.out w7 hS7
 have z8:=z7.set6 (.int .i64 kd) (.int .i64 nV) (.string t.name) (.slice ra0 rw'.length rc0) (.slice ka2 L kc2) (.slice sa6 M sc6)
 rw [← hw8] at z8
 have hn12:=Hn1.out.2
 have up:∀ q,(OkN n1 w7 q∧q≠o)→OkN X w8 q:=fun q hq=>(hq.1.same (k8.block q (by have:=hq.1.1;omega) hq.1.lt)).mono (by omega)
 have ub:∀ q,(OkN n1 w7 q∧q≠o)→q<w7.heap.size→w8.heap[q]? = w7.heap[q]?:=fun q hq hs=>k8.block q (by have:=hq.1.1;omega) hs
 have HTm:Hid (TmIn (OkN X w8) w8 (liT s t bv bd) (.agg #[.int .i64 kd,.int .i64 nV,.string t.name,.slice ra0 rw'.length rc0,.slice ka2 L kc2,.slice sa6 M sc6])):=by
  rw [HLi.out,← Hkd.out]
  exact TmIn.mk kd nV t.name rw' lK lS _ _ _ (by rw [Hkd.out];exact HIk.out) (HVI.out HZ0.out.1) (r7.keep k8.size up ub) (d7.all k8.size up ub) (y7.all k8.size up ub)
 have b8:Below X w w8:=by
  rw [HXs.out]
  exact (HB1.out w7 hS7).trans (k8.below (fun q hq=>by have:=HXs.out;omega) (HB1.out w7 hS7).size)
 have HEz:Hid (erT s t bv bd=0):=(by rw [HEr2.out,if_pos HZ0.out.1,if_pos HZ0.out.2,if_pos hK0];exact hS0:erT s t bv bd=0)
 obtain⟨o0,o1,o2,o3,o4,o5,of⟩:=hO6.cells
 have f5:=of 5
 obtain⟨l0,l1,l2,l3,l4,l5,_⟩:=hO7.cells
 obtain⟨e0,e1,e2,e3,e4,e5,ef⟩:=z7.cells
 have g0:=ef 0
 have g1:=ef 1
 have g2:=ef 2
 have g3:=ef 3
 have g4:=ef 4
 have g5:=ef 5
 obtain⟨h0,h1,h2,h3,h4,h5,_⟩:=z8.cells
 have H7:Hid (_=_):=hw7
 have H8:Hid (_=_):=hw8
 clear hw7 hw8 hv6 hO6 k7 hO7 K37 r7 d7 y7 k8 z7 z8 up ub ef of hn12 hb6 b35 hS0 hK0
 go_upto_region 7 with fail
 rw [← H7.out]
 clear H7 o0 o1 o2 o3 o4 o5 f5
 go_wp2_with fail
 rw [← H8.out]
 exact bodyPost_ret (v:=.agg #[.int .i64 kd,.int .i64 nV,.string t.name,.slice ra0 rw'.length rc0,.slice ka2 L kc2,.slice sa6 M sc6]) (by simp only [results,Tryz.results215];simp [go_sem,h0,h1,h2,h3,h4,h5]) rfl ⟨.ok HEz.out HTm.out,b8⟩
theorem lf_any {s:Sf} (hs:s.ok):∀ N:Nat,LfC s N
 | 0=>fun t bv bd g off xs xl ra rc ka kc sa sc w _ _ _ _ hN=>by have:=blk_pos t;omega
 | N+1=>lf_step hs N (lf_any hs N)
end Go.Proofs.YtblbhmnahoiecaaGreat
