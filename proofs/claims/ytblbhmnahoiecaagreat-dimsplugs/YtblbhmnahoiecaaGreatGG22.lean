/- How often a variable stands in a term: count. -/
import Derived.Test.YtblbhmnahoiecaaGreatGYPcV
import Derived.Test.YtblbhmnahoiecaaGreatGG17
import Derived.Test.YtblbhmnahoiecaaGreatGYPeV
import Derived.Test.YtblbhmnahoiecaaGreatGYMeas
set_option linter.unusedVariables false
set_option linter.unusedSimpArgs false
set_option maxRecDepth 100000
set_option maxHeartbeats 8000000
namespace Go.Proofs.YtblbhmnahoiecaaGreat
open Go.RowKit
theorem cv_any:∀ N,CvC N
 | 0=>by intro t bv bd g off nb tb ra rc ka kc sa sc n c w _ _ _ _ _ h;have:=blk_pos t;omega
 | N+1=>cv_step N (cv_any N)
theorem cn_blk (n:Int):∀ (N:Nat) (t:Tm) (bv:Nat),blk t≤N→cnP n t bv≤blk t
 | 0,t,bv,h=>by have:=blk_pos t;omega
 | N+1,t,bv,h=>by
  rw [cn_eq,blk_eq]
  have h1:(cnK n t.kind t.kids bv).sum≤blkL t.kids:=by
   have e:blkL t.kids=(t.kids.zipIdx.map fun p=>blk p.1).sum:=by
    unfold blkL
    congr 1
    refine List.ext_getElem? fun i=>?_
    simp only [List.getElem?_map,List.getElem?_zipIdx]
    cases t.kids[i]? <;> simp
   rw [e]
   exact sumN_le fun p hp=>cn_blk n N p.1 _ (by have:=blk_kid (t:=t) (List.mem_of_getElem? (List.mem_zipIdx_iff_getElem?.1 hp));omega)
  have h2:(t.sys.map fun b=>(cnL n b.2 bv).sum).sum≤blkS t.sys:=by
   refine sumN_le fun b hb=>?_
   have:(cnL n b.2 bv).sum≤blkL b.2:=sumN_le fun x hx=>cn_blk n N x _ (by have:=blk_sub hb hx;omega)
   omega
  split <;> omega
theorem pmkfn (fn:Fn) (first cap:Array Value) (w:World):(Instr.makeFunc fn first cap).run Tryz.prog w=.ok (.func fn first cap) w:=rfl
theorem pcount_any (n:Int) (hn:I64 n) (t:Tm) (v:Value) (w:World) (hv:TmIn Tt w t v) (hf:Fp t) (hb:blk t≤100000) :
  Calls Tryz.prog 55 #[v,.int .i64 n] w fun e w'=>e=.returned (.int .i64 (cnP n t 0:Nat))∧Below w.heap.size w w':=by
 obtain⟨ra,rc,ka,kc,sa,sc,rfl,ht⟩:=(hv.lt' (ok':=fun q=>q<w.heap.size) (fun q _ h=>h)).form
 obtain⟨X,hX⟩:∃ X,X=w.heap.size:=⟨_,rfl⟩
 obtain⟨wa,hwa⟩:∃ W,W=(w.alloc (.cells #[.int .i64 t.kind,.int .i64 t.n,.string t.name,.slice ra t.r.length rc,.slice ka t.kids.length kc,.slice sa t.sys.length sc] 26)).alloc (.cells #[.int .i64 n] 3):=⟨_,rfl⟩
 have ba:Below w.heap.size w wa:=by rw [hwa];exact bchain (belowA _ _) (belowA _ _)
 have sa':wa.heap.size=X+2:=by rw [hwa,hX];simp
 have m6:Cs6 wa X 0 t ra rc ka kc sa sc:=by rw [hwa,hX];exact (cs6_new w t ra rc ka kc sa sc).blw (belowA _ _)
 have mn:wa.heap[X+1]? = some (.cells #[.int .i64 n] 3 (0,0)):=by
  rw [hwa,hX];have:=heapNew (w.alloc (.cells #[.int .i64 t.kind,.int .i64 t.n,.string t.name,.slice ra t.r.length rc,.slice ka t.kids.length kc,.slice sa t.sys.length sc] 26)) (.cells #[.int .i64 n] 3);rwa [World.size_alloc] at this
 obtain⟨wb,hwb⟩:∃ W,W=wa.alloc (.cells #[.int .i64 0] 3):=⟨_,rfl⟩
 have bb:Below wa.heap.size wa wb:=by rw [hwb];exact belowA _ _
 have mt:wb.heap[X+2]? = some (.cells #[.int .i64 0] 3 (0,0)):=by rw [hwb,← sa'];exact heapNew _ _
 have sb':wb.heap.size=X+3:=by rw [hwb];simp;omega
 have hE:CEnv wb (X+1) (X+2) n 0:=⟨by omega,hn,(bb.cell (p:=⟨X+1,0,none⟩) (by show X+1<_;omega)).trans (by simp [World.cell?,mn]),by omega,mt⟩
 have hcn:=cn_blk n _ t 0 (Nat.le_refl _)
 have bab:=bchain ba bb
 have cc:Calls Tryz.prog 126 #[.pointer (some ⟨X,0,none⟩),.agg #[.int .i64 0,.int .i64 0],.func (.func 127) #[] #[.pointer (some ⟨X+1,0,none⟩),.pointer (some ⟨X+2,0,none⟩)]] wb fun e w'=>e=.returned (.tuple #[])∧CEnv w' (X+1) (X+2) n (0+(cnP n t 0:Int))∧Kn (fun q=>q≠X+2) wb w' :=
  cv_any _ t 0 0 X 0 (X+1) (X+2) ra rc ka kc sa sc n 0 wb hE (m6.blw bb) ((ht.blw bab).up fun q h=>⟨by omega,by omega⟩) (by omega) hf (Nat.le_refl _) (by omega) (by omega) (by omega) (by omega)
 rw [Int.zero_add] at cc
 obtain⟨cz,hcz⟩:∃ z:Int,z=(cnP n t 0:Nat):=⟨_,rfl⟩
 rw [← hcz] at cc ⊢
 have hmk:=pmkfn
 have HWa:Hid (_=_):=hwa
 have HWb:Hid (_=_):=hwb
 have HX:Hid (X=w.heap.size):=hX
 have Hab:Hid (Below w.heap.size w wb):=bab
 have Hsz:Hid (wa.heap.size=X+2∧wb.heap.size=X+3):=⟨sa',sb'⟩
 clear hwa hwb hX ba bb bab sa' sb' m6 mn mt hE hv ht hcz
 go_enter Tryz.func55,Tryz.ntmps55
 go_upto_region 1 with fail
 rw [← HWa.out]
 simp only [← HX.out]
 clear HWa
 go_upto_region 2 with fail
 rw [← HWb.out]
 simp only [Hsz.out.1]
 clear HWb
 go_wp2_with fail
 refine cc.mono ?_
 rintro e w3 ⟨rfl,hE3,hk3⟩
 clear cc
 have bt:=hE3.bt
 have c0:w3.cell? ⟨X+2,0,none⟩=some (.int .i64 cz):=by simp [World.cell?,bt]
 have HF:Hid (Below X w w3):=by
  have q:=(Kn.of_below (No:=fun q=>q<X) Hab.out).trans (hk3.sub (fun q h=>by omega))
  exact q.below (fun _ h=>h) (by rw [HX.out];exact Nat.le_refl _)
 clear hE3 bt hk3
 go_wp2_with fail
 go_ret
 exact⟨rfl,by rw [← HX.out];exact HF.out⟩
theorem ev_any (hLA:LAll) (n:Int) (u:Tm) (hub:blk u≤20000):∀ N,EvC n u N
 | 0=>by intro t bv bd g off lo hi m1 m2 B nb ub M ra rc ka kc sa sc w _ _ _ _ _ _ _ _ _ h;have:=blk_pos t;omega
 | N+1=>ev_step hLA n u hub N (ev_any hLA n u hub N)
theorem put_any (hLA:LAll) (n:Int) (hn:I64 n) (t u:Tm) (v vu:Value) (w:World) (hv:TmIn Tt w t v) (hvu:TmIn Tt w u vu) (hf:Fp t) (hb:blk t≤100000) (hub:blk u≤20000) :
  Calls Tryz.prog 56 #[v,.int .i64 n,vu] w fun e w'=>LOut (eP n u t 0 0) (TmIn (fun q=>w.heap.size≤q) w' (putT n u t 0 0)) e∧Below w.heap.size w w':=by
 obtain⟨ra,rc,ka,kc,sa,sc,rfl,ht⟩:=hv.form
 obtain⟨ru,rcu,ku,kcu,su,scu,rfl,htu⟩:=(hvu.lt' (ok':=fun q=>q<w.heap.size) (fun q _ h=>h)).form
 obtain⟨eZ,heZ⟩:∃ z,z=eP n u t 0 0:=⟨_,rfl⟩
 obtain⟨tZ,htZ⟩:∃ z,z=putT n u t 0 0:=⟨_,rfl⟩
 rw [← heZ,← htZ]
 obtain⟨X,hX⟩:∃ X,X=w.heap.size:=⟨_,rfl⟩
 obtain⟨wa,hwa⟩:∃ W,W=w.alloc (.cells #[.int .i64 t.kind,.int .i64 t.n,.string t.name,.slice ra t.r.length rc,.slice ka t.kids.length kc,.slice sa t.sys.length sc] 26):=⟨_,rfl⟩
 have ba:Below w.heap.size w wa:=by rw [hwa];exact belowA _ _
 have sa':wa.heap.size=X+1:=by rw [hwa,hX];simp
 have m6:Cs6 wa X 0 t ra rc ka kc sa sc:=by rw [hwa,hX];exact cs6_new w t ra rc ka kc sa sc
 obtain⟨wb,hwb⟩:∃ W,W=wa.alloc (.cells #[.int .i64 n] 3):=⟨_,rfl⟩
 have bb:Below wa.heap.size wa wb:=by rw [hwb];exact belowA _ _
 have sb':wb.heap.size=X+2:=by rw [hwb];simp;omega
 have mn:wb.heap[X+1]? = some (.cells #[.int .i64 n] 3 (0,0)):=by rw [hwb,← sa'];exact heapNew _ _
 obtain⟨wc,hwc⟩:∃ W,W=wb.alloc (.cells #[.int .i64 u.kind,.int .i64 u.n,.string u.name,.slice ru u.r.length rcu,.slice ku u.kids.length kcu,.slice su u.sys.length scu] 26):=⟨_,rfl⟩
 have bc:Below wb.heap.size wb wc:=by rw [hwc];exact belowA _ _
 have sc':wc.heap.size=X+3:=by rw [hwc];simp;omega
 have mu:Cs6 wc (X+2) 0 u ru rcu ku kcu su scu:=by rw [hwc,← sb'];exact cs6_new _ _ _ _ _ _ _ _
 obtain⟨w2,hw2⟩:∃ W,W=wc.alloc (.cells #[.int .i64 0,.int .i64 0,.string ⟨#[]⟩,.slice none 0 0,.slice none 0 0,.slice none 0 0] 26):=⟨_,rfl⟩
 have b2:Below wc.heap.size wc w2:=by rw [hw2];exact belowA _ _
 have s2':w2.heap.size=X+4:=by rw [hw2];simp;omega
 have mr:Six w2 (X+3) (.int .i64 0) (.int .i64 0) (.string ⟨#[]⟩) (.slice none 0 0) (.slice none 0 0) (.slice none 0 0):=⟨by rw [hw2,← sc'];exact heapNew _ _⟩
 have bc2:=bchain bc b2
 have bb2:=bchain bb bc2
 have ba2:=bchain ba bb2
 have h62:=m6.blw bb2
 have hE:PEnv w2 (X+4) (X+1) (X+2) n u:=⟨by omega,by omega,by omega,hn,(bc2.cell (p:=⟨X+1,0,none⟩) (by show X+1<_;omega)).trans (by simp [World.cell?,mn]),ru,rcu,ku,kcu,su,scu,mu.blw b2,(htu.blw ba2).up fun q h=>by omega⟩
 have cc:=copyS_any t _ w2 (ht.blw ba2).value hb
 obtain⟨_,y0,y1,y2,y3,y4,y5⟩:=h62
 simp only [Nat.zero_add] at y1 y2 y3 y4 y5
 have hmk:=pmkfn
 have HW:Hid (w2=((((w.alloc (.cells #[.int .i64 t.kind,.int .i64 t.n,.string t.name,.slice ra t.r.length rc,.slice ka t.kids.length kc,.slice sa t.sys.length sc] 26)).alloc (.cells #[.int .i64 n] 3)).alloc (.cells #[.int .i64 u.kind,.int .i64 u.n,.string u.name,.slice ru u.r.length rcu,.slice ku u.kids.length kcu,.slice su u.sys.length scu] 26)).alloc (.cells #[.int .i64 0,.int .i64 0,.string ⟨#[]⟩,.slice none 0 0,.slice none 0 0,.slice none 0 0] 26))):=(by rw [hw2,hwc,hwb,hwa]:_=_)
 have HX:Hid (X=w.heap.size):=hX
 have HB2:Hid (Below w.heap.size w w2):=ba2
 have Hs2:Hid (w2.heap.size=X+4):=s2'
 have HE:Hid (PEnv w2 (X+4) (X+1) (X+2) n u):=hE
 have HR:Hid (Six w2 (X+3) (.int .i64 0) (.int .i64 0) (.string ⟨#[]⟩) (.slice none 0 0) (.slice none 0 0) (.slice none 0 0)):=mr
 have HeZ:Hid (eZ=eP n u t 0 0∧tZ=putT n u t 0 0):=⟨heZ,htZ⟩
 clear hwa hwb hwc hw2 ba bb bc b2 sa' sb' sc' s2' m6 mn mu mr bc2 bb2 ba2 hE hv hvu ht htu hX heZ htZ
 rw [← HX.out]
 go_enter Tryz.func56,Tryz.ntmps56
 go_upto_region 1 with fail
 rw [← HW.out]
 simp only [← HX.out]
 clear HW
 go_wp2_with fail
 refine cc.mono ?_
 rintro e w3 ⟨v3,rfl,hv3,hb3⟩
 clear cc y0 y1 y2 y3 y4 y5
 obtain⟨r3,rc3,k3,kc3,s3,sc3,m1,m2,rfl,ht3⟩:=hv3.form
 obtain⟨Y,hY⟩:∃ Y,Y=w3.heap.size:=⟨_,rfl⟩
 obtain⟨w4,hw4⟩:∃ W,W=w3.alloc (.cells #[.int .i64 t.kind,.int .i64 t.n,.string t.name,.slice r3 t.r.length rc3,.slice k3 t.kids.length kc3,.slice s3 t.sys.length sc3] 26):=⟨_,rfl⟩
 have b4:Below w3.heap.size w3 w4:=by rw [hw4];exact belowA _ _
 have m4:w4.heap[Y]? = some (.cells #[.int .i64 t.kind,.int .i64 t.n,.string t.name,.slice r3 t.r.length rc3,.slice k3 t.kids.length kc3,.slice s3 t.sys.length sc3] 26 (0,0)):=by rw [hw4,hY];exact heapNew _ _
 have c4:Cs6 w4 Y 0 t r3 rc3 k3 kc3 s3 sc3:=by rw [hw4,hY];exact cs6_new _ _ _ _ _ _ _ _
 have bk4:BlkC w4 Y 26 6:=⟨_,m4,rfl⟩
 have b24:Below w2.heap.size w2 w4:=bchain hb3 b4
 have hs3:=hb3.size
 have hs2:=Hs2.out
 have E4:PEnv w4 (X+4) (X+1) (X+2) n u:=HE.out.kn (Kn.of_below b24)
 have T4:TsTop w4 w2.heap.size m1 m2 w3.heap.size t r3 rc3 k3 kc3 s3 sc3:=ht3.keep b4.size (fun q _ _ hs=>b4.block q hs)
 have cv:Calls Tryz.prog 126 #[.pointer (some ⟨Y,0,none⟩),.agg #[.int .i64 0,.int .i64 0],.func (.func 129) #[] #[.pointer (some ⟨X+1,0,none⟩),.pointer (some ⟨X+2,0,none⟩)]] w4 fun e w'=>LOut eZ (fun v=>v=.tuple #[]∧PvR w4 w' Y 0 w2.heap.size w3.heap.size tZ) e∧Chg w4 w' Y 0 w2.heap.size w3.heap.size:=by
  rw [HeZ.out.1,HeZ.out.2]
  exact ev_any hLA n u hub _ t 0 0 Y 0 w2.heap.size w3.heap.size m1 m2 (X+4) (X+1) (X+2) 6 r3 rc3 k3 kc3 s3 sc3 w4 E4 c4 T4 bk4 (by omega) (by omega) (by omega) (.inr (by omega)) hf (Nat.le_refl _) (by omega) (by omega)
 have HR4:Hid (Six w4 (X+3) (.int .i64 0) (.int .i64 0) (.string ⟨#[]⟩) (.slice none 0 0) (.slice none 0 0) (.slice none 0 0)):=HR.out.blw b24
 have HB4:Hid (Below w.heap.size w w4):=bchain HB2.out b24
 have H4:Hid (_=_):=hw4
 have HY:Hid (Y=w3.heap.size):=hY
 have hYX:X+4≤w2.heap.size∧w2.heap.size≤w3.heap.size∧w3.heap.size≤Y:=by omega
 have Hs4:Hid (w3.heap.size≤w4.heap.size):=b4.size
 clear hw4 hY b4 m4 c4 bk4 b24 hs3 hs2 E4 T4 ht3 hv3 hb3 HR HE
 go_upto_region 2 with fail
 rw [← H4.out]
 simp only [← HY.out]
 clear H4
 go_wp2_with fail
 refine cv.mono ?_
 rintro e w5 ⟨⟨he0,v,rfl,rfl,hp⟩ | ⟨hne0,rfl⟩,hc⟩
 ·clear cv
  obtain⟨r5,rc5,k5,kc5,s5,sc5,h65,ht5⟩:=hp
  obtain⟨_,y0,y1,y2,y3,y4,y5⟩:=h65
  simp only [Nat.zero_add] at y1 y2 y3 y4 y5
  have z5:Six w5 (X+3) (.int .i64 0) (.int .i64 0) (.string ⟨#[]⟩) (.slice none 0 0) (.slice none 0 0) (.slice none 0 0):=⟨(hc.kn.block (X+3) ⟨by omega,by omega⟩ HR4.out.lt).trans HR4.out.blk⟩
  have HF5:Hid (Below X w w5):=by
   have q:=(Kn.of_below (No:=fun q=>q<X) HB4.out).trans (hc.kn.sub fun q h=>⟨by omega,by omega⟩)
   exact q.below (fun _ h=>h) (by rw [HX.out];exact Nat.le_refl _)
  obtain⟨w6,hw6⟩:∃ W,W=(((((w5.setCell ⟨X+3,0,none⟩ (.int .i64 tZ.kind)).setCell ⟨X+3,1,none⟩ (.int .i64 tZ.n)).setCell ⟨X+3,2,none⟩ (.string tZ.name)).setCell ⟨X+3,3,none⟩ (.slice r5 tZ.r.length rc5)).setCell ⟨X+3,4,none⟩ (.slice k5 tZ.kids.length kc5)).setCell ⟨X+3,5,none⟩ (.slice s5 tZ.sys.length sc5):=⟨_,rfl⟩
  have z6:=z5.set6 (.int .i64 tZ.kind) (.int .i64 tZ.n) (.string tZ.name) (.slice r5 tZ.r.length rc5) (.slice k5 tZ.kids.length kc5) (.slice s5 tZ.sys.length sc5)
  rw [← hw6] at z6
  have k6:Kn (fun q=>q≠X+3) w5 w6:=by rw [hw6];exact (((((kn_set _ _ _ _).trans (kn_set _ _ _ _)).trans (kn_set _ _ _ _)).trans (kn_set _ _ _ _)).trans (kn_set _ _ _ _)).trans (kn_set _ _ _ _)
  obtain⟨o0,o1,o2,o3,o4,o5,ff⟩:=z5.cells
  have f0:=ff 0
  have f1:=ff 1
  have f2:=ff 2
  have f3:=ff 3
  have f4:=ff 4
  have f5:=ff 5
  obtain⟨h0,h1,h2,h3,h4,h5,_⟩:=z6.cells
  have HT:Hid (TmIn (fun q=>X≤q) w6 tZ (.agg #[.int .i64 tZ.kind,.int .i64 tZ.n,.string tZ.name,.slice r5 tZ.r.length rc5,.slice k5 tZ.kids.length kc5,.slice s5 tZ.sys.length sc5])):=by
   have q1:=Hs4.out
   exact ht5.value.keep k6.size (fun q hq=>by show X≤q;omega) (fun q hq hs=>k6.block q (by omega) hs)
  have HF:Hid (Below X w w6):=HF5.out.trans (k6.below (fun q hq=>by omega) (by have:=HF5.out.size;have:=HX.out;omega))
  have H6:Hid (_=_):=hw6
  clear hw6 ff z5 z6 k6 ht5 hc
  go_wp2_with fail
  rw [← H6.out]
  exact bodyPost_ret (v:=.agg #[.int .i64 tZ.kind,.int .i64 tZ.n,.string tZ.name,.slice r5 tZ.r.length rc5,.slice k5 tZ.kids.length kc5,.slice s5 tZ.sys.length sc5]) (by simp only [results,Tryz.results56];simp [go_sem,h0,h1,h2,h3,h4,h5]) rfl ⟨.ok he0 HT.out,HF.out⟩
 ·have HF:Hid (Below X w w5):=by
   have q:=(Kn.of_below (No:=fun q=>q<X) HB4.out).trans (hc.kn.sub fun q h=>⟨by omega,by omega⟩)
   exact q.below (fun _ h=>h) (by rw [HX.out];exact Nat.le_refl _)
  exact⟨rfl,.inr ⟨hne0,rfl⟩,HF.out⟩
def CtCB (most:Int) (N:Nat):Prop:=∀ (l:List Tm) (v:Value) (at_ N0 D0:Nat) (ok:Nat→Prop) (bD bM bN bC:Nat) (w:World),CntV w bD bM bN bC most N0 D0→KdT ok w (TmIn ok w) l v→(∀ q,ok q→q≠bD∧q≠bN)→bD≠bN→bD≠bM→bD≠bC→bN≠bM→bN≠bC →
 blkL l≤N→1≤at_→at_≤D0+1→N0+blkL l≤100000000→D0+blkL l≤100000000 →
 Calls Tryz.prog 173 #[v,.int .i64 (at_:Int),.pointer (some ⟨bD,0,none⟩),.pointer (some ⟨bM,0,none⟩),.pointer (some ⟨bN,0,none⟩),.pointer (some ⟨bC,0,none⟩)] w fun e w'=>(∃ u,e=.returned u)∧(∃ N1 D1:Nat,CntV w' bD bM bN bC most N1 D1∧Cn most D0 (N0+szL l) (max D0 (at_ - 1+dpL l)) N1 D1)∧Kn (fun q=>q≠bD∧q≠bN) w w'
theorem count_nilB (most:Int) (l:List Tm) (v:Value) (at_ N0 D0:Nat) (ok:Nat→Prop) (bD bM bN bC:Nat) (w:World) (hV:CntV w bD bM bN bC most N0 D0) (hl:KdT ok w (TmIn ok w) l v) (hN:blkL l≤0) (ha:1≤at_) (hd:at_≤D0+1) :
 Calls Tryz.prog 173 #[v,.int .i64 (at_:Int),.pointer (some ⟨bD,0,none⟩),.pointer (some ⟨bM,0,none⟩),.pointer (some ⟨bN,0,none⟩),.pointer (some ⟨bC,0,none⟩)] w fun e w'=>(∃ u,e=.returned u)∧(∃ N1 D1:Nat,CntV w' bD bM bN bC most N1 D1∧Cn most D0 (N0+szL l) (max D0 (at_ - 1+dpL l)) N1 D1)∧Kn (fun q=>q≠bD∧q≠bN) w w':=by
 obtain⟨a,cap,rfl,_⟩:=id hl
 obtain rfl:l=[]:=List.length_eq_zero_iff.1 (by have:=blkL_len l;omega)
 go_enter Tryz.func173,Tryz.ntmps173
 go_wp2
 refine bodyPost_ret (results_none rfl _ _ _) rfl ?_
 exact⟨⟨_,rfl⟩,⟨N0,D0,hV,(Cn.refl most D0 N0 D0 (Nat.le_refl _)).cast (Nat.le_refl _) (by simp [szL]) (by simp [dpL,maxL];omega)⟩,Kn.refl _ _⟩
theorem count_stepB (most:Int) (N:Nat) (IH:CtCB most N):CtCB most (N+1):=by
 intro l v at_ N0 D0 ok bD bM bN bC w hV hl hok n1 n2 n3 n4 n5 hN ha hd hs1 hs2
 obtain⟨a,cap,rfl,_⟩:=id hl
 have eg:=meas_eg
 have hsz:=szL_blkL l
 have hdp:=dpL_szL l
 have hlen:=szL_len l
 obtain⟨cd,fd⟩:=box_cells hV.d
 obtain⟨cm,fm⟩:=box_cells hV.m
 obtain⟨cn,fn⟩:=box_cells hV.n
 by_cases hz:l=[]
 ·subst hz
  go_enter Tryz.func173,Tryz.ntmps173
  go_wp2
  refine bodyPost_ret (results_none rfl _ _ _) rfl ?_
  exact⟨⟨_,rfl⟩,⟨N0,D0,hV,(Cn.refl most D0 N0 D0 (Nat.le_refl _)).cast (Nat.le_refl _) (by simp [szL]) (by simp [dpL,maxL];omega)⟩,Kn.refl _ _⟩
 ·have hpos:0<l.length:=List.length_pos_iff.2 hz
  have hdpp:=dpL_pos hz
  by_cases hmd:most<(D0:Int)
  ·have HC:Hid (Cn most D0 (N0+szL l) (max D0 (at_ - 1+dpL l)) N0 D0):=by
    refine⟨fun h=>?_,fun _=>hmd,by omega,Nat.le_refl _,by omega⟩
    omega
   obtain⟨L,hL⟩:∃ L,L=l.length:=⟨_,rfl⟩
   rw [← hL] at hpos ⊢
   have q0:((L:Int) == 0)=false:=by simp;omega
   clear hL
   go_enter Tryz.func173,Tryz.ntmps173
   go_wp2
   refine bodyPost_ret (results_none rfl _ _ _) rfl ?_
   exact⟨⟨_,rfl⟩,⟨N0,D0,hV,HC.out⟩,Kn.refl _ _⟩
  ·obtain⟨L,hL⟩:∃ L,L=l.length:=⟨_,rfl⟩
   have HL:Hid (L=l.length):=hL
   have Hl:Hid (KdT ok w (TmIn ok w) l (.slice a L cap)):=by rw [hL];exact hl
   rw [← hL] at hpos hlen ⊢
   have q0:((L:Int) == 0)=false:=by simp;omega
   have q1:¬ most<(D0:Int):=hmd
   obtain⟨w1,hw1⟩:∃ w1,w1=w.setCell ⟨bN,0,none⟩ (.int .i64 ((N0:Int) + (L:Int))):=⟨_,rfl⟩
   have V1:CntV w1 bD bM bN bC most (N0+L) D0:=by rw [hw1];exact setN hV n1 n4 n5 _ _ (by simp)
   obtain⟨w2,hw2⟩:∃ w2,w2=w1.setCell ⟨bD,0,none⟩ (.int .i64 (max (D0:Int) (at_:Int))):=⟨_,rfl⟩
   have V2:CntV w2 bD bM bN bC most (N0+L) (max D0 at_):=by rw [hw2];exact setD V1 n1 n2 n3 _ _ (by omega)
   have K2:Kn (fun q=>q≠bD∧q≠bN) w w2:=by
    rw [hw2,hw1]
    exact ((Kn.refl _ _).setCell (p:=⟨bN,0,none⟩) (.inl fun h=>h.2 rfl) _).setCell (p:=⟨bD,0,none⟩) (.inl fun h=>h.1 rfl) _
   obtain⟨cd1,fd1⟩:=box_cells V1.d
   have H1:Hid (_=_):=hw1
   have H2:Hid (_=_):=hw2
   clear hL hl hz hw1 hw2 hmd
   go_enter Tryz.func173,Tryz.ntmps173
   go_upto_region 2 with fail
   rw [← H1.out]
   go_upto_region 3 with fail
   rw [← H2.out]
   have HB:Hid (N0+blkL l≤100000000∧D0+blkL l≤100000000∧blkL l≤N+1):=⟨hs1,hs2,hN⟩
   have Hmax:Hid (at_≤max D0 at_):=Nat.le_max_right _ _
   have Hb0:Hid (Cn most D0 (N0+(L - 0) + szL (l.take 0)) (max (max D0 at_) (at_ - 1+dpL (l.take 0))) (N0+L) (max D0 at_)):=(Cn.refl most D0 (N0+L) (max D0 at_) (Nat.le_max_left _ _)).cast (Nat.le_refl _) (by simp [szL]) (by simp only [List.take_zero,dpL,maxL,List.map_nil,List.foldr_nil];omega)
   have hLm:L≤100000000:=by omega
   have Hdp:Hid (1≤dpL l):=hdpp
   have ham:at_≤10000000001:=by omega
   clear H1 H2 cd cd1 fd fd1 cm fm cn fn hV V1 hsz hdp hlen hdpp q0 q1 hs1 hs2 hN
   go_wp2
   go_loopw [28] (fun i wr=>∃ k N' D':Nat,k≤L∧i=.int .i64 k∧CntV wr bD bM bN bC most N' D'∧Hid (Cn most D0 (N0+(L - k) + szL (l.take k)) (max (max D0 at_) (at_ - 1+dpL (l.take k))) N' D')∧Hid (at_≤D')∧Kn (fun q=>q≠bD∧q≠bN) w wr) (fun i _=>L - (intOf i).toNat)
   case atStart=>exact⟨0,N0+L,max D0 at_,Nat.zero_le _,rfl,V2,Hb0,Hmax,K2⟩
   case round =>
    obtain⟨wo,hwo⟩:∃ wo,wo=wr:=⟨_,rfl⟩
    subst hwo
    clear V2 Hb0 Hmax K2
    obtain⟨k,N',D',hk,rfl,V,HCn,HaD,hK⟩:=hrel
    by_cases hlt:k<L
    ·obtain⟨x,hx⟩:=someL (l:=l) (k:=k) (by rw [← HL.out];exact hlt)
     obtain⟨kg,koff,ra,rc,ka,kc,sa,sc,rfl,hkg,h6,ht⟩:=(Hl.out.kn hK hok).at hx
     have hbx:=blk_eq x
     have hst:=blkL_step hx
     have hrs:=blkL_rest l (k+1) (by rw [← HL.out];omega)
     rw [← HL.out] at hrs
     have hdt:=dpL_take l k
     have hst2:=szL_blkL (l.take k)
     have hk1:=szL_blkL x.kids
     have hk2:=dpL_szL x.kids
     have hk3:=szS_blkS x.sys
     have hsyl:=blkS_len x.sys
     have hkl:=blkL_len x.kids
     obtain⟨b1,b2,b3⟩:=HB.out
     have hcn:=HCn.out
     obtain⟨_,_,m1,m2,m3⟩:=id hcn
     have haD:=HaD.out
     have cc:=IH x.kids (.slice ka x.kids.length kc) (at_+1) N' D' ok bD bM bN bC wo.drew V.drew (ht.kids.kn (No:=fun _=>True) (Kn.refl _ _).drew (fun _ _=>trivial)) hok n1 n2 n3 n4 n5 (by omega) (by omega) (by omega) (by omega) (by omega)
     have HX:Hid (Cn most D0 (N0+(L - k) + szL (l.take k)) (max (max D0 at_) (at_ - 1+dpL (l.take k))) N' D'):=hcn
     have HS:Hid (szL (l.take (k+1))=szL (l.take k) + sizeT x∧dpL (l.take (k+1))=max (dpL (l.take k)) (depthT x)∧sizeT x=1+(szL x.kids+szS x.sys)∧depthT x=1+max (dpL x.kids) (dpS x.sys)):=⟨szL_step hx,dpL_step hx,size_eq x,depth_eq x⟩
     have HBB:Hid (N0+(L - k) + szL (l.take k) + blkL x.kids+blkS x.sys≤100000000∧max (max D0 at_) (at_ - 1+dpL (l.take k)) + blkL x.kids+blkS x.sys≤100000000∧blkL x.kids+blkS x.sys≤N∧D0+1+blkL x.kids+blkS x.sys≤100000000):=⟨by omega,by omega,by omega,by omega⟩
     have hc4:=h6.c4
     have hc5:=h6.c5
     have hc:=(box_cells V.c).1
     obtain⟨S,hS⟩:∃ S,S=x.sys.length:=⟨_,rfl⟩
     have HSl:Hid (S=x.sys.length):=hS
     have Hsy:Hid (SyT ok wo (TmIn ok wo) x.sys (.slice sa S sc)):=by rw [hS];exact ht.sys
     rw [← hS] at hc5 hsyl
     have hSm:S≤100000000:=by omega
     obtain⟨zk,hzk⟩:∃ z,z=x.kids.length:=⟨_,rfl⟩
     rw [← hzk] at cc hc4
     have h6l:=h6.lt
     have wr1:IntKind.i64.wrap ((at_:Int) + 1)=(at_:Int) + 1:=by simp [IntKind.wrap,IntKind.bits,IntKind.signed];omega
     simp only [Int.natCast_add,Int.cast_ofNat_Int] at cc
     clear hS hzk hbx hst hrs hdt hst2 hk1 hk2 hk3 hsyl hkl b1 b2 b3 hcn m1 m2 m3 h6 ht hx HCn HaD HB
     go_wp2_with fail
     refine wp_region_still_tail 8 (by kernel_rfl) (by kernel_rfl) ?_
     simp only [List.take_succ_cons,List.take_zero,List.drop_succ_cons,List.drop_zero]
     repeat still_step
     refine wpStill_nil ?_
     go_wp2_with fail
     refine cc.mono ?_
     rintro e w3 ⟨⟨u,rfl⟩,⟨N1,D1,V1,hC1⟩,hK1⟩
     clear cc
     have hKo:Kn (fun q=>q≠bD∧q≠bN) wo w3:=(Kn.refl _ _).drew.trans hK1
     have hK3:=hK.trans hKo
     have d5:w3.cell? ⟨kg,koff+k*6+5,none⟩=some (.slice sa S sc):=(hKo.cell (p:=⟨kg,koff+k*6+5,none⟩) (hok kg hkg) h6l).trans hc5
     have Hst:Hid (Cn most D0 (N0+(L - k) + szL (l.take k) + szL x.kids+szS (x.sys.take 0)) (max (max (max (max D0 at_) (at_ - 1+dpL (l.take k))) (at_+dpL x.kids)) (at_+dpS (x.sys.take 0))) N1 D1):=by
      have h1:=HX.out.step (hC1.cast (Nat.le_refl _) rfl (show max D' (at_+1 - 1+dpL x.kids)=max D' (at_+dpL x.kids) by omega))
      refine h1.cast (Nat.le_refl _) (by simp [szS]) ?_
      simp only [List.take_zero,dpS,maxL,List.map_nil,List.foldr_nil]
      omega
     have HaD1:Hid (at_≤D1):=by
      obtain⟨_,_,_,h4,_⟩:=hC1
      exact Nat.le_trans (by assumption) h4
     have Hsy3:Hid (SyT ok w3 (TmIn ok w3) x.sys (.slice sa S sc)):=Hsy.out.kn hKo hok
     clear hK1 hC1 HX hc hc4 hc5 V Hsy haD
     go_wp2_with fail
     go_loopw [46] (fun i wr=>∃ j N' D':Nat,j≤S∧i=.int .i64 j∧CntV wr bD bM bN bC most N' D'∧Hid (Cn most D0 (N0+(L - k) + szL (l.take k) + szL x.kids+szS (x.sys.take j)) (max (max (max (max D0 at_) (at_ - 1+dpL (l.take k))) (at_+dpL x.kids)) (at_+dpS (x.sys.take j))) N' D')∧Hid (at_≤D')∧Kn (fun q=>q≠bD∧q≠bN) w3 wr) (fun i _=>S - (intOf i).toNat)
     case atStart=>exact⟨0,N1,D1,Nat.zero_le _,rfl,V1,Hst,HaD1,Kn.refl _ _⟩
     case round =>
      obtain⟨wi,hwi⟩:∃ wi,wi=wr:=⟨_,rfl⟩
      subst hwi
      clear V1 Hst HaD1 d5
      obtain⟨j,N2,D2,hj,rfl,V2,HC2,HaD2,hK4⟩:=hrel
      by_cases hltj:j<S
      ·obtain⟨b,hb⟩:=someL (l:=x.sys) (k:=j) (by rw [← HSl.out];exact hltj)
       obtain⟨sg,so,fa,fc,ka2,kc2,rfl,hsg,h2,hcl,hkd⟩:=(Hsy3.out.kn hK4 hok).at hb
       obtain⟨lt2,e0,e1⟩:=h2
       obtain⟨b1,b2,b3,b4⟩:=HBB.out
       have s1:=blkS_step hb
       have s2:=blkS_take x.sys (j+1)
       have s3:=szS_blkS (x.sys.take j)
       have s4:=dpS_blkS (x.sys.take j)
       have s5:=szL_blkL x.kids
       have s6:=dpL_szL x.kids
       have hc2:=HC2.out
       obtain⟨_,_,m1,m2,m3⟩:=id hc2
       have haD2:=HaD2.out
       obtain⟨w4,hw4⟩:∃ w4,w4=wi.alloc (.cells #[.slice fa b.1.length fc,.slice ka2 b.2.length kc2] 40):=⟨_,rfl⟩
       have b4':Below wi.heap.size wi w4:=by rw [hw4];exact belowA _ _
       have n4':w4.heap[wi.heap.size]? = some (.cells #[.slice fa b.1.length fc,.slice ka2 b.2.length kc2] 40 (0,0)):=by rw [hw4];exact heapNew _ _
       have V4:=V2.kn b4'
       have cc:=IH b.2 (.slice ka2 b.2.length kc2) (at_+1) N2 D2 ok bD bM bN bC w4 V4 (hkd.blw b4') hok n1 n2 n3 n4 n5 (by omega) (by omega) (by omega) (by omega) (by omega)
       have HS2:Hid (szS (x.sys.take (j+1))=szS (x.sys.take j) + szL b.2∧dpS (x.sys.take (j+1))=max (dpS (x.sys.take j)) (dpL b.2)):=⟨szS_step hb,dpS_step hb⟩
       obtain⟨z1,hz1⟩:∃ z,z=b.1.length:=⟨_,rfl⟩
       obtain⟨z2,hz2⟩:∃ z,z=b.2.length:=⟨_,rfl⟩
       rw [← hz1] at e0 hw4 n4'
       rw [← hz2] at e1 hw4 n4' cc
       obtain⟨v0,v1⟩:w4.cell? ⟨wi.heap.size,0,none⟩=some (.slice fa z1 fc)∧w4.cell? ⟨wi.heap.size,1,none⟩=some (.slice ka2 z2 kc2):=by
        refine⟨?_,?_⟩ <;> (unfold World.cell?; simp [n4'])
       have hcc:=(box_cells V4.c).1
       have H4:Hid (_=_):=hw4
       have hK5:Kn (fun q=>q≠bD∧q≠bN) w3 w4:=hK4.trans (Kn.of_below b4')
       simp only [Int.natCast_add,Int.cast_ofNat_Int] at cc
       clear hw4 hz1 hz2 b1 b2 b3 b4 s1 s2 s3 s4 s5 s6 hc2 m1 m2 m3 hb hcl hkd n4' V4 b4' lt2
       go_upto_region 10 with fail
       rw [← H4.out]
       clear H4
       go_wp2_with fail
       refine cc.mono ?_
       rintro e w5 ⟨⟨u2,rfl⟩,⟨N3,D3,V3,hC3⟩,hK6⟩
       clear cc
       have hK7:=hK5.trans hK6
       have HC4:Hid (Cn most D0 (N0+(L - k) + szL (l.take k) + szL x.kids+szS (x.sys.take (j+1))) (max (max (max (max D0 at_) (at_ - 1+dpL (l.take k))) (at_+dpL x.kids)) (at_+dpS (x.sys.take (j+1)))) N3 D3):=by
        obtain⟨q1,q2⟩:=HS2.out
        refine (HC2.out.step (hC3.cast (Nat.le_refl _) rfl (show max D2 (at_+1 - 1+dpL b.2)=max D2 (at_+dpL b.2) by omega))).cast (Nat.le_refl _) (by omega) (by omega)
       have HaD4:Hid (at_≤D3):=by
        obtain⟨_,_,_,h4,_⟩:=hC3
        exact Nat.le_trans haD2 h4
       clear hC3 HC2 HS2 haD2 HaD2 hK5 hK6 v0 v1 hcc e0 e1 V2
       go_wp2
       go_roundw
       case rel=>exact⟨j+1,N3,D3,by omega,by go_num,V3,HC4,HaD4,hK7⟩
       case measure=>simp [intOf];omega
      ·obtain rfl:j=S:=by omega
       have HC5:Hid (Cn most D0 (N0+(L - (k+1)) + szL (l.take (k+1))) (max (max D0 at_) (at_ - 1+dpL (l.take (k+1)))) N2 D2):=by
        have h1:=HC2.out
        rw [List.take_of_length_le (l:=x.sys) (Nat.le_of_eq HSl.out.symm)] at h1
        obtain⟨q1,q2,q3,q4⟩:=HS.out
        refine h1.cast (Nat.le_refl _) (by omega) (by omega)
       have hK8:=hK3.trans hK4
       clear HC2
       go_wp2
       go_roundw
       case rel=>exact⟨k+1,N2,D2,by omega,by go_num,V2,HC5,HaD2,hK8⟩
       case measure=>simp [intOf];omega
    ·obtain rfl:k=L:=by omega
     have HC5:Hid (Cn most D0 (N0+szL l) (max D0 (at_ - 1+dpL l)) N' D'):=by
      have h1:=HCn.out
      rw [List.take_of_length_le (l:=l) (Nat.le_of_eq HL.out.symm)] at h1
      have:=Hdp.out
      exact h1.cast (Nat.le_refl _) (by omega) (by omega)
     go_wp2
     go_end0
     exact⟨⟨_,rfl⟩,⟨N',D',V,HC5.out⟩,hK⟩
theorem count_anyB (most:Int) (N:Nat):CtCB most (N+1):=by
 induction N with
 | zero=>exact count_stepB most 0 fun l v at_ N0 D0 ok bD bM bN bC w hV hl hok n1 n2 n3 n4 n5 hN ha hd hs1 hs2=>count_nilB most l v at_ N0 D0 ok bD bM bN bC w hV hl hN ha hd
 | succ N ih=>exact count_stepB most (N+1) ih
theorem measure_anyB (t:Tm) (v:Value) (most:Int) (w:World) (hv:TmIn Tt w t v) (hb:blk t≤10000000) :
  Calls Tryz.prog 125 #[v,.int .i64 most] w fun e w'=>(∃ N1 D1:Nat,e=.returned (.tuple #[.int .i64 (N1:Int),.int .i64 (D1:Int)])∧((depthT t:Int)≤most→N1=sizeT t∧D1=depthT t)∧(most<(depthT t:Int)→most<(D1:Int))∧N1≤sizeT t∧D1≤depthT t)∧Below w.heap.size w w':=by
 obtain⟨ra,rc,ka,kc,sa,sc,rfl,ht⟩:=hv.form
 have eg:=meas_eg
 obtain⟨W,hW,hbW,sW,c6,e1,e2,e3,e4⟩:=box5 w t ra rc ka kc sa sc most
 obtain⟨W2,hW2⟩:∃ W2,W2=W.setCell ⟨w.heap.size+4,0,none⟩ (cntV w.heap.size):=⟨_,rfl⟩
 have k2:Kn (fun q=>q≠w.heap.size+4) W W2:=by rw [hW2];exact (Kn.refl _ _).setCell (p:=⟨w.heap.size+4,0,none⟩) (.inl fun h=>h rfl) _
 have b2:Below w.heap.size w W2:=by rw [hW2];exact hbW.setCell (p:=⟨w.heap.size+4,0,none⟩) (by show _≤w.heap.size+4;omega) _
 have sW2:W2.heap.size=w.heap.size+5:=by rw [hW2];simp [World.setCell,sW]
 have V2:CntV W2 (w.heap.size+3) (w.heap.size+1) (w.heap.size+2) (w.heap.size+4) most 0 0:=⟨(k2.block _ (by omega) (by omega)).trans e3,(k2.block _ (by omega) (by omega)).trans e1,(k2.block _ (by omega) (by omega)).trans e2,by rw [hW2];exact Boxed.set (t:=164) _ e4⟩
 have c62:=c6.kn k2 (by omega)
 obtain⟨W3,hW3⟩:∃ W3,W3=W2.alloc (.cells #[.int .i64 t.kind,.int .i64 t.n,.string t.name,.slice ra t.r.length rc,.slice ka t.kids.length kc,.slice sa t.sys.length sc] 26):=⟨_,rfl⟩
 have hk:=kt_one ht.lo2 b2 b2.size W3 hW3
 have b3:Below W2.heap.size W2 W3:=by rw [hW3];exact belowA _ _
 have V3:=V2.kn b3
 have hbl:blkL [t]=blk t:=by simp [blkL]
 have cc:=count_anyB most (blk t) [t] _ 1 0 0 _ (w.heap.size+3) (w.heap.size+1) (w.heap.size+2) (w.heap.size+4) W3 V3 hk (fun q hq=>by rcases hq with hq | hq <;> omega) (by omega) (by omega) (by omega) (by omega) (by omega) (by omega) (by omega) (by omega) (by omega) (by omega)
 obtain⟨x4,f4⟩:=box_cells e4
 obtain⟨y0,y1,y2,y3,y4,y5⟩:=(⟨c62.c0,c62.c1,c62.c2,c62.c3,c62.c4,c62.c5⟩:_∧_∧_∧_∧_∧_)
 simp only [Nat.zero_add] at y1 y2 y3 y4 y5
 have y6:=(box_cells V2.c).1
 have HW:Hid (_=_):=hW
 have HW2:Hid (_=_):=hW2
 have HW3:Hid (_=_):=hW3
 have HB:Hid (Below w.heap.size w W3):=bchain b2 b3
 have s3:w.heap.size+5≤W3.heap.size:=by have:=b3.size;omega
 rw [sW2] at cc
 obtain⟨s,hs⟩:∃ s,s=w.heap.size:=⟨_,rfl⟩
 unfold cntV at HW2
 clear hW hW2 hW3 hbW c6 e1 e2 e3 e4 k2 b2 V2 c62 hk b3 V3 hbl hv ht hb
 go_enter Tryz.func125,Tryz.ntmps125
 go_upto_region 2 with fail
 rw [← HW.out]
 simp only [Nat.add_assoc,Nat.reduceAdd]
 go_upto_region 3 with fail
 rw [← HW2.out]
 go_wp2_with fail
 rw [← HW3.out]
 refine cc.mono ?_
 rintro e W4 ⟨⟨u,rfl⟩,⟨N1,D1,V4,hC⟩,hK4⟩
 clear cc
 obtain⟨n0,n1⟩:=box_cells V4.n
 obtain⟨d0,d1⟩:=box_cells V4.d
 have HC:Hid (_∧_∧_∧_):=hC.zero_top
 have s4:w.heap.size+5≤W4.heap.size:=Nat.le_trans s3 hK4.size
 have HB4:Hid (Below w.heap.size w W4):=HB.out.trans (hK4.below (fun q hq=>⟨by omega,by omega⟩) (by omega))
 have Hn:Hid (W4.heap[w.heap.size+2]? = _):=V4.n
 have Hd:Hid (W4.heap[w.heap.size+3]? = _):=V4.d
 clear V4 hC hK4 HW HW2 HW3 x4 f4 y0 y1 y2 y3 y4 y5 y6 HB
 go_wp2_with fail
 go_region
 obtain⟨W5,hW5⟩:∃ W5,W5=((W4.setCell ⟨w.heap.size+2,0,none⟩ (.int .i64 (N1:Int))).setCell ⟨w.heap.size+3,0,none⟩ (.int .i64 (D1:Int))).drew:=⟨_,rfl⟩
 have r3:W5.heap[w.heap.size+3]? = some (.cells #[.int .i64 (D1:Int)] 3 (0,0)):=by
  rw [hW5]
  exact Boxed.set (t:=3) (v:=.int .i64 (D1:Int)) _ ((Below.heap_setCell W4 ⟨w.heap.size+2,0,none⟩ _ (w.heap.size+3) (by show w.heap.size+3≠w.heap.size+2;omega)).trans Hd.out)
 have r2:W5.heap[w.heap.size+2]? = some (.cells #[.int .i64 (N1:Int)] 3 (0,0)):=by
  rw [hW5]
  exact (Below.heap_setCell _ ⟨w.heap.size+3,0,none⟩ _ (w.heap.size+2) (by show w.heap.size+2≠w.heap.size+3;omega)).trans (Boxed.set (t:=3) (v:=.int .i64 (N1:Int)) _ Hn.out)
 have HB5:Hid (Below w.heap.size w W5):=by
  rw [hW5]
  exact ((HB4.out.setCell (p:=⟨w.heap.size+2,0,none⟩) (by show _≤w.heap.size+2;omega) _).setCell (p:=⟨w.heap.size+3,0,none⟩) (by show _≤w.heap.size+3;omega) _).drew
 have c2:=(box_cells r2).1
 have c3:=(box_cells r3).1
 rw [← hW5]
 clear hW5 r2 r3 n0 n1 d0 d1 Hn Hd
 go_wp2
 exact bodyPost_ret (v:=.tuple #[.int .i64 (N1:Int),.int .i64 (D1:Int)]) (by simp only [results,Tryz.results125];simp [go_sem,c2,c3]) rfl ⟨⟨N1,D1,rfl,HC.out⟩,HB5.out⟩
theorem depth_anyB (t:Tm) (v:Value) (w:World) (hv:TmIn Tt w t v) (hb:blk t≤10000000):Calls Tryz.prog 57 #[v] w fun e w'=>e=.returned (.int .i64 (depthT t:Int))∧Below w.heap.size w w':=by
 have hd:=depth_size t
 have hs:=size_blk t
 obtain⟨ra,rc,ka,kc,sa,sc,rfl,ht⟩:=hv.form
 obtain⟨w1,hw1⟩:∃ w1,w1=w.alloc (.cells #[.int .i64 t.kind,.int .i64 t.n,.string t.name,.slice ra t.r.length rc,.slice ka t.kids.length kc,.slice sa t.sys.length sc] 26):=⟨_,rfl⟩
 have b1:Below w.heap.size w w1:=by rw [hw1];exact belowA _ _
 have c6:Cs6 w1 w.heap.size 0 t ra rc ka kc sa sc:=by rw [hw1];exact cs6_new w t ra rc ka kc sa sc
 have cc:=measure_anyB t _ 9223372036854775807 w1 (hv.blw b1) hb
 obtain⟨_,y0,y1,y2,y3,y4,y5⟩:=c6
 have H1:Hid (_=_):=hw1
 clear hw1 hv ht
 go_enter Tryz.func57,Tryz.ntmps57
 go_upto_region 1 with fail
 rw [← H1.out]
 clear H1
 go_wp2_with fail
 refine cc.mono ?_
 rintro e w2 ⟨⟨N1,D1,rfl,a1,a2,a3,a4⟩,hb2⟩
 obtain⟨e1,e2⟩:=a1 (by omega)
 have hal:=bchain b1 hb2
 clear cc y0 y1 y2 y3 y4 y5 a1 a2
 go_wp2
 go_ret
 exact⟨rfl,hal⟩
end Go.Proofs.YtblbhmnahoiecaaGreat
