/- A term in a variable's place: the function that calls itself. -/
import Derived.Deep.RegionHeld
import Derived.Deep.RegionHeld3
import Derived.Deep.DeepCutAuto
import Derived.Deep.CutBlock
import Derived.Test.YtblbhmnahoiecaaGreatGYPeL
set_option linter.unusedVariables false
set_option linter.unusedSimpArgs false
set_option maxRecDepth 100000
set_option maxHeartbeats 2000000
namespace Go.Proofs.YtblbhmnahoiecaaGreat
open Go.RowKit
theorem pcl_eg:∀ args w,(callFunc 129 args).run Tryz.prog w=.ok (.enter 129 args) w:=enters_of Tryz.func129 (by kernel_rfl) rfl
def EvC (n:Int) (u:Tm) (N:Nat):Prop:=∀ (t:Tm) (bv bd g off lo hi m1 m2 B nb ub M:Nat) (ra:Option Addr) (rc:Nat) (ka:Option Addr) (kc:Nat) (sa:Option Addr) (sc:Nat) (w:World),
 PEnv w B nb ub n u→Cs6 w g off t ra rc ka kc sa sc→TsTop w lo m1 m2 hi t ra rc ka kc sa sc→BlkC w g 26 M→off+6≤M→B≤lo→B≤g→(g<lo∨hi≤g)→Fp t→blk t≤N→bv+blk t≤200000→bd+blk t≤200000 →
 Calls Tryz.prog 126 #[.pointer (some ⟨g,off,none⟩),.agg #[.int .i64 (bv:Int),.int .i64 (bd:Int)],.func (.func 129) #[] #[.pointer (some ⟨nb,0,none⟩),.pointer (some ⟨ub,0,none⟩)]] w fun e w'=>LOut (eP n u t bv bd) (fun v=>v=.tuple #[]∧PvR w w' g off lo hi (putT n u t bv bd)) e∧Chg w w' g off lo hi
theorem ev_step (hLA:LAll) (n:Int) (u:Tm) (hub:blk u≤20000) (N:Nat) (IH:EvC n u N):EvC n u (N+1):=by
 intro t bv bd g off lo hi m1 m2 B nb ub MM ra rc ka kc sa sc w hE h6 ht hBk hMM hBl hBg hgl hf hN hbv hbd
 obtain⟨hl1,hl2,hl3,hl4⟩:=blk_lens t
 obtain⟨hn0,hvk,hfk,hfs⟩:=(fp_eq t).1 hf
 obtain⟨eZ,heZ⟩:∃ z,z=eP n u t bv bd:=⟨_,rfl⟩
 obtain⟨tZ,htZ⟩:∃ z,z=putT n u t bv bd:=⟨_,rfl⟩
 have HeZ:Hid (eZ=eP n u t bv bd):=heZ
 have HtZ:Hid (tZ=putT n u t bv bd):=htZ
 rw [← heZ,← htZ]
 obtain⟨w1,hw1⟩:∃ W,W=w.alloc (.cells #[.int .i64 (bv:Int),.int .i64 (bd:Int)] 134):=⟨_,rfl⟩
 have b1:Below w.heap.size w w1:=by rw [hw1];exact belowA _ _
 have s1:w1.heap.size=w.heap.size+1:=by rw [hw1];simp
 obtain⟨X,hX⟩:∃ X,X=w.heap.size:=⟨_,rfl⟩
 have mX:BdP w1 X bv bd:=by unfold BdP;rw [hw1,hX];exact heapNew _ _
 have hl1':=ht.l1
 have hl2':=ht.l2
 have hl3':=ht.l3
 have hl4':=ht.l4
 have hgX:g<X:=by have:=h6.lt;omega
 have hBX:B≤X:=by have:=hE.bw;omega
 have hE1:=hE.kn (Kn.of_below b1:Kn (fun q=>q<B) w w1)
 have htw:TsTop w1 lo m1 m2 hi t ra rc ka kc sa sc:=ht.keep b1.size (fun q _ _ hs=>b1.block q hs)
 have hbw:BlkC w1 g 26 MM:=hBk.kn (No:=fun _=>True) (Kn.of_below b1) trivial
 have hkcap:t.kids.length≤kc:=by obtain⟨_,_,e,h,_⟩:=ht.kids;cases e;exact h
 have hscap:t.sys.length≤sc:=by obtain⟨_,_,e,h,_⟩:=ht.sys;cases e;exact h
 have H6:Hid (∀ V,Kn (fun q=>¬ (lo≤q∧q<hi)∧q≠X) w1 V→Cs6 V g off t ra rc ka kc sa sc):=fun V q=>(h6.blw b1).kn q ⟨by omega,by omega⟩
 have HEn:Hid (∀ V,Kn (fun q=>¬ (lo≤q∧q<hi)∧q≠X) w1 V→PEnv V B nb ub n u):=fun V q=>hE1.kn (q.sub fun z h=>⟨by omega,by omega⟩)
 have HCh:Hid (∀ V,Kn (fun q=>¬ (lo≤q∧q<hi)∧q≠X) w1 V→Chg w V g off lo hi):=fun V q=>chg_of (kn_drop b1 (by omega) q) h6.lt hgl
 have HRow:Hid (ClRow (Iv lo m1) w1 t.r (.slice ra t.r.length rc)):=htw.row
 have HIk:Hid (I64 t.kind∧I64 t.n):=⟨ht.ik,ht.inn⟩
 obtain⟨G,cb,hKO⟩:=htw.kids.open'
 obtain⟨GS,cs,hSO⟩:=htw.sys.open'
 obtain⟨kd,hkd⟩:∃ k,k=t.kind:=⟨_,rfl⟩
 have Hkd:Hid (kd=t.kind):=hkd
 obtain⟨L,hL⟩:∃ L,L=t.kids.length:=⟨_,rfl⟩
 obtain⟨M,hM⟩:∃ M,M=t.sys.length:=⟨_,rfl⟩
 have HL:Hid (L=t.kids.length∧M=t.sys.length):=⟨hL,hM⟩
 obtain⟨lE,hlE⟩:∃ l,l=ePK n u t.kind t.kids bv bd:=⟨_,rfl⟩
 obtain⟨lK,hlK⟩:∃ l,l=putK n u t.kind t.kids bv bd:=⟨_,rfl⟩
 obtain⟨lF,hlF⟩:∃ l:List Int,l=t.sys.map fun b=>firstE (ePL n u t.kind b.2 bv bd):=⟨_,rfl⟩
 obtain⟨lS,hlS⟩:∃ l,l=t.sys.map fun b=>putB n u t.kind b bv bd:=⟨_,rfl⟩
 have HlE:Hid (lE=ePK n u t.kind t.kids bv bd∧lK=putK n u t.kind t.kids bv bd∧lE.length=L∧lK.length=L):=⟨hlE,hlK,by rw [hlE,ePK_len,hL],by rw [hlK,putK_len,hL]⟩
 have HlF:Hid ((lF=t.sys.map fun b=>firstE (ePL n u t.kind b.2 bv bd))∧(lS=t.sys.map fun b=>putB n u t.kind b bv bd)∧lF.length=M∧lS.length=M):=⟨hlF,hlS,by rw [hlF,List.length_map,hM],by rw [hlS,List.length_map,hM]⟩
 have HKO:Hid (t.kids≠[]→KsAt w1 m1 m2 t.kids ka G cb∧KInv w1 G cb t.kids lK 0 (X+1)):=fun h=>⟨(hKO h).1,(hKO h).2 _ _⟩
 have HSO:Hid (t.sys≠[]→SsAt m2 hi t.sys sa GS cs∧SInv w1 GS cs t.sys lS 0 (X+1)):=fun h=>⟨(hSO h).1,(hSO h).2 _ _⟩
 have Hcap:Hid (t.kids.length≤kc∧t.sys.length≤sc):=⟨hkcap,hscap⟩
 have x6:=h6.blw b1
 have k0:=x6.c0
 rw [← hkd] at k0
 have hll:X+1≤w1.heap.size∧w1.heap.size≤X+1:=by omega
 have hhiX:hi≤X:=by omega
 have HW:Hid (_=_):=hw1
 have HX:Hid (X=w.heap.size):=hX
 have hK1:Kn (fun q=>¬ (lo≤q∧q<hi)∧q≠X) w1 w1:=Kn.refl _ _
 have eg:=pcl_eg
 obtain⟨xb0,xb1⟩:=mX.cs
 have hLb:L≤200000:=by omega
 have hMb:M≤200000:=by omega
 have HFk:Hid (∀ x∈t.kids,Fp x):=hfk
 have HFs:Hid (∀ b∈t.sys,∀ x∈b.2,Fp x):=hfs
 have HVk:Hid (t.kind=1→t.kids=[]∧t.sys=[]):=hvk
 have HVc:Hid (t.kind=1→Calls Tryz.prog 129 #[.pointer (some ⟨g,off,none⟩),.agg #[.int .i64 (bv:Int),.int .i64 (bd:Int)],.pointer (some ⟨nb,0,none⟩),.pointer (some ⟨ub,0,none⟩)] w1 fun e w'=>LOut eZ (fun v=>v=.tuple #[]∧PvR w1 w' g off lo hi tZ) e∧Chg w1 w' g off lo hi):=fun hk=>by
  rw [heZ,htZ]
  exact pcl_any hLA n u hub t bv bd g off lo hi m1 m2 B nb ub MM ra rc ka kc sa sc w1 hE1 x6 htw hbw hMM hBl hBg hgl hk hn0 (hvk hk).1 (hvk hk).2 (by omega) (by omega)
 clear hw1 hE hE1 h6 ht htw hbw hBk hf hfk hfs hvk hl1 hl2 hl3 hl4 heZ htZ hlE hlK hlF hlS hKO hSO hkd hL hM s1 x6 hX hkcap hscap
 go_enter Tryz.func126,Tryz.ntmps126
 go_upto_region 1 with fail
 rw [← HW.out]
 simp only [← HX.out]
 by_cases hk1:kd=1
 ·have cc:=HVc.out (by rw [← Hkd.out];exact hk1)
  subst hk1
  have HCb:Hid (Chg w w1 g off lo hi):=HCh.out w1 hK1
  have HXs:Hid (w.heap.size≤w1.heap.size):=b1.size
  clear mX HVc
  go_wp2_with fail
  refine cc.mono ?_
  rintro e w3 ⟨⟨he0,v,rfl,rfl,hp⟩ | ⟨hne,rfl⟩,hc⟩
  ·have HF:Hid (PvR w w3 g off lo hi tZ∧Chg w w3 g off lo hi):=by
    obtain⟨r1,r2,r3,r4,r5,r6,c6,tt⟩:=hp
    exact⟨⟨r1,r2,r3,r4,r5,r6,c6,tt.up fun q hq=>by have:=HXs.out;omega⟩,HCb.out.trans hc⟩
   clear hp hc cc
   go_wp2_with fail
   exact bodyPost_ret (v:=.tuple #[]) (by simp only [results,Tryz.results126];simp [go_sem]) rfl ⟨.ok he0 ⟨rfl,HF.out.1⟩,HF.out.2⟩
  ·exact⟨rfl,.inr ⟨hne,rfl⟩,HCb.out.trans hc⟩
 ·have hk1b:(kd == 1)=false:=by simpa using hk1
  have HeS:Hid (eZ=firstE (lE++lF)):=by
   show _=_
   rw [HeZ.out,eP_eq,if_neg (by rw [← Hkd.out];exact hk1),← HlE.out.1,← HlF.out.1]
  have HtS:Hid (tZ=.mk t.kind t.n t.name t.r lK lS):=by
   have e:pnV n bv t.kind t.n=t.n:=by unfold pnV;rw [if_neg (fun h=>hk1 (by rw [Hkd.out];exact h.1))]
   show _=_
   rw [HtZ.out,put_eq,if_neg (fun h=>hk1 (by rw [Hkd.out];exact h.1)),e,← HlE.out.2.1,← HlF.out.2.1]
  have x4:=(H6.out w1 hK1).c4
  rw [← HL.out.1] at x4
  have hkd1:kd≠1:=hk1
  clear hk1 xb0 xb1 HW HVc HeZ HtZ
  go_wp2_with fail
  go_loopw [26] (fun i wr=>∃ k:Nat,k≤L∧i=.int .i64 k∧Hid (t.kids≠[]→KInv wr G cb t.kids lK k (X+1))∧Hid (firstE (lE.take k)=0)∧BdP wr X bv bd∧Kn (fun q=>¬ (m1≤q∧q<m2)∧q≠X) w1 wr) (fun i _=>L - (intOf i).toNat)
  case atStart=>exact⟨0,Nat.zero_le _,rfl,fun h=>(HKO.out h).2,rfl,mX,Kn.refl _ _⟩
  case round =>
   clear k0 x4 mX
   obtain⟨k,hk,rfl,hIr,hFr,hBr,hKr⟩:=hrel
   have hKl:Kn (fun q=>¬ (lo≤q∧q<hi)∧q≠X) w1 wr:=hKr.sub fun q h=>⟨by omega,h.2⟩
   have y6:=H6.out wr hKl
   have hwrs:=hKr.size
   by_cases hlt:k<L
   ·obtain⟨x,hx⟩:=someL (l:=t.kids) (k:=k) (by rw [← HL.out.1];exact hlt)
    have hne:t.kids≠[]:=fun e=>by rw [e] at hx;simp at hx
    obtain⟨hA,_⟩:=HKO.out hne
    have hI:=hIr.out hne
    obtain⟨ra1,rc1,ka1,kc1,sa1,sc1,mm1,mm2,h62,ht2⟩:=hI.at hx
    obtain⟨hc1,hc2,hc3⟩:=hA.le (by rw [← HL.out.1];exact hlt)
    have hGl:=hA.lo
    have hat:=hA.at_
    subst hat
    have hbx:=blk_kid (List.mem_of_getElem? hx)
    have hfx:=HFk.out x (List.mem_of_getElem? hx)
    have hbk:=bvK_le kd k
    have hdk:=bdK_le kd k
    have hcx:Hid (lE[k]? = some (eP n u x (bv+bvK kd k) (bd+bdK kd k))):=by show _=_;rw [HlE.out.1,Hkd.out];exact ePK_get hx
    have hcy:Hid (lK[k]? = some (putT n u x (bv+bvK kd k) (bd+bdK kd k))):=by show _=_;rw [HlE.out.2.1,Hkd.out];exact putK_get hx
    have y0:=y6.c0
    have y4:=y6.c4
    rw [← Hkd.out] at y0
    rw [← HL.out.1] at y4
    have cB:=bindsC_any kd (k:Int) wr
    rw [bvI_nat,bdI_nat] at cB
    obtain⟨kv,hkv⟩:∃ z,z=bvK kd k:=⟨_,rfl⟩
    obtain⟨ke,hke⟩:∃ z,z=bdK kd k:=⟨_,rfl⟩
    obtain⟨v2,hv2⟩:∃ z,z=bv+kv:=⟨_,rfl⟩
    obtain⟨d2,hd2⟩:∃ z,z=bd+ke:=⟨_,rfl⟩
    rw [← hkv,← hke] at cB
    rw [← hkv] at hbk hcx hcy
    rw [← hke] at hdk hcx hcy
    rw [← hv2,← hd2] at hcx hcy
    have Hv2:Hid (v2=bv+kv∧d2=bd+ke):=⟨hv2,hd2⟩
    clear hv2 hd2 hkv hke
    have hkI:(k:Int) < (L:Int):=by omega
    have HI:Hid (KInv wr G cb t.kids lK k (X+1)∧KsAt w1 m1 m2 t.kids (some ⟨G,0,none⟩) G cb):=⟨hI,hA⟩
    have HKr:Hid (Kn (fun q=>¬ (m1≤q∧q<m2)∧q≠X) w1 wr):=hKr
    have Hx:Hid (Cs6 wr G (k*6) x ra1 rc1 ka1 kc1 sa1 sc1∧TsTop wr (cb k) mm1 mm2 (cb (k+1)) x ra1 rc1 ka1 kc1 sa1 sc1):=⟨h62,ht2⟩
    have hEr:=HEn.out wr hKl
    have HBr:Hid (∀ V,Kn (fun q=>¬ (lo≤q∧q<hi)) wr V→BdP V X bv bd):=fun V q=>hBr.kn q (by omega)
    have HC:Hid (∀ V,Kn (fun q=>¬ (lo≤q∧q<hi)) wr V→Kn (fun q=>¬ (lo≤q∧q<hi)∧q≠X) w1 V):=fun V q=>hKl.trans (q.sub fun z h=>h.1)
    have HEr:Hid (PEnv wr B nb ub n u):=hEr
    clear hI hA hKr h62 ht2 hIr hEr
    go_wp2_with fail
    refine cB.mono ?_
    rintro e w' ⟨rfl,hw'⟩
    replace hw':=hw'.symm
    subst hw'
    clear cB
    go_upto_region 7 with fail
    have HWi:Hid (IntKind.i64.wrap ((bv:Int) + (kv:Int))=(v2:Int)∧IntKind.i64.wrap ((bd:Int) + (ke:Int))=(d2:Int)):=by
     have:=Hv2.out
     refine⟨?_,?_⟩ <;> (simp [IntKind.wrap,IntKind.bits,IntKind.signed];omega)
    refine wp_region_held_drew (S:=fun V=>Kn (fun q=>¬ (lo≤q∧q<hi)) wr V) (by kernel_rfl) ((Kn.refl _ _).drew) (fun hS=>?_)
    refine wpAnyH_take (i:=0) (v:=.pointer (some ⟨g,off,none⟩)) rfl (by kernel_rfl) (by kernel_rfl) (by kernel_rfl) (fun _ _ _ h=>h) (Or.inl ⟨by rfl,fun w hS=>by go_simp⟩) hS ?_
    try simp only [Act.put,List.getElem_toArray,List.getElem_cons_zero,List.getElem_cons_succ,List.setIfInBounds_toArray,List.set_cons_zero,List.set_cons_succ]
    refine wpAnyH_take (i:=1) (v:=.pointer (some ⟨g,off,none⟩)) rfl (by kernel_rfl) (by kernel_rfl) (by kernel_rfl) (fun _ _ _ h=>h) (Or.inl ⟨by rfl,fun w hS=>by go_simp⟩) hS ?_
    try simp only [Act.put,List.getElem_toArray,List.getElem_cons_zero,List.getElem_cons_succ,List.setIfInBounds_toArray,List.set_cons_zero,List.set_cons_succ]
    refine wpAnyH_take (i:=2) (v:=.pointer (some ⟨g,off+4,none⟩)) rfl (by kernel_rfl) (by kernel_rfl) (by kernel_rfl) (fun _ _ _ h=>h) (Or.inl ⟨by rfl,fun w hS=>by go_simp⟩) hS ?_
    try simp only [Act.put,List.getElem_toArray,List.getElem_cons_zero,List.getElem_cons_succ,List.setIfInBounds_toArray,List.set_cons_zero,List.set_cons_succ]
    refine wpAnyH_take (i:=3) (v:=.slice (some ⟨G,0,none⟩) L kc) rfl (by kernel_rfl) (by kernel_rfl) (by kernel_rfl) (fun _ _ _ h=>h) (Or.inl ⟨by rfl,fun w hS=>by have y4:=(H6.out w (HC.out w hS)).c4;rw [← HL.out.1] at y4;go_simp⟩) hS ?_
    try simp only [Act.put,List.getElem_toArray,List.getElem_cons_zero,List.getElem_cons_succ,List.setIfInBounds_toArray,List.set_cons_zero,List.set_cons_succ]
    refine wpAnyH_take (i:=4) (v:=.int .i64 (k:Int)) rfl (by kernel_rfl) (by kernel_rfl) (by kernel_rfl) (fun _ _ _ h=>h) (Or.inl ⟨by rfl,fun w hS=>by go_simp⟩) hS ?_
    try simp only [Act.put,List.getElem_toArray,List.getElem_cons_zero,List.getElem_cons_succ,List.setIfInBounds_toArray,List.set_cons_zero,List.set_cons_succ]
    refine wpAnyH_take (i:=5) (v:=.pointer (some ⟨G,k*6,none⟩)) rfl (by kernel_rfl) (by kernel_rfl) (by kernel_rfl) (fun _ _ _ h=>h) (Or.inl ⟨by rfl,fun w hS=>by go_simp⟩) hS ?_
    try simp only [Act.put,List.getElem_toArray,List.getElem_cons_zero,List.getElem_cons_succ,List.setIfInBounds_toArray,List.set_cons_zero,List.set_cons_succ]
    refine wpAnyH_take (i:=6) (v:=.pointer (some ⟨X,0,none⟩)) rfl (by kernel_rfl) (by kernel_rfl) (by kernel_rfl) (fun _ _ _ h=>h) (Or.inl ⟨by rfl,fun w hS=>by go_simp⟩) hS ?_
    try simp only [Act.put,List.getElem_toArray,List.getElem_cons_zero,List.getElem_cons_succ,List.setIfInBounds_toArray,List.set_cons_zero,List.set_cons_succ]
    refine wpAnyH_take (i:=7) (v:=.int .i64 (bv:Int)) rfl (by kernel_rfl) (by kernel_rfl) (by kernel_rfl) (fun _ _ _ h=>h) (Or.inl ⟨by rfl,fun w hS=>by obtain⟨xb0,xb1⟩:=(HBr.out w hS).cs;go_simp⟩) hS ?_
    try simp only [Act.put,List.getElem_toArray,List.getElem_cons_zero,List.getElem_cons_succ,List.setIfInBounds_toArray,List.set_cons_zero,List.set_cons_succ]
    refine wpAnyH_take (i:=8) (v:=.int .i64 (kv:Int)) rfl (by kernel_rfl) (by kernel_rfl) (by kernel_rfl) (fun _ _ _ h=>h) (Or.inl ⟨by rfl,fun w hS=>by go_simp⟩) hS ?_
    try simp only [Act.put,List.getElem_toArray,List.getElem_cons_zero,List.getElem_cons_succ,List.setIfInBounds_toArray,List.set_cons_zero,List.set_cons_succ]
    refine wpAnyH_take (i:=9) (v:=.int .i64 (v2:Int)) rfl (by kernel_rfl) (by kernel_rfl) (by kernel_rfl) (fun _ _ _ h=>h) (Or.inl ⟨by rfl,fun w hS=>by have wi:=HWi.out.1;go_simp⟩) hS ?_
    try simp only [Act.put,List.getElem_toArray,List.getElem_cons_zero,List.getElem_cons_succ,List.setIfInBounds_toArray,List.set_cons_zero,List.set_cons_succ]
    refine wpAnyH_take (i:=10) (v:=.pointer (some ⟨X,1,none⟩)) rfl (by kernel_rfl) (by kernel_rfl) (by kernel_rfl) (fun _ _ _ h=>h) (Or.inl ⟨by rfl,fun w hS=>by go_simp⟩) hS ?_
    try simp only [Act.put,List.getElem_toArray,List.getElem_cons_zero,List.getElem_cons_succ,List.setIfInBounds_toArray,List.set_cons_zero,List.set_cons_succ]
    refine wpAnyH_take (i:=11) (v:=.int .i64 (bd:Int)) rfl (by kernel_rfl) (by kernel_rfl) (by kernel_rfl) (fun _ _ _ h=>h) (Or.inl ⟨by rfl,fun w hS=>by obtain⟨xb0,xb1⟩:=(HBr.out w hS).cs;go_simp⟩) hS ?_
    try simp only [Act.put,List.getElem_toArray,List.getElem_cons_zero,List.getElem_cons_succ,List.setIfInBounds_toArray,List.set_cons_zero,List.set_cons_succ]
    refine wpAnyH_take (i:=12) (v:=.int .i64 (ke:Int)) rfl (by kernel_rfl) (by kernel_rfl) (by kernel_rfl) (fun _ _ _ h=>h) (Or.inl ⟨by rfl,fun w hS=>by go_simp⟩) hS ?_
    try simp only [Act.put,List.getElem_toArray,List.getElem_cons_zero,List.getElem_cons_succ,List.setIfInBounds_toArray,List.set_cons_zero,List.set_cons_succ]
    refine wpAnyH_take (i:=13) (v:=.int .i64 (d2:Int)) rfl (by kernel_rfl) (by kernel_rfl) (by kernel_rfl) (fun _ _ _ h=>h) (Or.inl ⟨by rfl,fun w hS=>by have wi:=HWi.out.2;go_simp⟩) hS ?_
    try simp only [Act.put,List.getElem_toArray,List.getElem_cons_zero,List.getElem_cons_succ,List.setIfInBounds_toArray,List.set_cons_zero,List.set_cons_succ]
    refine wpAnyH_take (i:=14) (v:=.agg #[.int .i64 (v2:Int),.int .i64 (d2:Int)]) rfl (by kernel_rfl) (by kernel_rfl) (by kernel_rfl) (fun _ _ _ h=>h) (Or.inl ⟨by rfl,fun w hS=>by go_simp⟩) hS ?_
    try simp only [Act.put,List.getElem_toArray,List.getElem_cons_zero,List.getElem_cons_succ,List.setIfInBounds_toArray,List.set_cons_zero,List.set_cons_succ]
    refine wpAnyH_take (i:=15) (v:=.func (.func 129) #[] #[.pointer (some ⟨nb,0,none⟩),.pointer (some ⟨ub,0,none⟩)]) rfl (by kernel_rfl) (by kernel_rfl) (by kernel_rfl) (fun _ _ _ h=>h) (Or.inl ⟨by rfl,fun w hS=>by go_simp⟩) hS ?_
    try simp only [Act.put,List.getElem_toArray,List.getElem_cons_zero,List.getElem_cons_succ,List.setIfInBounds_toArray,List.set_cons_zero,List.set_cons_succ]
    refine wpAnyH_ready (rs:=[16]) (by kernel_rfl) (by simp) ?_
    refine ready_cons rfl (fun KK hKK=>?_) AllReadyH.nil
    refine⟨?_⟩
    have hLk:t.kids.length=L:=HL.out.1.symm
    have cc:=IH x v2 d2 G (k*6) (cb k) (cb (k+1)) mm1 mm2 B nb ub (t.kids.length*6) ra1 rc1 ka1 kc1 sa1 sc1 wr.drew (HEr.out.kn ((Kn.refl _ _).drew)) (Hx.out.1.keep (Nat.le_refl _) rfl) (Hx.out.2.keep (Nat.le_refl _) (fun _ _ _ _=>rfl)) HI.out.1.bk (by omega) (by omega) (by omega) (.inl hc1) hfx (by omega) (by have:=Hv2.out;omega) (by have:=Hv2.out;omega)
    go_simp
    refine cc.mono ?_
    rintro e w3 ⟨⟨he0,v,rfl,rfl,hp⟩ | ⟨hne0,rfl⟩,hc⟩
    rotate_left
    ·have hS3:Kn (fun q=>¬ (lo≤q∧q<hi)) wr w3:=((Kn.refl _ _).drew).trans (hc.kn.sub fun q h=>⟨by omega,by omega⟩)
     have e1:eZ=eP n u x v2 d2:=by
      have q:=firstE_hit hcx.out hFr.out hne0
      rw [HeS.out,firstE_append,q,if_neg hne0]
     exact⟨rfl,.inr ⟨by rw [e1];exact hne0,by rw [e1]⟩,HCh.out _ (HC.out _ hS3)⟩
    have hS3:Kn (fun q=>¬ (lo≤q∧q<hi)) wr w3:=((Kn.refl _ _).drew).trans (hc.kn.sub fun q h=>⟨by omega,by omega⟩)
    have hcw:Chg wr w3 G (k*6) (cb k) (cb (k+1)):=(⟨(Kn.refl _ _).drew,fun _ _=>rfl,fun _ _ h=>h⟩:Chg wr wr.drew G (k*6) (cb k) (cb (k+1))).trans hc
    have HN:Hid (KInv w3 G cb t.kids lK (k+1) (X+1)):=HI.out.1.step HI.out.2 (by omega) (by omega) (by omega) hcy.out hcw hp
    have HKn3:Hid (Kn (fun q=>¬ (m1≤q∧q<m2)∧q≠X) w1 w3):=HKr.out.trans (hcw.kn.sub fun q h=>⟨by omega,by omega⟩)
    have HF3:Hid (firstE (lE.take (k+1))=0):=firstE_next (by have:=hcx.out;rwa [he0] at this) hFr.out
    refine hKK.out _ _ hS3 (fun hS4=>?_)
    clear hKK KK cc hc hcw hp
    try simp only [Act.put,List.getElem_toArray,List.getElem_cons_zero,List.getElem_cons_succ,List.setIfInBounds_toArray,List.set_cons_zero,List.set_cons_succ]
    refine wpAnyH_done (by kernel_rfl) ?_ _
    go_wp2_with fail
    exact⟨⟨k+1,by omega,by go_num,fun _=>HN.out,HF3,HBr.out _ hS3,HKn3.out⟩,by simp [intOf];omega⟩
   ·obtain rfl:k=L:=by omega
    have hkI:¬ (k:Int) < (k:Int):=by omega
    have HM15:Hid (moreK kd=if kd=15 then 1 else 0):=rfl
    have hE0:firstE lE=0:=firstE_all (by rw [HlE.out.2.2.1];exact Nat.le_refl _) hFr.out
    have HE0:Hid (firstE lE=0):=hE0
    have HKd:Hid (KdT (fun q=>(m1≤q∧q<m2)∨X+1≤q) wr (TmIn (fun q=>(m1≤q∧q<m2)∨X+1≤q) wr) lK (.slice ka lK.length kc)):=by
     by_cases hne:t.kids=[]
     ·have e:lK=[]:=List.length_eq_zero_iff.1 (by rw [HlE.out.2.2.2,HL.out.1,hne];rfl)
      rw [e]
      exact⟨ka,kc,rfl,Nat.zero_le _,fun j x hx=>by simp at hx⟩
     ·have hI:=hIr.out hne
      rw [HL.out.1] at hI
      exact hI.row (HKO.out hne).1 (by rw [HlE.out.2.2.2,HL.out.1]) Hcap.out.1 hne
    have y0:=y6.c0
    rw [← Hkd.out] at y0
    clear hE0 hIr
    go_upto_if 60 with fail
    clear y0 hkI
    have HB4:Hid (BdP wr X bv bd):=hBr
    obtain⟨q0,q1⟩:=hBr.cs
    have qf:wr.frozen? ⟨X,1,none⟩=false:=by unfold BdP at hBr;unfold World.frozen?; simp [hBr]
    go_cut [] (fun wx=>BdP wx X bv (bd+moreK kd)∧Kn (fun q=>q≠X) wr wx)
    case first =>
     by_cases h15:kd=15
     ·subst h15
      have hm:moreK 15=1:=rfl
      have wrp:wrap64 ((bd:Int) + 1)=(bd:Int) + 1:=by simp [wrap64];omega
      have HBn:Hid (BdP (wr.setCell ⟨X,1,none⟩ (.int .i64 ((bd:Int) + 1))) X bv (bd+moreK 15)):=by
       rw [hm]
       have:=set_blk (i:=1) hBr (.int .i64 ((bd:Int) + 1))
       exact this
      clear hBr
      go_wp2_with fail
      go_meet
      exact⟨HBn.out,kn_set _ _ _ _⟩
     ·have h15b:(kd == 15)=false:=by simpa using h15
      have hm:moreK kd=0:=by rw [HM15.out,if_neg h15]
      clear hBr
      go_wp2_with fail
      go_meet
      exact⟨by rw [hm];exact HB4.out,Kn.refl _ _⟩
    case rest =>
     obtain⟨hBn,k5⟩:=hcut
     obtain⟨w5,hw5⟩:∃ W,W=wc:=⟨_,rfl⟩
     subst hw5
     have hK5:Kn (fun q=>¬ (m1≤q∧q<m2)∧q≠X) w1 w5:=hKr.trans (k5.sub fun q h=>h.2)
     have hKl5:Kn (fun q=>¬ (lo≤q∧q<hi)∧q≠X) w1 w5:=hK5.sub fun q h=>⟨by omega,h.2⟩
     have HK2:Hid (KdT (fun q=>(m1≤q∧q<m2)∨X+1≤q) w5 (TmIn (fun q=>(m1≤q∧q<m2)∨X+1≤q) w5) lK (.slice ka lK.length kc)):=HKd.out.all k5.size (fun _ q=>q) (fun q hq hs=>k5.block q (by omega) hs)
     have HSI:Hid (t.sys≠[]→SInv w5 GS cs t.sys lS 0 (X+1)):=fun h=>(HSO.out h).2.keep (HSO.out h).1 hK5.size (Nat.zero_le _) (by rw [HlF.out.2.2.2,HL.out.2]) (fun q hq hs=>hK5.block q (by omega) hs)
     have hw5s:=hK5.size
     have hBn5:=hBn
     have HRow5:Hid (ClRow (Iv lo m1) w5 t.r (.slice ra t.r.length rc)):=HRow.out.keep hK5.size (fun _ q=>q) (fun q hq hs=>hK5.block q (by have:=hq.1;have:=hq.2;omega) hs)
     have HKl5:Hid (Kn (fun q=>¬ (lo≤q∧q<hi)∧q≠X) w1 w5):=hKl5
     have x5:=(H6.out w5 hKl5).c5
     rw [← HL.out.2] at x5
     have hmo:=moreK_le kd
     obtain⟨mo,hmo2⟩:∃ z,z=bd+moreK kd:=⟨_,rfl⟩
     rw [← hmo2] at hBn hBn5
     have Hmo:Hid (mo=bd+moreK kd):=hmo2
     have hmob:mo≤bd+1:=by omega
     have HB5:Hid (∀ V,Kn (fun q=>¬ (m2≤q∧q<hi)) w5 V→BdP V X bv mo):=fun V q=>hBn5.kn q (by omega)
     have HC5:Hid (∀ V,Kn (fun q=>¬ (m2≤q∧q<hi)) w5 V→Kn (fun q=>¬ (lo≤q∧q<hi)∧q≠X) w1 V):=fun V q=>hKl5.trans (q.sub fun z h=>by omega)
     clear q0 q1 qf HB4 hBr k5 hwrs hmo2 hmo hBn hBn5 hK5 hKl5 hKl hKr HKd y6
     go_wp2_with fail
     go_loopw [70] (fun i wr=>∃ j:Nat,j≤M∧i=.int .i64 j∧Hid (t.sys≠[]→SInv wr GS cs t.sys lS j (X+1))∧Hid (firstE (lF.take j)=0)∧Kn (fun q=>¬ (m2≤q∧q<hi)) w5 wr) (fun i _=>M - (intOf i).toNat)
     case atStart=>exact⟨0,Nat.zero_le _,rfl,HSI,rfl,Kn.refl _ _⟩
     case round =>
      clear x5
      obtain⟨wo,hwo⟩:∃ wo,wo=wr:=⟨_,rfl⟩
      subst hwo
      obtain⟨j,hj,rfl,hIo,hFo,hKo⟩:=hrel
      have hKlo:=HC5.out wo hKo
      have hwos:=hKo.size
      by_cases hlt:j<M
      ·have hjI:(j:Int) < (M:Int):=by omega
       obtain⟨x,hx⟩:=someL (l:=t.sys) (k:=j) (by rw [← HL.out.2];exact hlt)
       have hne:t.sys≠[]:=fun e=>by rw [e] at hx;simp at hx
       obtain⟨hA,_⟩:=HSO.out hne
       have hI:=hIo.out hne
       obtain⟨mm,fa1,fc1,ka1,kc1,p1,p2,h22,hcl,hkds⟩:=hI.at hx
       obtain⟨hc1,hc2,hc3⟩:=hA.le (by rw [← HL.out.2];exact hlt)
       have hGl:=hA.lo
       have hat:=hA.at_
       subst hat
       obtain⟨F,hF⟩:∃ F,F=x.1.length:=⟨_,rfl⟩
       obtain⟨Q,hQ⟩:∃ Q,Q=x.2.length:=⟨_,rfl⟩
       have HFQ:Hid (F=x.1.length∧Q=x.2.length):=⟨hF,hQ⟩
       obtain⟨lQ,hlQ⟩:∃ l,l=ePL n u t.kind x.2 bv bd:=⟨_,rfl⟩
       obtain⟨l2,hl2⟩:∃ l,l=x.2.map fun y=>putT n u y bv (bd+moreK t.kind):=⟨_,rfl⟩
       have HlQ:Hid (lQ=x.2.map (fun y=>eP n u y bv mo)∧l2=x.2.map (fun y=>putT n u y bv mo)):=by
        rw [Hmo.out,Hkd.out];exact⟨hlQ,hl2⟩
       have hcx:Hid (lF[j]? = some (firstE lQ)):=by show _=_;rw [HlF.out.1,List.getElem?_map,hx,hlQ];rfl
       have hcy:Hid (lS[j]? = some (x.1,l2)):=by show _=_;rw [HlF.out.2.1,List.getElem?_map,hx,hl2];rfl
       have z0:=h22.c0
       have z1:=h22.c1
       rw [← hF] at z0
       rw [← hQ] at z1
       obtain⟨w6,hw6⟩:∃ W,W=wo.alloc (.cells #[.slice fa1 F fc1,.slice ka1 Q kc1] 40):=⟨_,rfl⟩
       obtain⟨Y,hY⟩:∃ Y,Y=wo.heap.size:=⟨_,rfl⟩
       have b6:Below wo.heap.size wo w6:=by rw [hw6];exact belowA _ _
       have m6:w6.heap[Y]? = some (.cells #[.slice fa1 F fc1,.slice ka1 Q kc1] 40 (0,0)):=by rw [hw6,hY];exact heapNew _ _
       have s6:Y<w6.heap.size:=(Array.getElem?_eq_some_iff.1 m6).1
       have hXY:X<Y:=by omega
       have HS6:Hid (SInv wo GS cs t.sys lS j (X+1)∧SsAt m2 hi t.sys (some ⟨GS,0,none⟩) GS cs∧Cs2 wo GS (j*2) x fa1 fc1 ka1 kc1∧ClRow (Iv (cs j) mm) wo x.1 (.slice fa1 x.1.length fc1)∧Below wo.heap.size wo w6):=⟨hI,hA,h22,hcl,b6⟩
       have hkd6:KdS w6 (TmS w6) mm (cs (j+1)) x.2 (.slice ka1 x.2.length kc1):=hkds.keep b6.size (fun q _ _ hs=>b6.block q hs)
       have hqcap:x.2.length≤kc1:=by obtain⟨_,_,e,h,_⟩:=hkds;cases e;exact h
       obtain⟨G3,cb3,hQO⟩:=hkd6.open'
       have HQO:Hid (x.2≠[]→KsAt w6 mm (cs (j+1)) x.2 ka1 G3 cb3∧KInv w6 G3 cb3 x.2 l2 0 (X+1)):=fun h=>⟨(hQO h).1,(hQO h).2 _ _⟩
       have Hqc:Hid (x.2.length≤kc1):=hqcap
       have hK6:Kn (fun q=>¬ (m2≤q∧q<hi)) w5 w6:=hKo.trans (Kn.of_below b6)
       have HC6:Hid (∀ V,Kn (fun z=>¬ (mm≤z∧z<cs (j+1))) w6 V→Kn (fun q=>¬ (m2≤q∧q<hi)) w5 V):=fun V q=>hK6.trans (q.sub fun z h=>by omega)
       have HM6:Hid (∀ V,Kn (fun z=>¬ (mm≤z∧z<cs (j+1))) w6 V→V.cell? ⟨Y,1,none⟩=some (.slice ka1 Q kc1)):=fun V q=>(q.cell (p:=⟨Y,1,none⟩) (by show ¬ (mm≤Y∧Y<cs (j+1));omega) s6).trans (by simp [World.cell?,m6])
       have z61:=HM6.out w6 (Kn.refl _ _)
       have hbrr:=blk_br (List.mem_of_getElem? hx)
       have HFx:Hid (∀ y∈x.2,Fp y):=HFs.out x (List.mem_of_getElem? hx)
       have hll2:=blkL_len x.2
       have hQb:Q≤200000:=by omega
       have hw6s:=hK6.size
       have H6w:Hid (_=_):=hw6
       have HY:Hid (Y=wo.heap.size):=hY
       have hXw6:X+1≤w6.heap.size:=by omega
       clear hF hQ hlQ hl2 hw6 hY hI hA hkds hkd6 hcl h22 hQO hqcap b6 m6 hIo hKlo hwos hll2 hK6 hw6s
       go_upto_region 14 with fail
       rw [← H6w.out]
       simp only [← HY.out]
       clear H6w HY z0 z1
       go_wp2_with fail
       go_loopw [77] (fun i wr=>∃ q:Nat,q≤Q∧i=.int .i64 q∧Hid (x.2≠[]→KInv wr G3 cb3 x.2 l2 q (X+1))∧Hid (firstE (lQ.take q)=0)∧Kn (fun z=>¬ (mm≤z∧z<cs (j+1))) w6 wr) (fun i _=>Q - (intOf i).toNat)
       case atStart=>exact⟨0,Nat.zero_le _,rfl,fun h=>(HQO.out h).2,rfl,Kn.refl _ _⟩
       case round =>
        clear z61
        obtain⟨wq,hwq⟩:∃ wq,wq=wr:=⟨_,rfl⟩
        subst hwq
        obtain⟨q,hq,rfl,hIq,hFq,hKq⟩:=hrel
        have hwqs:=hKq.size
        by_cases hltq:q<Q
        ·have hqI:(q:Int) < (Q:Int):=by omega
         obtain⟨y,hy⟩:=someL (l:=x.2) (k:=q) (by rw [← HFQ.out.2];exact hltq)
         have hneq:x.2≠[]:=fun e=>by rw [e] at hy;simp at hy
         obtain⟨hAq,_⟩:=HQO.out hneq
         have hI3:=hIq.out hneq
         obtain⟨ra1,rc1,ka3,kc3,sa1,sc1,mm1,mm2,h63,ht3⟩:=hI3.at hy
         obtain⟨hd1,hd2,hd3⟩:=hAq.le (by rw [← HFQ.out.2];exact hltq)
         have hG3:=hAq.lo
         have hat:=hAq.at_
         subst hat
         have hby:=sumN_mem (List.mem_map_of_mem (f:=blk) (List.mem_of_getElem? hy))
         have hbkl:blk y≤blkL x.2:=hby
         have hfy:=HFx.out y (List.mem_of_getElem? hy)
         have hcx2:Hid (lQ[q]? = some (eP n u y bv mo)):=by show _=_;rw [HlQ.out.1,List.getElem?_map,hy];rfl
         have hcy2:Hid (l2[q]? = some (putT n u y bv mo)):=by show _=_;rw [HlQ.out.2,List.getElem?_map,hy];rfl
         have HI3:Hid (KInv wq G3 cb3 x.2 l2 q (X+1)∧KsAt w6 mm (cs (j+1)) x.2 (some ⟨G3,0,none⟩) G3 cb3):=⟨hI3,hAq⟩
         have Hy:Hid (Cs6 wq G3 (q*6) y ra1 rc1 ka3 kc3 sa1 sc1∧TsTop wq (cb3 q) mm1 mm2 (cb3 (q+1)) y ra1 rc1 ka3 kc3 sa1 sc1):=⟨h63,ht3⟩
         have HKq:Hid (Kn (fun z=>¬ (mm≤z∧z<cs (j+1))) w6 wq):=hKq
         have HEq:Hid (PEnv wq B nb ub n u):=HEn.out wq (HC5.out _ (HC6.out _ hKq))
         clear hI3 hAq h63 ht3 hIq
         go_upto_region 17 with fail
         refine wp_region_held_drew (S:=fun V=>Kn (fun z=>¬ (mm≤z∧z<cs (j+1))) wq V) (by kernel_rfl) ((Kn.refl _ _).drew) (fun hS=>?_)
         refine wpAnyH_take (i:=0) (v:=.pointer (some ⟨Y,1,none⟩)) rfl (by kernel_rfl) (by kernel_rfl) (by kernel_rfl) (fun _ _ _ h=>h) (Or.inl ⟨by rfl,fun w hS=>by go_simp⟩) hS ?_
         try simp only [Act.put,List.getElem_toArray,List.getElem_cons_zero,List.getElem_cons_succ,List.setIfInBounds_toArray,List.set_cons_zero,List.set_cons_succ]
         refine wpAnyH_take (i:=1) (v:=.slice (some ⟨G3,0,none⟩) Q kc1) rfl (by kernel_rfl) (by kernel_rfl) (by kernel_rfl) (fun _ _ _ h=>h) (Or.inl ⟨by rfl,fun w hS=>by have z:=HM6.out w (HKq.out.trans hS);go_simp⟩) hS ?_
         try simp only [Act.put,List.getElem_toArray,List.getElem_cons_zero,List.getElem_cons_succ,List.setIfInBounds_toArray,List.set_cons_zero,List.set_cons_succ]
         refine wpAnyH_take (i:=2) (v:=.int .i64 (q:Int)) rfl (by kernel_rfl) (by kernel_rfl) (by kernel_rfl) (fun _ _ _ h=>h) (Or.inl ⟨by rfl,fun w hS=>by go_simp⟩) hS ?_
         try simp only [Act.put,List.getElem_toArray,List.getElem_cons_zero,List.getElem_cons_succ,List.setIfInBounds_toArray,List.set_cons_zero,List.set_cons_succ]
         refine wpAnyH_take (i:=3) (v:=.pointer (some ⟨G3,q*6,none⟩)) rfl (by kernel_rfl) (by kernel_rfl) (by kernel_rfl) (fun _ _ _ h=>h) (Or.inl ⟨by rfl,fun w hS=>by go_simp⟩) hS ?_
         try simp only [Act.put,List.getElem_toArray,List.getElem_cons_zero,List.getElem_cons_succ,List.setIfInBounds_toArray,List.set_cons_zero,List.set_cons_succ]
         refine wpAnyH_take (i:=4) (v:=.agg #[.int .i64 (bv:Int),.int .i64 (mo:Int)]) rfl (by kernel_rfl) (by kernel_rfl) (by kernel_rfl) (fun _ _ _ h=>h) (Or.inl ⟨by rfl,fun w hS=>by obtain⟨xb0,xb1⟩:=(HB5.out w (HC6.out _ (HKq.out.trans hS))).cs;go_simp⟩) hS ?_
         try simp only [Act.put,List.getElem_toArray,List.getElem_cons_zero,List.getElem_cons_succ,List.setIfInBounds_toArray,List.set_cons_zero,List.set_cons_succ]
         refine wpAnyH_take (i:=5) (v:=.func (.func 129) #[] #[.pointer (some ⟨nb,0,none⟩),.pointer (some ⟨ub,0,none⟩)]) rfl (by kernel_rfl) (by kernel_rfl) (by kernel_rfl) (fun _ _ _ h=>h) (Or.inl ⟨by rfl,fun w hS=>by go_simp⟩) hS ?_
         try simp only [Act.put,List.getElem_toArray,List.getElem_cons_zero,List.getElem_cons_succ,List.setIfInBounds_toArray,List.set_cons_zero,List.set_cons_succ]
         refine wpAnyH_ready (rs:=[6]) (by kernel_rfl) (by simp) ?_
         refine ready_cons rfl (fun KK hKK=>?_) AllReadyH.nil
         refine⟨?_⟩
         have hLq:x.2.length=Q:=HFQ.out.2.symm
         have cc:=IH y bv mo G3 (q*6) (cb3 q) (cb3 (q+1)) mm1 mm2 B nb ub (x.2.length*6) ra1 rc1 ka3 kc3 sa1 sc1 wq.drew (HEq.out.kn ((Kn.refl _ _).drew)) (Hy.out.1.keep (Nat.le_refl _) rfl) (Hy.out.2.keep (Nat.le_refl _) (fun _ _ _ _=>rfl)) HI3.out.1.bk (by omega) (by omega) (by omega) (.inl hd1) hfy (by omega) (by omega) (by omega)
         go_simp
         refine cc.mono ?_
         rintro e w7 ⟨⟨he0,v,rfl,rfl,hp⟩ | ⟨hne0,rfl⟩,hc⟩
         rotate_left
         ·have hS7:Kn (fun z=>¬ (mm≤z∧z<cs (j+1))) wq w7:=((Kn.refl _ _).drew).trans (hc.kn.sub fun q h=>⟨by omega,by omega⟩)
          have e1:eZ=eP n u y bv mo:=by
           have q1:=firstE_hit hcx2.out hFq.out hne0
           have q2:=hcx.out
           rw [q1] at q2
           have q3:=firstE_hit q2 hFo.out hne0
           rw [HeS.out,firstE_append,if_pos HE0.out,q3]
          exact⟨rfl,.inr ⟨by rw [e1];exact hne0,by rw [e1]⟩,HCh.out _ (HC5.out _ (HC6.out _ (HKq.out.trans hS7)))⟩
         have hS7:Kn (fun z=>¬ (mm≤z∧z<cs (j+1))) wq w7:=((Kn.refl _ _).drew).trans (hc.kn.sub fun q h=>⟨by omega,by omega⟩)
         have hcw:Chg wq w7 G3 (q*6) (cb3 q) (cb3 (q+1)):=(⟨(Kn.refl _ _).drew,fun _ _=>rfl,fun _ _ h=>h⟩:Chg wq wq.drew G3 (q*6) (cb3 q) (cb3 (q+1))).trans hc
         have HN:Hid (KInv w7 G3 cb3 x.2 l2 (q+1) (X+1)):=HI3.out.1.step HI3.out.2 (by omega) (by omega) (by omega) hcy2.out hcw hp
         have HF7:Hid (firstE (lQ.take (q+1))=0):=firstE_next (by have:=hcx2.out;rwa [he0] at this) hFq.out
         refine hKK.out _ _ hS7 (fun hS8=>?_)
         clear hKK KK cc hc hcw hp
         try simp only [Act.put,List.getElem_toArray,List.getElem_cons_zero,List.getElem_cons_succ,List.setIfInBounds_toArray,List.set_cons_zero,List.set_cons_succ]
         refine wpAnyH_done (by kernel_rfl) ?_ _
         go_wp2_with fail
         exact⟨⟨q+1,by omega,by go_num,fun _=>HN.out,HF7,HKq.out.trans hS7⟩,by simp [intOf];omega⟩
        ·obtain rfl:q=Q:=by omega
         have hqI:¬ (q:Int) < (q:Int):=by omega
         have hq0:firstE lQ=0:=firstE_all (by rw [HlQ.out.1,List.length_map,← HFQ.out.2];exact Nat.le_refl _) hFq.out
         have hl2l:l2.length=x.2.length:=by rw [HlQ.out.2,List.length_map]
         have HNs:Hid (SInv wq GS cs t.sys lS (j+1) (X+1)):=by
          have hkd:KdT (fun z=>(mm≤z∧z<cs (j+1))∨X+1≤z) wq (TmIn (fun z=>(mm≤z∧z<cs (j+1))∨X+1≤z) wq) l2 (.slice ka1 l2.length kc1):=by
           by_cases hneq:x.2=[]
           ·have e:l2=[]:=List.length_eq_zero_iff.1 (by rw [hl2l,hneq];rfl)
            rw [e]
            exact⟨ka1,kc1,rfl,Nat.zero_le _,fun j x hx=>by simp at hx⟩
           ·have hI3:=hIq.out hneq
            rw [HFQ.out.2] at hI3
            exact hI3.row (HQO.out hneq).1 hl2l Hqc.out hneq
          obtain⟨r1,r2,r3,r4,r5⟩:=HS6.out
          exact r1.step r2 hx (by omega) hcy.out hl2l p1 p2 r3 r4 ((Kn.of_below r5).trans hKq) hkd
         have HFn:Hid (firstE (lF.take (j+1))=0):=firstE_next (by have:=hcx.out;rwa [hq0] at this) hFo.out
         have HKn:=HC6.out _ hKq
         clear hIq hq0 hl2l
         go_wp2_with fail
         exact⟨⟨j+1,by omega,by go_num,fun _=>HNs.out,HFn,HKn⟩,by simp [intOf];omega⟩
      ·obtain rfl:j=M:=by omega
       have hjI:¬ (j:Int) < (j:Int):=by omega
       have hF0:firstE lF=0:=firstE_all (by rw [HlF.out.2.2.1];exact Nat.le_refl _) hFo.out
       have HFin:Hid (eZ=0∧PvR w wo g off lo hi tZ∧Chg w wo g off lo hi):=by
        refine⟨by rw [HeS.out,firstE_append,if_pos HE0.out,hF0],?_,HCh.out _ hKlo⟩
        have hSy:SyT (fun q=>(m2≤q∧q<hi)∨X+1≤q) wo (TmIn (fun q=>(m2≤q∧q<hi)∨X+1≤q) wo) lS (.slice sa lS.length sc):=by
         by_cases hne:t.sys=[]
         ·have e:lS=[]:=List.length_eq_zero_iff.1 (by rw [HlF.out.2.2.2,HL.out.2,hne];rfl)
          rw [e]
          exact⟨sa,sc,rfl,Nat.zero_le _,fun j x hx=>by simp at hx⟩
         ·have hI:=hIo.out hne
          rw [HL.out.2] at hI
          exact hI.row (HSO.out hne).1 (by rw [HlF.out.2.2.2,HL.out.2]) Hcap.out.2
        have hKd:=kd_keep HK2.out hKo (.inl (Nat.le_refl _)) (by omega)
        have h6o:=H6.out wo hKlo
        rw [HtS.out]
        have hXw:=HX.out
        obtain⟨i1,i2,i3,i4,i5,i6,i7⟩:=h6o
        rw [← HL.out.1,← HlE.out.2.2.2] at i6
        rw [← HL.out.2,← HlF.out.2.2.2] at i7
        refine⟨ra,rc,ka,kc,sa,sc,⟨i1,i2,i3,i4,i5,i6,i7⟩,HIk.out.1,HIk.out.2,?_,?_,?_⟩
        ·exact HRow5.out.keep hKo.size (fun q hq=>.inl ⟨hq.1,by have:=hq.2;omega⟩) (fun q hq hs=>hKo.block q (by have:=hq.2;omega) hs)
        ·exact hKd.all (Nat.le_refl _) (fun q hq=>by omega) (fun _ _ _=>rfl)
        ·exact hSy.all (Nat.le_refl _) (fun q hq=>by omega) (fun _ _ _=>rfl)
       clear hF0 hIo
       go_wp2_with fail
       go_end0
       exact⟨.ok HFin.out.1 ⟨rfl,HFin.out.2.1⟩,HFin.out.2.2⟩
end Go.Proofs.YtblbhmnahoiecaaGreat
