/- How often a variable stands in a term: the function that calls itself. -/
import Derived.Deep.RegionHeld
import Derived.Deep.RegionHeld3
import Derived.Deep.DeepCutAuto
import Derived.Deep.CutBlock
import Derived.Test.YtblbhmnahoiecaaGreatGG17
set_option linter.unusedVariables false
set_option linter.unusedSimpArgs false
set_option maxRecDepth 100000
set_option maxHeartbeats 600000
namespace Go.Proofs.YtblbhmnahoiecaaGreat
open Go.RowKit
def BdP (w:World) (x bv bd:Nat):Prop:=w.heap[x]? = some (.cells #[.int .i64 (bv:Int),.int .i64 (bd:Int)] 134 (0,0))
theorem BdP.cs {w:World} {x bv bd:Nat} (h:BdP w x bv bd):w.cell? ⟨x,0,none⟩=some (.int .i64 (bv:Int))∧w.cell? ⟨x,1,none⟩=some (.int .i64 (bd:Int)):=by
 unfold BdP at h;refine⟨?_,?_⟩ <;> simp [World.cell?,h]
theorem BdP.kn {No:Nat→Prop} {w w':World} {x bv bd:Nat} (h:BdP w x bv bd) (hk:Kn No w w') (hx:No x):BdP w' x bv bd:=(hk.block x hx (Array.getElem?_eq_some_iff.1 h).1).trans h
theorem kn_drop {No:Nat→Prop} {w w1 V:World} {X:Nat} (b1:Below w.heap.size w w1) (hX:w.heap.size≤X) (k:Kn (fun q=>No q∧q≠X) w1 V):Kn No w V :=
 ⟨k.os.trans b1.os,k.tape.trans b1.tape,k.output.trans b1.output,Nat.le_trans b1.size k.size,fun q hq hs=>(k.block q ⟨hq,by omega⟩ (Nat.lt_of_lt_of_le hs b1.size)).trans (b1.block q hs)⟩
theorem CEnv.kn {No:Nat→Prop} {w w':World} {nb tb:Nat} {n c:Int} (h:CEnv w nb tb n c) (hk:Kn No w w') (h1:No nb) (h2:No tb):CEnv w' nb tb n c :=
 ⟨h.ne,h.i64,(hk.cell (p:=⟨nb,0,none⟩) h1 h.nlt).trans h.cn,Nat.lt_of_lt_of_le h.nlt hk.size,(hk.block tb h2 h.lt).trans h.bt⟩
theorem ccl_eg:∀ args w,(callFunc 127 args).run Tryz.prog w=.ok (.enter 127 args) w:=enters_of Tryz.func127 (by kernel_rfl) rfl
theorem sum_step {l:List Nat} {k x:Nat} (h:l[k]? = some x):(l.take (k+1)).sum=(l.take k).sum+x:=by
 rw [List.take_add_one,h,List.sum_append];simp
theorem sum_upto {l:List Nat} {k x:Nat} (h:l[k]? = some x):(l.take k).sum+x≤l.sum:=by
 rw [← sum_step h];exact sumN_take _ _
def CvC (N:Nat):Prop:=∀ (t:Tm) (bv bd g off nb tb:Nat) (ra:Option Addr) (rc:Nat) (ka:Option Addr) (kc:Nat) (sa:Option Addr) (sc:Nat) (n c:Int) (w:World),
 CEnv w nb tb n c→Cs6 w g off t ra rc ka kc sa sc→TmTop (fun q=>q≠tb∧q<w.heap.size) w t ra rc ka kc sa sc→g≠tb→Fp t→blk t≤N→bv+blk t≤200000→bd+blk t≤200000→0≤c→c+(cnP n t bv:Int)≤1000000000 →
 Calls Tryz.prog 126 #[.pointer (some ⟨g,off,none⟩),.agg #[.int .i64 (bv:Int),.int .i64 (bd:Int)],.func (.func 127) #[] #[.pointer (some ⟨nb,0,none⟩),.pointer (some ⟨tb,0,none⟩)]] w fun e w'=>e=.returned (.tuple #[])∧CEnv w' nb tb n (c+(cnP n t bv:Int))∧Kn (fun q=>q≠tb) w w'
theorem cv_step (N:Nat) (IH:CvC N):CvC (N+1):=by
 intro t bv bd g off nb tb ra rc ka kc sa sc n c w hE h6 ht hgt hf hN hbv hbd hc0 hcb
 obtain⟨hl1,hl2,hl3,hl4⟩:=blk_lens t
 obtain⟨hn0,hvk,hfk,hfs⟩:=(fp_eq t).1 hf
 obtain⟨w1,hw1⟩:∃ W,W=w.alloc (.cells #[.int .i64 (bv:Int),.int .i64 (bd:Int)] 134):=⟨_,rfl⟩
 have b1:Below w.heap.size w w1:=by rw [hw1];exact belowA _ _
 have s1:w1.heap.size=w.heap.size+1:=by rw [hw1];simp
 obtain⟨X,hX⟩:∃ X,X=w.heap.size:=⟨_,rfl⟩
 have mX:BdP w1 X bv bd:=by unfold BdP;rw [hw1,hX];exact heapNew _ _
 have htX:tb<X:=by have:=hE.lt;omega
 have hgX:g<X:=by have:=h6.lt;omega
 have hnX:nb<X:=by have:=hE.nlt;omega
 have hE1:=hE.blw b1
 have hnt:=hE.ne
 have H6:Hid (∀ V,Kn (fun q=>q≠tb∧q≠X) w1 V→Cs6 V g off t ra rc ka kc sa sc):=fun V q=>(h6.blw b1).kn q ⟨hgt,by omega⟩
 have HT:Hid (∀ V,Kn (fun q=>q≠tb∧q≠X) w1 V→TmTop (fun q=>q≠tb∧q<X) V t ra rc ka kc sa sc):=fun V q =>
  (ht.blw b1).keep q.size (fun z h=>⟨h.1,by have:=h.2;omega⟩) (fun z h hs=>q.block z ⟨h.1,by have:=h.2;omega⟩ hs)
 have HKn:Hid (∀ V,Kn (fun q=>q≠tb∧q≠X) w1 V→Kn (fun q=>q≠tb) w V):=fun V q=>kn_drop b1 (by omega) q
 have hIk:Hid (I64 t.kind):=ht.ik
 have hIn:I64 t.n:=ht.inn
 obtain⟨kd,hkd⟩:∃ k,k=t.kind:=⟨_,rfl⟩
 have Hkd:Hid (kd=t.kind):=hkd
 obtain⟨L,hL⟩:∃ L,L=t.kids.length:=⟨_,rfl⟩
 obtain⟨M,hM⟩:∃ M,M=t.sys.length:=⟨_,rfl⟩
 have HL:Hid (L=t.kids.length∧M=t.sys.length):=⟨hL,hM⟩
 obtain⟨lK,hlK⟩:∃ l,l=cnK n t.kind t.kids bv:=⟨_,rfl⟩
 obtain⟨lS,hlS⟩:∃ l:List Nat,l=t.sys.map fun b=>(cnL n b.2 bv).sum:=⟨_,rfl⟩
 have HlK:Hid (_=_):=hlK
 have HlS:Hid (_=_):=hlS
 have hcn:=cn_eq n t bv
 rw [← hlK,← hlS] at hcn
 obtain⟨cz,hcz⟩:∃ z,z=c+(cnP n t bv:Int):=⟨_,rfl⟩
 have Hcz:Hid (cz=c+(cnP n t bv:Int)∧cnP n t bv=(if t.kind=1∧t.n - (bv:Int)=n then 1 else 0) + (lK.sum+lS.sum)):=⟨hcz,hcn⟩
 have hczb:cz≤1000000000:=by omega
 rw [← hcz]
 have x6:=h6.blw b1
 have k0:=x6.c0
 have k1:=x6.c1
 rw [← hkd] at k0
 have hll:X+1≤w1.heap.size∧w1.heap.size≤X+1:=by omega
 have HW:Hid (_=_):=hw1
 have HX:Hid (X=w.heap.size):=hX
 have hK1:Kn (fun q=>q≠tb∧q≠X) w1 w1:=Kn.refl _ _
 have eg:=ccl_eg
 obtain⟨xb0,xb1⟩:=mX.cs
 have hLb:L≤200000:=by omega
 have hMb:M≤200000:=by omega
 have HFk:Hid (∀ x∈t.kids,Fp x):=hfk
 have HFs:Hid (∀ b∈t.sys,∀ x∈b.2,Fp x):=hfs
 have HVk:Hid (t.kind=1→t.kids=[]∧t.sys=[]):=hvk
 clear hw1 hE h6 ht hf hfk hfs hvk hl1 hl2 hl3 hl4 hcn hcz hlK hlS hkd hL hM s1 x6 hX
 go_enter Tryz.func126,Tryz.ntmps126
 go_upto_region 1 with fail
 rw [← HW.out]
 simp only [← HX.out]
 by_cases hk1:kd=1
 ·have cc:=ccl_any n c t.n bv bd g off nb tb w1 hE1 (by omega) k1 ⟨hn0,hIn.2⟩ (by omega) ⟨hc0,by have:=Hcz.out.1;omega⟩
  obtain⟨e1,e2⟩:=HVk.out (by rw [← Hkd.out];exact hk1)
  have HF:Hid (c+(if t.n - (bv:Int)=n then 1 else 0)=cz):=by
   have q1:=Hcz.out.1
   have q2:=Hcz.out.2
   have q3:lK.sum=0:=by rw [HlK.out,e1];rfl
   have q4:lS.sum=0:=by rw [HlS.out,e2];rfl
   rw [q1,q2,q3,q4]
   by_cases h:t.n - (bv:Int)=n
   ·rw [if_pos h,if_pos ⟨by rw [← Hkd.out];exact hk1,h⟩];rfl
   ·rw [if_neg h,if_neg (fun q=>h q.2)];rfl
  rw [HF.out] at cc
  subst hk1
  clear hE1 mX e1 e2
  go_wp2_with fail
  refine cc.mono ?_
  rintro e w3 ⟨rfl,hE3,hk3⟩
  go_wp2_with fail
  exact bodyPost_ret (v:=.tuple #[]) (by simp only [results,Tryz.results126];simp [go_sem]) rfl ⟨rfl,hE3,HKn.out _ (hk3.sub fun q h=>h.1)⟩
 ·have hk1b:(kd == 1)=false:=by simpa using hk1
  have HcS:Hid (cz=c+((lK.sum:Nat):Int) + ((lS.sum:Nat):Int)):=by
   have q1:=Hcz.out.1
   have q2:=Hcz.out.2
   rw [if_neg (fun q=>hk1 (by rw [Hkd.out];exact q.1))] at q2
   show cz=_
   omega
  have x4:=(H6.out w1 hK1).c4
  rw [← HL.out.1] at x4
  have hkd1:kd≠1:=hk1
  clear hk1 k1 xb0 xb1 HW
  go_wp2_with fail
  go_loopw [26] (fun i wr=>∃ k:Nat,k≤L∧i=.int .i64 k∧CEnv wr nb tb n (c+((lK.take k).sum:Nat))∧BdP wr X bv bd∧Kn (fun q=>q≠tb∧q≠X) w1 wr) (fun i _=>L - (intOf i).toNat)
  case atStart=>exact⟨0,Nat.zero_le _,rfl,by simpa using hE1,mX,Kn.refl _ _⟩
  case round =>
   clear k0 x4 hE1 mX
   obtain⟨k,hk,rfl,hEr,hBr,hKr⟩:=hrel
   have y6:=H6.out wr hKr
   have hwrs:=hKr.size
   by_cases hlt:k<L
   ·obtain⟨x,hx⟩:=someL (l:=t.kids) (k:=k) (by rw [← HL.out.1];exact hlt)
    obtain⟨g2,o2,ra1,rc1,ka1,kc1,sa1,sc1,rfl,⟨hg2,hg2X⟩,h62,ht2⟩:=(HT.out wr hKr).kids.at hx
    have hbx:=blk_kid (List.mem_of_getElem? hx)
    have hfx:=HFk.out x (List.mem_of_getElem? hx)
    have hcx:lK[k]? = some (cnP n x (bv+bvK kd k)):=by rw [HlK.out,Hkd.out];exact cnK_get hx
    have hup:Hid (_≤_):=sum_upto hcx
    have hst:Hid (_=_):=sum_step hcx
    have HHK:Hid (lK.sum=lK.sum):=rfl
    have hbk:=bvK_le kd k
    have hdk:=bdK_le kd k
    have hcb2:c+((lK.take k).sum:Nat) + (cnP n x (bv+bvK kd k):Nat)≤1000000000:=by have:=HcS.out;have:=hup.out;omega
    have y0:=y6.c0
    have y4:=y6.c4
    rw [← Hkd.out] at y0
    rw [← HL.out.1] at y4
    have cB:=bindsC_any kd (k:Int) wr
    rw [bvI_nat,bdI_nat] at cB
    obtain⟨kv,hkv⟩:∃ z,z=bvK kd k:=⟨_,rfl⟩
    obtain⟨ke,hke⟩:∃ z,z=bdK kd k:=⟨_,rfl⟩
    obtain⟨v2,hv2⟩:∃ z,z=bv+kv:=⟨_,rfl⟩
    obtain⟨d2,hd2⟩:∃ z,z=bd+ke:=⟨_,rfl⟩
    rw [← hkv,← hke] at cB
    rw [← hkv] at hcx hbk hcb2 hup hst
    rw [← hke] at hdk
    rw [← hv2] at hcx hcb2 hup hst
    have Hv2:Hid (v2=bv+kv∧d2=bd+ke∧kv=bvK kd k∧ke=bdK kd k):=⟨hv2,hd2,hkv,hke⟩
    clear hv2 hd2 hkv hke
    have hkI:(k:Int) < (L:Int):=by omega
    go_wp2_with fail
    refine cB.mono ?_
    rintro e w' ⟨rfl,hw'⟩
    replace hw':=hw'.symm
    subst hw'
    clear cB
    go_upto_region 7 with fail
    have HWi:Hid (IntKind.i64.wrap ((bv:Int) + (kv:Int))=(v2:Int)∧IntKind.i64.wrap ((bd:Int) + (ke:Int))=(d2:Int)):=by
     have:=Hv2.out
     refine⟨?_,?_⟩ <;> (simp [IntKind.wrap,IntKind.bits,IntKind.signed];omega)
    have HC:Hid (∀ V,Kn (fun q=>q≠tb) wr V→Kn (fun q=>q≠tb∧q≠X) w1 V):=fun V q=>hKr.trans (q.sub fun z h=>h.1)
    have HBr:Hid (∀ V,Kn (fun q=>q≠tb) wr V→BdP V X bv bd):=fun V q=>hBr.kn q (by omega)
    have HEr:Hid (CEnv wr nb tb n (c+((lK.take k).sum:Nat))):=hEr
    refine wp_region_held_drew (S:=fun V=>Kn (fun q=>q≠tb) wr V) (by kernel_rfl) ((Kn.refl _ _).drew) (fun hS=>?_)
    refine wpAnyH_take (i:=0) (v:=.pointer (some ⟨g,off,none⟩)) rfl (by kernel_rfl) (by kernel_rfl) (by kernel_rfl) (fun _ _ _ h=>h) (Or.inl ⟨by rfl,fun w hS=>by go_simp⟩) hS ?_
    try simp only [Act.put,List.getElem_toArray,List.getElem_cons_zero,List.getElem_cons_succ,List.setIfInBounds_toArray,List.set_cons_zero,List.set_cons_succ]
    refine wpAnyH_take (i:=1) (v:=.pointer (some ⟨g,off,none⟩)) rfl (by kernel_rfl) (by kernel_rfl) (by kernel_rfl) (fun _ _ _ h=>h) (Or.inl ⟨by rfl,fun w hS=>by go_simp⟩) hS ?_
    try simp only [Act.put,List.getElem_toArray,List.getElem_cons_zero,List.getElem_cons_succ,List.setIfInBounds_toArray,List.set_cons_zero,List.set_cons_succ]
    refine wpAnyH_take (i:=2) (v:=.pointer (some ⟨g,off+4,none⟩)) rfl (by kernel_rfl) (by kernel_rfl) (by kernel_rfl) (fun _ _ _ h=>h) (Or.inl ⟨by rfl,fun w hS=>by go_simp⟩) hS ?_
    try simp only [Act.put,List.getElem_toArray,List.getElem_cons_zero,List.getElem_cons_succ,List.setIfInBounds_toArray,List.set_cons_zero,List.set_cons_succ]
    refine wpAnyH_take (i:=3) (v:=.slice (some ⟨g2,o2,none⟩) L kc) rfl (by kernel_rfl) (by kernel_rfl) (by kernel_rfl) (fun _ _ _ h=>h) (Or.inl ⟨by rfl,fun w hS=>by have y4:=(H6.out w (HC.out w hS)).c4;rw [← HL.out.1] at y4;go_simp⟩) hS ?_
    try simp only [Act.put,List.getElem_toArray,List.getElem_cons_zero,List.getElem_cons_succ,List.setIfInBounds_toArray,List.set_cons_zero,List.set_cons_succ]
    refine wpAnyH_take (i:=4) (v:=.int .i64 (k:Int)) rfl (by kernel_rfl) (by kernel_rfl) (by kernel_rfl) (fun _ _ _ h=>h) (Or.inl ⟨by rfl,fun w hS=>by go_simp⟩) hS ?_
    try simp only [Act.put,List.getElem_toArray,List.getElem_cons_zero,List.getElem_cons_succ,List.setIfInBounds_toArray,List.set_cons_zero,List.set_cons_succ]
    refine wpAnyH_take (i:=5) (v:=.pointer (some ⟨g2,o2+k*6,none⟩)) rfl (by kernel_rfl) (by kernel_rfl) (by kernel_rfl) (fun _ _ _ h=>h) (Or.inl ⟨by rfl,fun w hS=>by go_simp⟩) hS ?_
    try simp only [Act.put,List.getElem_toArray,List.getElem_cons_zero,List.getElem_cons_succ,List.setIfInBounds_toArray,List.set_cons_zero,List.set_cons_succ]
    refine wpAnyH_take (i:=6) (v:=.pointer (some ⟨X,0,none⟩)) rfl (by kernel_rfl) (by kernel_rfl) (by kernel_rfl) (fun _ _ _ h=>h) (Or.inl ⟨by rfl,fun w hS=>by go_simp⟩) hS ?_
    try simp only [Act.put,List.getElem_toArray,List.getElem_cons_zero,List.getElem_cons_succ,List.setIfInBounds_toArray,List.set_cons_zero,List.set_cons_succ]
    refine wpAnyH_take (i:=7) (v:=.int .i64 (bv:Int)) rfl (by kernel_rfl) (by kernel_rfl) (by kernel_rfl) (fun _ _ _ h=>h) (Or.inl ⟨by rfl,fun w hS=>by obtain⟨xb0,xb1⟩:=(HBr.out w hS).cs;go_simp⟩) hS ?_
    try simp only [Act.put,List.getElem_toArray,List.getElem_cons_zero,List.getElem_cons_succ,List.setIfInBounds_toArray,List.set_cons_zero,List.set_cons_succ]
    refine wpAnyH_take (i:=8) (v:=.int .i64 (kv:Int)) rfl (by kernel_rfl) (by kernel_rfl) (by kernel_rfl) (fun _ _ _ h=>h) (Or.inl ⟨by rfl,fun w hS=>by go_simp⟩) hS ?_
    try simp only [Act.put,List.getElem_toArray,List.getElem_cons_zero,List.getElem_cons_succ,List.setIfInBounds_toArray,List.set_cons_zero,List.set_cons_succ]
    refine wpAnyH_take (i:=9) (v:=.int .i64 (v2:Int)) rfl (by kernel_rfl) (by kernel_rfl) (by kernel_rfl) (fun _ _ _ h=>h) (Or.inl ⟨by rfl,fun w hS=>by have wi:=HWi.out.1;go_simp⟩) hS ?_
    try simp only [Act.put,List.getElem_toArray,List.getElem_cons_zero,List.getElem_cons_succ,List.setIfInBounds_toArray,List.set_cons_zero,List.set_cons_succ]
    refine wpAnyH_take (i:=10) (v:=.pointer (some ⟨X,1,none⟩)) rfl (by kernel_rfl) (by kernel_rfl) (by kernel_rfl) (fun _ _ _ h=>h) (Or.inl ⟨by rfl,fun w hS=>by go_simp⟩) hS ?_
    try simp only [Act.put,List.getElem_toArray,List.getElem_cons_zero,List.getElem_cons_succ,List.setIfInBounds_toArray,List.set_cons_zero,List.set_cons_succ]
    refine wpAnyH_take (i:=11) (v:=.int .i64 (bd:Int)) rfl (by kernel_rfl) (by kernel_rfl) (by kernel_rfl) (fun _ _ _ h=>h) (Or.inl ⟨by rfl,fun w hS=>by obtain⟨xb0,xb1⟩:=(HBr.out w hS).cs;go_simp⟩) hS ?_
    try simp only [Act.put,List.getElem_toArray,List.getElem_cons_zero,List.getElem_cons_succ,List.setIfInBounds_toArray,List.set_cons_zero,List.set_cons_succ]
    refine wpAnyH_take (i:=12) (v:=.int .i64 (ke:Int)) rfl (by kernel_rfl) (by kernel_rfl) (by kernel_rfl) (fun _ _ _ h=>h) (Or.inl ⟨by rfl,fun w hS=>by go_simp⟩) hS ?_
    try simp only [Act.put,List.getElem_toArray,List.getElem_cons_zero,List.getElem_cons_succ,List.setIfInBounds_toArray,List.set_cons_zero,List.set_cons_succ]
    refine wpAnyH_take (i:=13) (v:=.int .i64 (d2:Int)) rfl (by kernel_rfl) (by kernel_rfl) (by kernel_rfl) (fun _ _ _ h=>h) (Or.inl ⟨by rfl,fun w hS=>by have wi:=HWi.out.2;go_simp⟩) hS ?_
    try simp only [Act.put,List.getElem_toArray,List.getElem_cons_zero,List.getElem_cons_succ,List.setIfInBounds_toArray,List.set_cons_zero,List.set_cons_succ]
    refine wpAnyH_take (i:=14) (v:=.agg #[.int .i64 (v2:Int),.int .i64 (d2:Int)]) rfl (by kernel_rfl) (by kernel_rfl) (by kernel_rfl) (fun _ _ _ h=>h) (Or.inl ⟨by rfl,fun w hS=>by go_simp⟩) hS ?_
    try simp only [Act.put,List.getElem_toArray,List.getElem_cons_zero,List.getElem_cons_succ,List.setIfInBounds_toArray,List.set_cons_zero,List.set_cons_succ]
    refine wpAnyH_take (i:=15) (v:=.func (.func 127) #[] #[.pointer (some ⟨nb,0,none⟩),.pointer (some ⟨tb,0,none⟩)]) rfl (by kernel_rfl) (by kernel_rfl) (by kernel_rfl) (fun _ _ _ h=>h) (Or.inl ⟨by rfl,fun w hS=>by go_simp⟩) hS ?_
    try simp only [Act.put,List.getElem_toArray,List.getElem_cons_zero,List.getElem_cons_succ,List.setIfInBounds_toArray,List.set_cons_zero,List.set_cons_succ]
    refine wpAnyH_ready (rs:=[16]) (by kernel_rfl) (by simp) ?_
    refine ready_cons rfl (fun KK hKK=>?_) AllReadyH.nil
    refine⟨?_⟩
    have cc:=IH x v2 d2 g2 (o2+k*6) nb tb ra1 rc1 ka1 kc1 sa1 sc1 n (c+((lK.take k).sum:Nat)) wr.drew ⟨hEr.ne,hEr.i64,hEr.cn,hEr.nlt,hEr.bt⟩ (h62.kn hS hg2) (ht2.keep hS.size (fun z hz=>⟨hz.1,by have:=hz.2;have:=hS.size;omega⟩) (fun z hz hs=>hS.block z hz.1 hs)) hg2 hfx (by omega) (by have:=Hv2.out;omega) (by have:=Hv2.out;omega) (by omega) hcb2
    go_simp
    refine cc.mono ?_
    rintro e w3 ⟨rfl,hE3,hk3⟩
    have hS3:Kn (fun q=>q≠tb) wr w3:=((Kn.refl _ _).drew).trans hk3
    refine hKK.out _ _ hS3 (fun hS4=>?_)
    clear hKK KK cc
    try simp only [Act.put,List.getElem_toArray,List.getElem_cons_zero,List.getElem_cons_succ,List.setIfInBounds_toArray,List.set_cons_zero,List.set_cons_succ]
    refine wpAnyH_done (by kernel_rfl) ?_ _
    go_wp2_with fail
    refine⟨⟨k+1,by omega,by go_num,?_,HBr.out _ hS3,HC.out _ hS3⟩,by simp [intOf];omega⟩
    have e:c+((lK.take (k+1)).sum:Nat)=c+((lK.take k).sum:Nat) + (cnP n x v2:Nat):=by rw [hst.out];omega
    rw [e]
    exact hE3
   ·obtain rfl:k=L:=by omega
    have htk:(lK.take k).sum=lK.sum:=by rw [List.take_of_length_le (by rw [HlK.out,cnK_len,← HL.out.1];exact Nat.le_refl _)]
    rw [htk] at hEr
    have hkI:¬ (k:Int) < (k:Int):=by omega
    have HM15:Hid (moreK kd=if kd=15 then 1 else 0):=rfl
    have HEr:Hid (CEnv wr nb tb n (c+(lK.sum:Nat))):=hEr
    have y0:=y6.c0
    rw [← Hkd.out] at y0
    clear htk hEr
    go_upto_if 60 with fail
    clear y0 hkI
    have HB4:Hid (BdP wr X bv bd):=hBr
    obtain⟨q0,q1⟩:=hBr.cs
    have qf:wr.frozen? ⟨X,1,none⟩=false:=by unfold BdP at hBr;unfold World.frozen?; simp [hBr]
    go_cut [] (fun wx=>BdP wx X bv (bd+moreK kd)∧Kn (fun q=>q≠X) wr wx)
    case first =>
     by_cases h15:kd=15
     ·subst h15
      have hm:moreK 15=1:=rfl
      have wrp:wrap64 ((bd:Int) + 1)=(bd:Int) + 1:=by simp [wrap64];omega
      have HBn:Hid (BdP (wr.setCell ⟨X,1,none⟩ (.int .i64 ((bd:Int) + 1))) X bv (bd+moreK 15)):=by
       rw [hm]
       have:=set_blk (i:=1) hBr (.int .i64 ((bd:Int) + 1))
       exact this
      clear hBr
      go_wp2_with fail
      go_meet
      exact⟨HBn.out,kn_set _ _ _ _⟩
     ·have h15b:(kd == 15)=false:=by simpa using h15
      have hm:moreK kd=0:=by rw [HM15.out,if_neg h15]
      clear hBr
      go_wp2_with fail
      go_meet
      exact⟨by rw [hm];exact HB4.out,Kn.refl _ _⟩
    case rest =>
     obtain⟨hBn,k5⟩:=hcut
     obtain⟨w5,hw5⟩:∃ W,W=wc:=⟨_,rfl⟩
     subst hw5
     have hK5:Kn (fun q=>q≠tb∧q≠X) w1 w5:=hKr.trans (k5.sub fun q h=>h.2)
     have hE5:=HEr.out.kn k5 (by omega) (by omega)
     have x5:=(H6.out w5 hK5).c5
     rw [← HL.out.2] at x5
     have hmo:=moreK_le kd
     obtain⟨mo,hmo2⟩:∃ z,z=bd+moreK kd:=⟨_,rfl⟩
     rw [← hmo2] at hBn
     have Hmo:Hid (mo=bd+moreK kd):=hmo2
     have hmob:mo≤bd+1:=by omega
     clear q0 q1 qf HB4 hBr k5 HEr hwrs hmo2 hmo
     go_wp2_with fail
     go_loopw [70] (fun i wr=>∃ j:Nat,j≤M∧i=.int .i64 j∧CEnv wr nb tb n (c+(lK.sum:Nat) + ((lS.take j).sum:Nat))∧BdP wr X bv mo∧Kn (fun q=>q≠tb∧q≠X) w1 wr) (fun i _=>M - (intOf i).toNat)
     case atStart=>exact⟨0,Nat.zero_le _,rfl,by simpa using hE5,hBn,hK5⟩
     case round =>
      clear x5 hE5 hBn hK5
      obtain⟨wo,hwo⟩:∃ wo,wo=wr:=⟨_,rfl⟩
      subst hwo
      obtain⟨j,hj,rfl,hEo,hBo,hKo⟩:=hrel
      by_cases hlt:j<M
      ·have hjI:(j:Int) < (M:Int):=by omega
       obtain⟨x,hx⟩:=someL (l:=t.sys) (k:=j) (by rw [← HL.out.2];exact hlt)
       obtain⟨g2,o2,fa1,fc1,ka1,kc1,rfl,⟨hg2,hg2X⟩,h22,hcl,hkds⟩:=(HT.out wo hKo).sys.at hx
       have hcx:lS[j]? = some (cnL n x.2 bv).sum:=by rw [HlS.out,List.getElem?_map,hx];rfl
       have hup:Hid (_≤_):=sum_upto hcx
       have hst:Hid (_=_):=sum_step hcx
       obtain⟨F,hF⟩:∃ F,F=x.1.length:=⟨_,rfl⟩
       obtain⟨Q,hQ⟩:∃ Q,Q=x.2.length:=⟨_,rfl⟩
       have HFQ:Hid (F=x.1.length∧Q=x.2.length):=⟨hF,hQ⟩
       have z0:=h22.c0
       have z1:=h22.c1
       rw [← hF] at z0
       rw [← hQ] at z1
       obtain⟨w6,hw6⟩:∃ W,W=wo.alloc (.cells #[.slice fa1 F fc1,.slice ka1 Q kc1] 40):=⟨_,rfl⟩
       obtain⟨Y,hY⟩:∃ Y,Y=wo.heap.size:=⟨_,rfl⟩
       have b6:Below wo.heap.size wo w6:=by rw [hw6];exact belowA _ _
       have m6:w6.heap[Y]? = some (.cells #[.slice fa1 F fc1,.slice ka1 Q kc1] 40 (0,0)):=by rw [hw6,hY];exact heapNew _ _
       have s6:Y<w6.heap.size:=(Array.getElem?_eq_some_iff.1 m6).1
       have hwos:=hKo.size
       have hXY:X<Y:=by omega
       have hE6:=hEo.blw b6
       have hB6:BdP w6 X bv mo:=hBo.kn (No:=fun _=>True) (Kn.of_below b6) trivial
       have HK6:Hid (Kn (fun q=>q≠tb∧q≠X) w1 w6):=hKo.trans (Kn.of_below b6)
       have HQd:Hid (KdT (fun q=>q≠tb∧q<X) w6 (TmIn (fun q=>q≠tb∧q<X) w6) x.2 (.slice ka1 x.2.length kc1)):=hkds.blw b6
       have HM6:Hid (∀ V,Kn (fun q=>q≠tb) w6 V→V.cell? ⟨Y,1,none⟩=some (.slice ka1 Q kc1)):=fun V q=>(q.cell (p:=⟨Y,1,none⟩) (by show Y≠tb;omega) s6).trans (by simp [World.cell?,m6])
       have z61:=HM6.out w6 (Kn.refl _ _)
       have HB6:Hid (∀ V,Kn (fun q=>q≠tb) w6 V→BdP V X bv mo):=fun V q=>hB6.kn q (by omega)
       have hbrr:=blk_br (List.mem_of_getElem? hx)
       have HFx:Hid (∀ y∈x.2,Fp y):=HFs.out x (List.mem_of_getElem? hx)
       have hll2:=blkL_len x.2
       have hQb:Q≤200000:=by omega
       have H6w:Hid (_=_):=hw6
       have HY:Hid (Y=wo.heap.size):=hY
       obtain⟨lQ,hlQ⟩:∃ l,l=cnL n x.2 bv:=⟨_,rfl⟩
       rw [← hlQ] at hcx hup hst
       have HlQ:Hid (lQ=cnL n x.2 bv):=hlQ
       clear hF hQ hw6 hY hEo hBo hKo hkds hcl b6 m6 hB6 hwos hll2 hlQ h22
       go_upto_region 14 with fail
       rw [← H6w.out]
       simp only [← HY.out]
       clear H6w HY z0 z1
       go_wp2_with fail
       go_loopw [77] (fun i wr=>∃ q:Nat,q≤Q∧i=.int .i64 q∧CEnv wr nb tb n (c+(lK.sum:Nat) + ((lS.take j).sum:Nat) + ((lQ.take q).sum:Nat))∧Kn (fun q=>q≠tb) w6 wr) (fun i _=>Q - (intOf i).toNat)
       case atStart=>exact⟨0,Nat.zero_le _,rfl,by simpa using hE6,Kn.refl _ _⟩
       case round =>
        clear hE6 z61
        obtain⟨wq,hwq⟩:∃ wq,wq=wr:=⟨_,rfl⟩
        subst hwq
        obtain⟨q,hq,rfl,hEq,hKq⟩:=hrel
        by_cases hltq:q<Q
        ·have hqI:(q:Int) < (Q:Int):=by omega
         obtain⟨y,hy⟩:=someL (l:=x.2) (k:=q) (by rw [← HFQ.out.2];exact hltq)
         obtain⟨g3,o3,ra1,rc1,ka3,kc3,sa1,sc1,rfl,⟨hg3,hg3X⟩,h63,ht3⟩:=(HQd.out.kn (No:=fun q=>q≠tb) hKq (fun z hz=>hz.1)).at hy
         have hby:=sumN_mem (List.mem_map_of_mem (f:=blk) (List.mem_of_getElem? hy))
         have hfy:=HFx.out y (List.mem_of_getElem? hy)
         have hcy:lQ[q]? = some (cnP n y bv):=by rw [HlQ.out];unfold cnL;rw [List.getElem?_map,hy];rfl
         have hup2:Hid (_≤_):=sum_upto hcy
         have hst2:Hid (_=_):=sum_step hcy
         have hcb2:c+(lK.sum:Nat) + ((lS.take j).sum:Nat) + ((lQ.take q).sum:Nat) + (cnP n y bv:Nat)≤1000000000:=by have:=HcS.out;have:=hup.out;have:=hup2.out;omega
         have hwqs:=hKq.size
         have HEq:Hid (CEnv wq nb tb n (c+(lK.sum:Nat) + ((lS.take j).sum:Nat) + ((lQ.take q).sum:Nat))):=hEq
         have hbkl:blk y≤blkL x.2:=hby
         go_upto_region 17 with fail
         refine wp_region_held_drew (S:=fun V=>Kn (fun q=>q≠tb) wq V) (by kernel_rfl) ((Kn.refl _ _).drew) (fun hS=>?_)
         refine wpAnyH_take (i:=0) (v:=.pointer (some ⟨Y,1,none⟩)) rfl (by kernel_rfl) (by kernel_rfl) (by kernel_rfl) (fun _ _ _ h=>h) (Or.inl ⟨by rfl,fun w hS=>by go_simp⟩) hS ?_
         try simp only [Act.put,List.getElem_toArray,List.getElem_cons_zero,List.getElem_cons_succ,List.setIfInBounds_toArray,List.set_cons_zero,List.set_cons_succ]
         refine wpAnyH_take (i:=1) (v:=.slice (some ⟨g3,o3,none⟩) Q kc1) rfl (by kernel_rfl) (by kernel_rfl) (by kernel_rfl) (fun _ _ _ h=>h) (Or.inl ⟨by rfl,fun w hS=>by have z:=HM6.out w (hKq.trans hS);go_simp⟩) hS ?_
         try simp only [Act.put,List.getElem_toArray,List.getElem_cons_zero,List.getElem_cons_succ,List.setIfInBounds_toArray,List.set_cons_zero,List.set_cons_succ]
         refine wpAnyH_take (i:=2) (v:=.int .i64 (q:Int)) rfl (by kernel_rfl) (by kernel_rfl) (by kernel_rfl) (fun _ _ _ h=>h) (Or.inl ⟨by rfl,fun w hS=>by go_simp⟩) hS ?_
         try simp only [Act.put,List.getElem_toArray,List.getElem_cons_zero,List.getElem_cons_succ,List.setIfInBounds_toArray,List.set_cons_zero,List.set_cons_succ]
         refine wpAnyH_take (i:=3) (v:=.pointer (some ⟨g3,o3+q*6,none⟩)) rfl (by kernel_rfl) (by kernel_rfl) (by kernel_rfl) (fun _ _ _ h=>h) (Or.inl ⟨by rfl,fun w hS=>by go_simp⟩) hS ?_
         try simp only [Act.put,List.getElem_toArray,List.getElem_cons_zero,List.getElem_cons_succ,List.setIfInBounds_toArray,List.set_cons_zero,List.set_cons_succ]
         refine wpAnyH_take (i:=4) (v:=.agg #[.int .i64 (bv:Int),.int .i64 (mo:Int)]) rfl (by kernel_rfl) (by kernel_rfl) (by kernel_rfl) (fun _ _ _ h=>h) (Or.inl ⟨by rfl,fun w hS=>by obtain⟨xb0,xb1⟩:=(HB6.out w (hKq.trans hS)).cs;go_simp⟩) hS ?_
         try simp only [Act.put,List.getElem_toArray,List.getElem_cons_zero,List.getElem_cons_succ,List.setIfInBounds_toArray,List.set_cons_zero,List.set_cons_succ]
         refine wpAnyH_take (i:=5) (v:=.func (.func 127) #[] #[.pointer (some ⟨nb,0,none⟩),.pointer (some ⟨tb,0,none⟩)]) rfl (by kernel_rfl) (by kernel_rfl) (by kernel_rfl) (fun _ _ _ h=>h) (Or.inl ⟨by rfl,fun w hS=>by go_simp⟩) hS ?_
         try simp only [Act.put,List.getElem_toArray,List.getElem_cons_zero,List.getElem_cons_succ,List.setIfInBounds_toArray,List.set_cons_zero,List.set_cons_succ]
         refine wpAnyH_ready (rs:=[6]) (by kernel_rfl) (by simp) ?_
         refine ready_cons rfl (fun KK hKK=>?_) AllReadyH.nil
         refine⟨?_⟩
         have cc:=IH y bv mo g3 (o3+q*6) nb tb ra1 rc1 ka3 kc3 sa1 sc1 n (c+(lK.sum:Nat) + ((lS.take j).sum:Nat) + ((lQ.take q).sum:Nat)) wq.drew ⟨hEq.ne,hEq.i64,hEq.cn,hEq.nlt,hEq.bt⟩ (h63.kn hS hg3) (ht3.keep hS.size (fun z hz=>⟨hz.1,by have:=hz.2;have:=hS.size;omega⟩) (fun z hz hs=>hS.block z hz.1 hs)) hg3 hfy (by omega) (by omega) (by have:=Hmo.out;omega) (by omega) hcb2
         go_simp
         refine cc.mono ?_
         rintro e w7 ⟨rfl,hE7,hk7⟩
         have hS7:Kn (fun q=>q≠tb) wq w7:=((Kn.refl _ _).drew).trans hk7
         refine hKK.out _ _ hS7 (fun hS8=>?_)
         clear hKK KK cc
         try simp only [Act.put,List.getElem_toArray,List.getElem_cons_zero,List.getElem_cons_succ,List.setIfInBounds_toArray,List.set_cons_zero,List.set_cons_succ]
         refine wpAnyH_done (by kernel_rfl) ?_ _
         go_wp2_with fail
         refine⟨⟨q+1,by omega,by go_num,?_,hKq.trans hS7⟩,by simp [intOf];omega⟩
         have e:c+(lK.sum:Nat) + ((lS.take j).sum:Nat) + ((lQ.take (q+1)).sum:Nat)=c+(lK.sum:Nat) + ((lS.take j).sum:Nat) + ((lQ.take q).sum:Nat) + (cnP n y bv:Nat):=by rw [hst2.out];omega
         rw [e]
         exact hE7
        ·obtain rfl:q=Q:=by omega
         have hqI:¬ (q:Int) < (q:Int):=by omega
         have htq:(lQ.take q).sum=lQ.sum:=by rw [List.take_of_length_le (by rw [HlQ.out];unfold cnL;rw [List.length_map,← HFQ.out.2];exact Nat.le_refl _)]
         rw [htq] at hEq
         have HEq:Hid (CEnv wq nb tb n (c+(lK.sum:Nat) + ((lS.take j).sum:Nat) + (lQ.sum:Nat))):=hEq
         clear hEq htq
         go_wp2_with fail
         refine⟨⟨j+1,by omega,by go_num,?_,HB6.out _ hKq,HK6.out.trans (hKq.sub fun z h=>h.1)⟩,by simp [intOf];omega⟩
         have e:c+(lK.sum:Nat) + ((lS.take (j+1)).sum:Nat)=c+(lK.sum:Nat) + ((lS.take j).sum:Nat) + (lQ.sum:Nat):=by rw [hst.out];omega
         rw [e]
         exact HEq.out
      ·obtain rfl:j=M:=by omega
       have hjI:¬ (j:Int) < (j:Int):=by omega
       have htj:(lS.take j).sum=lS.sum:=by rw [List.take_of_length_le (by rw [HlS.out,List.length_map,← HL.out.2];exact Nat.le_refl _)]
       rw [htj,← HcS.out] at hEo
       have HF:Hid (CEnv wo nb tb n cz∧Kn (fun q=>q≠tb) w wo):=⟨hEo,HKn.out _ hKo⟩
       clear hEo hBo hKo htj
       go_wp2_with fail
       go_end0
       exact⟨rfl,HF.out⟩
end Go.Proofs.YtblbhmnahoiecaaGreat
