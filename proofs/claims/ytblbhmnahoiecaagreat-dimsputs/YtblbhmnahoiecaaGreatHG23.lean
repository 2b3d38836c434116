/- A part of the proof. -/
import Derived.Test.YtblbhmnahoiecaaGreatHYRCopy
set_option linter.unusedVariables false
set_option linter.unusedSimpArgs false
set_option maxRecDepth 100000
set_option maxHeartbeats 4000000
namespace Go.Proofs.YtblbhmnahoiecaaGreat
open Go.RowKit
theorem zr {P:Program} {md:Region.Mode} {ops:Array Oper} {Q:Exit->Act->World->Prop} {S:World->Prop} {fuel:Nat} {listed:Array Bool} {a:Act} {w:World} (i:Nat) {o:Oper} (ho:ops[i]? = some o)
  (h:∀ K':Act->World->Prop,Shut (∀ a w,S w->(S w->wpAnyH P md ops Q S fuel (listed.setIfInBounds i true) a w)->K' a w)->StepP P ops Q o a w K') (hr:Region.ready md ops listed=[i]:=by kernel_rfl):wpAnyH P md ops Q S (fuel+1) listed a w :=
 wpAnyH_ready hr (by simp) (ready_cons ho h AllReadyH.nil)
theorem zst {w:World} {s:Nat} {v0 v1 v2 v3 v4 v5:Value} (h:Six w s v0 v1 v2 v3 v4 v5) (u0 u1 u2 u3 u4 u5:Value):∃ W,W=(((((w.setCell ⟨s,0,none⟩ u0).setCell ⟨s,1,none⟩ u1).setCell ⟨s,2,none⟩ u2).setCell ⟨s,3,none⟩ u3).setCell ⟨s,4,none⟩ u4).setCell ⟨s,5,none⟩ u5/\Six W s u0 u1 u2 u3 u4 u5/\Kn (fun q=>q≠s) w W /\
  w.cell? ⟨s,0,none⟩=some v0/\w.cell? ⟨s,1,none⟩=some v1/\w.cell? ⟨s,2,none⟩=some v2/\w.cell? ⟨s,3,none⟩=some v3/\w.cell? ⟨s,4,none⟩=some v4/\w.cell? ⟨s,5,none⟩=some v5 /\
  w.frozen? ⟨s,0,none⟩=false/\w.frozen? ⟨s,1,none⟩=false/\w.frozen? ⟨s,2,none⟩=false/\w.frozen? ⟨s,3,none⟩=false/\w.frozen? ⟨s,4,none⟩=false/\w.frozen? ⟨s,5,none⟩=false:=by
 obtain⟨o0,o1,o2,o3,o4,o5,ff⟩:=h.cells
 exact⟨_,rfl,h.set6 u0 u1 u2 u3 u4 u5,kn_set6 _ _ _ _ _ _ _ _,o0,o1,o2,o3,o4,o5,ff 0,ff 1,ff 2,ff 3,ff 4,ff 5⟩
def RowC (F:List C->Nat->List C × Int) (fV:Value) (w:World):Prop:=∃ fid caps,fV=.func (.func fid) #[] caps/\(∀ args w,(callFunc fid args).run Tryz.prog w=.ok (.enter fid args) w)/\∀ (l:List C) (bd:Nat) (v:Value) (W:World),Below w.heap.size w W->ClRow Tt W l v->l.length<=40000->bd<=60000->Calls Tryz.prog fid (#[v,.int .i64 (bd:Int)] ++ caps) W fun e w'=>LOut (F l bd).2 (fun v'=>OwnsC w' W.heap.size v' (F l bd).1) e/\Below W.heap.size W w'
theorem RowC.blw {F:List C->Nat->List C × Int} {fV:Value} {w w':World} (h:RowC F fV w) (hb:Below w.heap.size w w'):RowC F fV w':=by
 obtain⟨fid,caps,h1,h2,h3⟩:=h
 exact⟨fid,caps,h1,h2,fun l bd v W hW=>h3 l bd v W (bchain hb hW)⟩
structure DEnv (w:World) (fV cV:Value) (xw xo:Nat):Prop where
 sc:w.heap[xw]? = some (.cells #[fV,cV] 68 (0,0))
 lf:w.heap[xo]? = some (.cells #[.func (.func 110) #[] #[.pointer (some ⟨xw,0,none⟩),.pointer (some ⟨xo,0,none⟩)]] 118 (0,0))
theorem DEnv.blw {w w':World} {fV cV:Value} {xw xo:Nat} (h:DEnv w fV cV xw xo) (hb:Below w.heap.size w w'):DEnv w' fV cV xw xo :=
 ⟨(hb.block xw (Array.getElem?_eq_some_iff.1 h.sc).1).trans h.sc,(hb.block xo (Array.getElem?_eq_some_iff.1 h.lf).1).trans h.lf⟩
theorem DEnv.fn {w:World} {fV cV:Value} {xw xo:Nat} (h:DEnv w fV cV xw xo):w.cell? ⟨xo,0,none⟩=some (.func (.func 110) #[] #[.pointer (some ⟨xw,0,none⟩),.pointer (some ⟨xo,0,none⟩)]):=by simp [World.cell?,h.lf]
theorem DEnv.cs {w:World} {fV cV:Value} {xw xo:Nat} (h:DEnv w fV cV xw xo):w.cell? ⟨xw,0,none⟩=some fV/\w.cell? ⟨xw,1,none⟩=some cV:=by
 refine⟨?_,?_⟩ <;> simp [World.cell?,h.sc]
theorem told_any (v:Value) (e:Int) (w:World) (R:Value->Prop) (hR:e=0->R v):Calls Tryz.prog 106 #[v,.int .i64 e] w fun x w'=>LOut e R x/\w'=w:=by
 by_cases h:e=0
 ·subst h
  have hR0:=hR rfl
  clear hR
  go_enter Tryz.func106,Tryz.ntmps106
  go_wp2
  go_ret
  exact⟨.ok rfl hR0,rfl⟩
 ·have h1:(e == 0)=false:=by simpa using h
  clear hR
  go_enter Tryz.func106,Tryz.ntmps106
  go_wp2_with fail
  exact⟨rfl,.inr ⟨h,rfl⟩,rfl⟩
theorem down_any {o:DOp} {fV cV:Value} (t:Tm) (bd g off:Nat) (ra:Option Addr) (rc:Nat) (w:World) (hF:RowC o.fn fV w) (hC:RowC o.fc cV w) (hl:g<w.heap.size) (h0:w.cell? ⟨g,off,none⟩=some (.int .i64 t.kind)) (h3:w.cell? ⟨g,off+3,none⟩=some (.slice ra t.r.length rc)) (hr:ClRow Tt w t.r (.slice ra t.r.length rc)) (hrl:t.r.length<=40000) (hbd:bd<=60000) :
  Calls Tryz.prog 111 #[.agg #[fV,cV],.pointer (some ⟨g,off,none⟩),.int .i64 (bd:Int)] w fun e w'=>LOut (ownP o t.kind t.r bd).2 (fun v'=>OwnsC w' w.heap.size v' (ownP o t.kind t.r bd).1) e/\Below w.heap.size w w':=by
 obtain⟨f1,c1,rfl,eg1,HF⟩:=hF
 obtain⟨f2,c2,rfl,eg2,HC⟩:=hC
 obtain⟨w1,hw1⟩:∃ W,W=w.alloc (.cells #[.func (.func f1) #[] c1,.func (.func f2) #[] c2] 68):=⟨_,rfl⟩
 have b1:Below w.heap.size w w1:=by rw [hw1];exact belowA _ _
 obtain⟨X,hX⟩:∃ X,X=w.heap.size:=⟨_,rfl⟩
 have m1:w1.heap[X]? = some (.cells #[.func (.func f1) #[] c1,.func (.func f2) #[] c2] 68 (0,0)):=by rw [hw1,hX];exact heapNew _ _
 have sX:w1.heap.size=X+1:=by rw [hw1,hX];simp
 have bX:Below X w w1:=by rw [hX];exact b1
 have K0:Hid (∀ W,Below w1.heap.size w1 W->W.cell? ⟨X,0,none⟩=some (.func (.func f1) #[] c1)):=fun W q=>(q.cell (p:=⟨X,0,none⟩) (by show X<_;omega)).trans (by simp [World.cell?,m1])
 have K1:Hid (∀ W,Below w1.heap.size w1 W->W.cell? ⟨X,1,none⟩=some (.func (.func f2) #[] c2)):=fun W q=>(q.cell (p:=⟨X,1,none⟩) (by show X<_;omega)).trans (by simp [World.cell?,m1])
 have G3:Hid (∀ W,Below w1.heap.size w1 W->W.cell? ⟨g,off+3,none⟩=some (.slice ra t.r.length rc)):=fun W q=>(q.cell (p:=⟨g,off+3,none⟩) (by show g<_;have:=b1.size;omega)).trans ((b1.cell (p:=⟨g,off+3,none⟩) hl).trans h3)
 have g0:=(b1.cell (p:=⟨g,off,none⟩) hl).trans h0
 have HCl:Hid (∀ W,Below w1.heap.size w1 W->ClRow Tt W t.r (.slice ra t.r.length rc)):=fun W q=>(hr.blw b1).blw q
 have CF:Hid (∀ W,Below w1.heap.size w1 W->Calls Tryz.prog f1 (#[.slice ra t.r.length rc,.int .i64 (bd:Int)] ++ c1) W fun e w'=>LOut (o.fn t.r bd).2 (fun v'=>OwnsC w' W.heap.size v' (o.fn t.r bd).1) e/\Below W.heap.size W w'):=fun W q=>HF t.r bd _ W (bchain b1 q) (HCl.out W q) hrl hbd
 have CC:Hid (∀ W,Below w1.heap.size w1 W->Calls Tryz.prog f2 (#[.slice ra t.r.length rc,.int .i64 (bd:Int)] ++ c2) W fun e w'=>LOut (o.fc t.r bd).2 (fun v'=>OwnsC w' W.heap.size v' (o.fc t.r bd).1) e/\Below W.heap.size W w'):=fun W q=>HC t.r bd _ W (bchain b1 q) (HCl.out W q) hrl hbd
 obtain⟨kd,hkd⟩:∃ k,k=t.kind:=⟨_,rfl⟩
 rw [<- hkd] at g0 ⊢
 obtain⟨R,hR⟩:∃ R,R=t.r.length:=⟨_,rfl⟩
 rw [<- hR] at G3 CF CC
 have HW:Hid (_=_):=hw1
 have HX:Hid (X=w.heap.size):=hX
 have HO:Hid (∀ W w' v l,Below w1.heap.size w1 W->OwnsC w' W.heap.size v l->OwnsC w' X v l):=fun W w' v l q h=>OwnsC.mono h (by have:=q.size;omega)
 obtain⟨PR,hPR⟩:∃ P,P=ownP o kd t.r bd:=⟨_,rfl⟩
 have HQ:Hid (PR=if kd=14 then o.fc t.r bd else o.fn t.r bd):=hPR
 rw [<- hX,<- hPR]
 clear hPR
 clear HF HC hw1 m1 h0 h3 hr hkd hR hX b1
 go_enter Tryz.func111,Tryz.ntmps111
 go_upto_region 1 with fail
 rw [<- HW.out]
 simp only [<- HX.out]
 clear HW
 have hS1:Below w1.heap.size w1 w1:=Below.refl _ _
 by_cases hk:kd=14
 ·skip
  subst hk
  have hq:PR=o.fc t.r bd:=by rw [HQ.out];exact if_pos rfl
  rw [<- hq] at CC
  clear hq
  go_upto_region 2 with fail
  refine wp_region_held_drew (S:=fun W=>Below w1.heap.size w1 W) (by kernel_rfl) (hS1.drew) (fun hS=>?_)
  obtain⟨wd,hwd⟩:∃ W,W=w1.drew:=⟨_,rfl⟩
  rw [<- hwd] at hS ⊢
  clear hwd
  refine zk 0 (.pointer (some ⟨X,1,none⟩)) rfl (by rfl) (fun w hS=>by go_simp) hS ?_
  try simp only [Act.put,zg1,zg2,zg3,zs1,zs2,zs3]
  refine zk 1 (.func (.func f2) #[] c2) rfl (by rfl) (fun w hS=>by have e:=K1.out w hS;go_simp) hS ?_
  try simp only [Act.put,zg1,zg2,zg3,zs1,zs2,zs3]
  refine zk 2 (.pointer (some ⟨g,off,none⟩)) rfl (by rfl) (fun w hS=>by go_simp) hS ?_
  try simp only [Act.put,zg1,zg2,zg3,zs1,zs2,zs3]
  refine zk 3 (.pointer (some ⟨g,off,none⟩)) rfl (by rfl) (fun w hS=>by go_simp) hS ?_
  try simp only [Act.put,zg1,zg2,zg3,zs1,zs2,zs3]
  refine zk 4 (.pointer (some ⟨g,off+3,none⟩)) rfl (by rfl) (fun w hS=>by go_simp) hS ?_
  try simp only [Act.put,zg1,zg2,zg3,zs1,zs2,zs3]
  refine zk 5 (.slice ra R rc) rfl (by rfl) (fun w hS=>by have e:=G3.out w hS;go_simp) hS ?_
  try simp only [Act.put,zg1,zg2,zg3,zs1,zs2,zs3]
  refine zk 6 (.int .i64 (bd:Int)) rfl (by rfl) (fun w hS=>by go_simp) hS ?_
  try simp only [Act.put,zg1,zg2,zg3,zs1,zs2,zs3]
  refine zr 7 rfl (fun KK hKK=>?_)
  refine⟨?_⟩
  have cc:=CC.out wd hS
  go_simp
  refine cc.mono ?_
  rintro e w2 ⟨⟨h0,v2,rfl,hv2⟩ | ⟨hne,rfl⟩,hb2⟩
  rotate_left
  ·exact⟨rfl,.inr ⟨hne,rfl⟩,bX.trans ((hS.trans (hb2.mono hS.size)).mono (by omega))⟩
  have H0:Hid (PR.2=0):=h0
  clear h0
  have hS2:Below w1.heap.size w1 w2:=hS.trans (hb2.mono hS.size)
  have hO2:=HO.out wd w2 _ _ hS hv2
  have hB2:Below X w w2:=bX.trans (hS2.mono (by omega))
  obtain⟨a2,c2',rfl⟩:=OwnsC.len hO2
  clear cc
  refine hKK.out _ _ hS2 (fun hS=>?_)
  clear hKK KK
  try simp only [Act.put,zg1,zg2,zg3,zs1,zs2,zs3]
  refine zk 8 (.slice a2 PR.1.length c2') rfl (by rfl) (fun w hS=>by go_simp) hS ?_
  try simp only [Act.put,zg1,zg2,zg3,zs1,zs2,zs3]
  refine wpAnyH_done (by kernel_rfl) ?_ _
  go_wp2_with fail
  go_ret
  exact⟨.ok H0.out hO2,hB2⟩
 ·skip
  have hk1:(kd == 14)=false:=by simpa using hk
  have hq:PR=o.fn t.r bd:=by rw [HQ.out];exact if_neg hk
  rw [<- hq] at CF
  clear hq
  go_upto_region 3 with fail
  refine wp_region_held_drew (S:=fun W=>Below w1.heap.size w1 W) (by kernel_rfl) (hS1.drew) (fun hS=>?_)
  obtain⟨wd,hwd⟩:∃ W,W=w1.drew:=⟨_,rfl⟩
  rw [<- hwd] at hS ⊢
  clear hwd
  refine zk 0 (.pointer (some ⟨X,0,none⟩)) rfl (by rfl) (fun w hS=>by go_simp) hS ?_
  try simp only [Act.put,zg1,zg2,zg3,zs1,zs2,zs3]
  refine zk 1 (.func (.func f1) #[] c1) rfl (by rfl) (fun w hS=>by have e:=K0.out w hS;go_simp) hS ?_
  try simp only [Act.put,zg1,zg2,zg3,zs1,zs2,zs3]
  refine zk 2 (.pointer (some ⟨g,off,none⟩)) rfl (by rfl) (fun w hS=>by go_simp) hS ?_
  try simp only [Act.put,zg1,zg2,zg3,zs1,zs2,zs3]
  refine zk 3 (.pointer (some ⟨g,off,none⟩)) rfl (by rfl) (fun w hS=>by go_simp) hS ?_
  try simp only [Act.put,zg1,zg2,zg3,zs1,zs2,zs3]
  refine zk 4 (.pointer (some ⟨g,off+3,none⟩)) rfl (by rfl) (fun w hS=>by go_simp) hS ?_
  try simp only [Act.put,zg1,zg2,zg3,zs1,zs2,zs3]
  refine zk 5 (.slice ra R rc) rfl (by rfl) (fun w hS=>by have e:=G3.out w hS;go_simp) hS ?_
  try simp only [Act.put,zg1,zg2,zg3,zs1,zs2,zs3]
  refine zk 6 (.int .i64 (bd:Int)) rfl (by rfl) (fun w hS=>by go_simp) hS ?_
  try simp only [Act.put,zg1,zg2,zg3,zs1,zs2,zs3]
  refine zr 7 rfl (fun KK hKK=>?_)
  refine⟨?_⟩
  have cc:=CF.out wd hS
  go_simp
  refine cc.mono ?_
  rintro e w2 ⟨⟨h0,v2,rfl,hv2⟩ | ⟨hne,rfl⟩,hb2⟩
  rotate_left
  ·exact⟨rfl,.inr ⟨hne,rfl⟩,bX.trans ((hS.trans (hb2.mono hS.size)).mono (by omega))⟩
  have H0:Hid (PR.2=0):=h0
  clear h0
  have hS2:Below w1.heap.size w1 w2:=hS.trans (hb2.mono hS.size)
  have hO2:=HO.out wd w2 _ _ hS hv2
  have hB2:Below X w w2:=bX.trans (hS2.mono (by omega))
  obtain⟨a2,c2',rfl⟩:=OwnsC.len hO2
  clear cc
  refine hKK.out _ _ hS2 (fun hS=>?_)
  clear hKK KK
  try simp only [Act.put,zg1,zg2,zg3,zs1,zs2,zs3]
  refine zk 8 (.slice a2 PR.1.length c2') rfl (by rfl) (fun w hS=>by go_simp) hS ?_
  try simp only [Act.put,zg1,zg2,zg3,zs1,zs2,zs3]
  refine wpAnyH_done (by kernel_rfl) ?_ _
  go_wp2_with fail
  go_ret
  exact⟨.ok H0.out hO2,hB2⟩
end Go.Proofs.YtblbhmnahoiecaaGreat
