/- How a term that came in lies in memory. -/
import Derived.ProofKit
import Derived.OpenShut
import Derived.Lib.SmallJoins
import Derived.Deep.Slices
import Derived.Deep.Strs
import Derived.Test.YtmblbmdchinflaaGreatBG4
set_option linter.unusedVariables false
set_option linter.unusedSimpArgs false
namespace Go.Proofs.YtmblbmdchinflaaGreat
open Go.ChangeShapes Go.WideShapes Go.ChangeAt Go.RowKit
section
variable {H:Type} {enc:TypeId × Value→H}
theorem wf_I64 {n:Int} (h:(Lit.int .i64 n).wf=true):I64 n:=by
 simp [Lit.wf,IntKind.min,IntKind.max,IntKind.bits,IntKind.signed] at h
 exact⟨by omega,by omega⟩
set_option maxRecDepth 100000 in
theorem cells_term:Tryz.prog.cellsOf 26=6:=by kernel_rfl
set_option maxRecDepth 100000 in
theorem cells_branch:Tryz.prog.cellsOf 50=2:=by kernel_rfl
set_option maxRecDepth 100000 in
theorem cells_terms:Tryz.prog.cellsOf 23=1:=by kernel_rfl
set_option maxRecDepth 100000 in
theorem cells_branches:Tryz.prog.cellsOf 24=1:=by kernel_rfl
set_option maxRecDepth 100000 in
theorem cells_cls:Tryz.prog.cellsOf 22=1:=by kernel_rfl
set_option maxRecDepth 100000 in
theorem ycells_int:Tryz.prog.cellsOf 3=1:=by kernel_rfl
set_option maxRecDepth 100000 in
theorem ycells_str:Tryz.prog.cellsOf 9=1:=by kernel_rfl
theorem open_any {W:World} {fuel:Nat} {cs:List Value} {x:DataW H × List MemPlace} {ts te:TypeId} {k:Nat} (hu:Tryz.prog.underlying ts=some (.slice te)) (hk:Tryz.prog.cellsOf te=k) (hk0:0<k) {T:Type} [Inhabited T] (p:T→List Value→Prop)
  (ih:∀ m,m<fuel→∀ cs x,DataW.trod enc Tryz.prog W 0 (fun _=>true) true m te cs=some x→∃ t,p t cs) (h:DataW.trod enc Tryz.prog W 0 (fun _=>true) true fuel ts cs=some x) :
  ∃ (l:List T) (a:Option Addr) (cap:Nat),cs=[.slice a l.length cap]∧l.length≤cap∧∀ j t,l[j]? = some t→∃ g off cs',a=some ⟨g,off,none⟩∧g<W.heap.size∧p t cs'∧∀ i,i<k→W.cell? ⟨g,off+j*k+i,none⟩=cs'[i]?:=by
 rcases DataW.trod_slice hu h with ⟨rfl,_⟩|⟨a,len,cap,elems,rest,m,rfl,rfl,_,hba,hlc,hcm,hel,hcell,_,_⟩
 ·exact⟨[],none,0,rfl,Nat.le_refl _,fun j t ht=>by simp at ht⟩
 ·have each:∀ i,i<len→∃ (t:T),∃ cs',p t cs'∧cs'.length=k∧∀ j,j<k→W.cell? (a.add (i*k+j))=cs'[j]?:=fun i hi=>by
   have h1:=hcell i hi
   rw [List.getElem?_eq_getElem (by omega),hk] at h1
   obtain⟨cs',h2,h3⟩:=Option.bind_eq_some_iff.1 h1
   obtain⟨t,hp⟩:=ih m (by omega) _ _ h3
   obtain⟨h5,h6,h4⟩:=World.cells?_some h2
   refine⟨t,cs',hp,by first | exact h5 | exact h6 | omega,fun j hj=>?_⟩
   have:=h4 j hj
   rw [Go.Deep.add_add] at this
   exact this
  obtain⟨f,hf⟩:=Go.Deep.choose_lt (p:=fun i t=>∃ cs',p t cs'∧cs'.length=k∧∀ j,j<k→W.cell? (a.add (i*k+j))=cs'[j]?) each
  refine⟨(List.range len).map f,some a,cap,by simp,by simpa using hlc,fun j x hx=>?_⟩
  have hj:j<len:=by
   rcases Nat.lt_or_ge j len with h1|h1
   ·exact h1
   ·rw [List.getElem?_eq_none (by simpa using h1)] at hx;cases hx
  rw [List.getElem?_map,List.getElem?_range hj] at hx
  simp at hx
  subst hx
  obtain⟨cs',hs,hl',hc⟩:=hf j hj
  obtain⟨cs0,_,hl0,hc0⟩:=hf 0 (by omega)
  obtain⟨b,off,spot⟩:=a
  have h0:W.cell? ⟨b,off,spot⟩=some (cs0[0]'(by omega)):=by
   have:=hc0 0 hk0
   rw [List.getElem?_eq_getElem (by omega)] at this
   simpa [Addr.add] using this
  have hspot:spot=none:=World.cell?_spot h0
  subst hspot
  have hb:b<W.heap.size:=World.block_lt_of_cell? _ _ h0
  have e:∀ j',Addr.add ⟨b,off,none⟩ (j*k+j')=⟨b,off+j*k+j',none⟩:=fun j'=>by
   unfold Addr.add
   split
   ·next h9 =>
    have h1:j*k=0:=by omega
    have h2:j'=0:=by omega
    rw [h1,h2];rfl
   ·rw [Nat.add_assoc]
  exact⟨b,off,cs',rfl,hb,hs,fun i hi=>by have:=hc i hi;rw [e] at this;exact this⟩
set_option maxRecDepth 100000 in
theorem open_clause1 {W:World} (m:Nat) (cs:List Value) (x:DataW H × List MemPlace) (h:DataW.trod enc Tryz.prog W 0 (fun _=>true) true m 48 cs=some x):∃ c:C,cs=[.int .u32 (c.1.val:Int),.int .u32 (c.2.val:Int)]:=by
 obtain⟨xs,n,rfl,_,hl,hlen,hf⟩:=DataW.trod_struct Tryz.underlying48 h
 rw [Tryz.cellsC] at hl
 match cs,hl with
 | [u0,u1],_ =>
  match xs,hlen with
  | [y0,y1],_ =>
   have e0:DataW.trod enc Tryz.prog W 0 (fun _=>true) true n 46 (([u0,u1].drop 0).take (Tryz.prog.cellsOf 46))=some y0:=hf 0 _ rfl
   have e1:DataW.trod enc Tryz.prog W 0 (fun _=>true) true n 46 (([u0,u1].drop 1).take (Tryz.prog.cellsOf 46))=some y1:=hf 1 _ rfl
   rw [Tryz.cellsU] at e0 e1
   obtain⟨a,i0,_,w0⟩:=DataW.trod_int Tryz.underlying46 e0
   obtain⟨b,i1,_,w1⟩:=DataW.trod_int Tryz.underlying46 e1
   obtain⟨a,rfl⟩:=bounds_wf w0
   obtain⟨b,rfl⟩:=bounds_wf w1
   simp at i0 i1
   subst i0 i1
   exact⟨(a,b),rfl⟩
theorem open_cls {W:World} {fuel:Nat} {cs:List Value} {x:DataW H × List MemPlace} (h:DataW.trod enc Tryz.prog W 0 (fun _=>true) true fuel 22 cs=some x):∃ (l:List C) (v:Value),cs=[v]∧ClRow Tt W l v:=by
 haveI:Inhabited C:=⟨(0,0)⟩
 obtain⟨l,a,cap,rfl,hl,hx⟩:=open_any Tryz.underlying22 Tryz.cellsC (by omega) (fun (c:C) cs=>cs=[.int .u32 (c.1.val:Int),.int .u32 (c.2.val:Int)]) (fun m _=>open_clause1 m) h
 refine⟨l,_,rfl,a,cap,rfl,hl,fun j c hj=>?_⟩
 obtain⟨g,off,cs',ha,hg,rfl,hc⟩:=hx j c hj
 exact⟨g,off,ha,trivial,hg,hc 0 (by omega),hc 1 (by omega)⟩
def TmOf (W:World) (t:Tm) (cs:List Value):Prop:=∃ u0 u1 u2 u3 u4 u5,cs=[u0,u1,u2,u3,u4,u5]∧TmIn Tt W t (.agg #[u0,u1,u2,u3,u4,u5])
instance:Inhabited Tm:=⟨.mk 0 0 ByteArray.empty [] [] []⟩
theorem open_kidsT {W:World} {fuel:Nat} {cs:List Value} {x:DataW H × List MemPlace} (ih:∀ m,m<fuel→∀ cs x,DataW.trod enc Tryz.prog W 0 (fun _=>true) true m 26 cs=some x→∃ t,TmOf W t cs) (h:DataW.trod enc Tryz.prog W 0 (fun _=>true) true fuel 23 cs=some x) :
  ∃ (l:List Tm) (v:Value),cs=[v]∧KdT Tt W (TmIn Tt W) l v:=by
 obtain⟨l,a,cap,rfl,hl,hx⟩:=open_any Tryz.underlying23 cells_term (by omega) (TmOf W) ih h
 refine⟨l,_,rfl,a,cap,rfl,hl,fun j c hj=>?_⟩
 obtain⟨g,off,cs',ha,hg,⟨u0,u1,u2,u3,u4,u5,rfl,ht⟩,hc⟩:=hx j c hj
 exact⟨g,off,u0,u1,u2,u3,u4,u5,ha,trivial,hg,ht,hc 0 (by omega),hc 1 (by omega),hc 2 (by omega),hc 3 (by omega),hc 4 (by omega),hc 5 (by omega)⟩
def BrOf (W:World) (b:List C × List Tm) (cs:List Value):Prop:=∃ vf vk,cs=[vf,vk]∧ClRow Tt W b.1 vf∧KdT Tt W (TmIn Tt W) b.2 vk
set_option maxRecDepth 100000 in
theorem open_branch {W:World} {fuel:Nat} (ih:∀ m,m<fuel→∀ cs x,DataW.trod enc Tryz.prog W 0 (fun _=>true) true m 26 cs=some x→∃ t,TmOf W t cs) (cs:List Value) (x:DataW H × List MemPlace) (h:DataW.trod enc Tryz.prog W 0 (fun _=>true) true fuel 50 cs=some x):∃ b,BrOf W b cs:=by
 obtain⟨xs,n,rfl,_,hl,hlen,hf⟩:=DataW.trod_struct Tryz.underlying50 h
 rw [cells_branch] at hl
 match cs,hl with
 | [u0,u1],_ =>
  match xs,hlen with
  | [y0,y1],_ =>
   have e0:DataW.trod enc Tryz.prog W 0 (fun _=>true) true n 22 (([u0,u1].drop 0).take (Tryz.prog.cellsOf 22))=some y0:=hf 0 _ rfl
   have e1:DataW.trod enc Tryz.prog W 0 (fun _=>true) true n 23 (([u0,u1].drop 1).take (Tryz.prog.cellsOf 23))=some y1:=hf 1 _ rfl
   rw [cells_cls] at e0
   rw [cells_terms] at e1
   obtain⟨r,vr,i0,hr⟩:=open_cls e0
   obtain⟨l,vl,i1,hK⟩:=open_kidsT (fun m hm=>ih m (by omega)) e1
   simp at i0 i1
   subst i0 i1
   exact⟨(r,l),_,_,rfl,hr,hK⟩
theorem open_sysT {W:World} {fuel:Nat} {cs:List Value} {x:DataW H × List MemPlace} (ih:∀ m,m<fuel→∀ cs x,DataW.trod enc Tryz.prog W 0 (fun _=>true) true m 26 cs=some x→∃ t,TmOf W t cs) (h:DataW.trod enc Tryz.prog W 0 (fun _=>true) true fuel 24 cs=some x) :
  ∃ (l:List (List C × List Tm)) (v:Value),cs=[v]∧SyT Tt W (TmIn Tt W) l v:=by
 haveI:Inhabited (List C × List Tm):=⟨([],[])⟩
 obtain⟨l,a,cap,rfl,hl,hx⟩:=open_any Tryz.underlying24 cells_branch (by omega) (BrOf W) (fun m hm=>open_branch fun m' hm'=>ih m' (by omega)) h
 refine⟨l,_,rfl,a,cap,rfl,hl,fun j c hj=>?_⟩
 obtain⟨g,off,cs',ha,hg,⟨vf,vk,rfl,hf,hk⟩,hc⟩:=hx j c hj
 exact⟨g,off,vf,vk,ha,trivial,hg,hf,hk,hc 0 (by omega),hc 1 (by omega)⟩
set_option maxRecDepth 100000 in
theorem open_tm {W:World}:∀ (fuel:Nat) (cs:List Value) (x:DataW H × List MemPlace),DataW.trod enc Tryz.prog W 0 (fun _=>true) true fuel 26 cs=some x→∃ t,TmOf W t cs:=by
 intro fuel
 induction fuel using Nat.strongRecOn with
 | _ fuel ih =>
  intro cs x h
  obtain⟨xs,n,rfl,_,hl,hlen,hf⟩:=DataW.trod_struct Tryz.underlying26 h
  rw [cells_term] at hl
  match cs,hl with
  | [u0,u1,u2,u3,u4,u5],_ =>
   match xs,hlen with
   | [y0,y1,y2,y3,y4,y5],_ =>
    have e0:DataW.trod enc Tryz.prog W 0 (fun _=>true) true n 3 (([u0,u1,u2,u3,u4,u5].drop 0).take (Tryz.prog.cellsOf 3))=some y0:=hf 0 _ rfl
    have e1:DataW.trod enc Tryz.prog W 0 (fun _=>true) true n 3 (([u0,u1,u2,u3,u4,u5].drop 1).take (Tryz.prog.cellsOf 3))=some y1:=hf 1 _ rfl
    have e2:DataW.trod enc Tryz.prog W 0 (fun _=>true) true n 9 (([u0,u1,u2,u3,u4,u5].drop 2).take (Tryz.prog.cellsOf 9))=some y2:=hf 2 _ rfl
    have e3:DataW.trod enc Tryz.prog W 0 (fun _=>true) true n 22 (([u0,u1,u2,u3,u4,u5].drop 3).take (Tryz.prog.cellsOf 22))=some y3:=hf 3 _ rfl
    have e4:DataW.trod enc Tryz.prog W 0 (fun _=>true) true n 23 (([u0,u1,u2,u3,u4,u5].drop 4).take (Tryz.prog.cellsOf 23))=some y4:=hf 4 _ rfl
    have e5:DataW.trod enc Tryz.prog W 0 (fun _=>true) true n 24 (([u0,u1,u2,u3,u4,u5].drop 5).take (Tryz.prog.cellsOf 24))=some y5:=hf 5 _ rfl
    rw [ycells_int] at e0 e1
    rw [ycells_str] at e2
    rw [cells_cls] at e3
    rw [cells_terms] at e4
    rw [cells_branches] at e5
    obtain⟨k,i0,_,w0⟩:=DataW.trod_int Tryz.underlying3 e0
    obtain⟨nn,i1,_,w1⟩:=DataW.trod_int Tryz.underlying3 e1
    obtain⟨s,i2,_,_⟩:=DataW.trod_string Tryz.underlying9 e2
    obtain⟨r,vr,i3,hr⟩:=open_cls e3
    obtain⟨l,vl,i4,hK⟩:=open_kidsT (fun m hm=>ih m (by omega)) e4
    obtain⟨sy,vs,i5,hS⟩:=open_sysT (fun m hm=>ih m (by omega)) e5
    simp at i0 i1 i2 i3 i4 i5
    subst i0 i1 i2 i3 i4 i5
    exact⟨.mk k nn s r l sy,_,_,_,_,_,_,rfl,.mk _ _ _ _ _ _ _ _ _ (wf_I64 w0) (wf_I64 w1) hr hK hS⟩
set_option maxRecDepth 100000 in
theorem open_term1 {W:World} {base:Nat} {v:Value} {d:DataW H} {p:List MemPlace} (hv:Value.okWide Tryz.prog W .any base 26 v) (h:DataW.Trod enc Tryz.prog W 0 (fun _=>true) true 26 v d p):∃ t:Tm,TmIn Tt W t v:=by
 obtain⟨cs,rfl,hsz⟩:=okWide_struct Tryz.underlying26 hv
 obtain⟨fuel,hf⟩:=h
 obtain⟨t,u0,u1,u2,u3,u4,u5,e,hs⟩:=open_tm _ _ _ hf
 have ec:cs=#[u0,u1,u2,u3,u4,u5]:=by
  simp [Value.cells] at e
  rw [← e]
 rw [ec]
 exact⟨t,hs⟩
end
end Go.Proofs.YtmblbmdchinflaaGreat
