/- How a term that came in lies in memory. -/
import Derived.ProofKit
import Derived.OpenShut
import Derived.Lib.SmallJoins
import Derived.Deep.Slices
import Derived.Deep.Strs
import Derived.Test.YtmblbmdchinflaaGreatEG6
import Derived.Test.YtmblbmdchinflaaGreatEFMA
import Derived.Test.YtmblbmdchinflaaGreatEFB
import Derived.Test.YtmblbmdchinflaaGreatFG33
import Derived.Test.YtmblbmdchinflaaGreatSLay
import Derived.Test.YtmblbmdchinflaaGreatEG12
import Derived.Test.YtmblbmdchinflaaGreatFG27
set_option linter.unusedVariables false
set_option linter.unusedSimpArgs false
set_option maxRecDepth 100000
set_option maxHeartbeats 8000000
namespace Go.Proofs.YtmblbmdchinflaaGreat
open Go.ChangeShapes Go.WideShapes Go.ChangeAt Go.RowKit
open Go.RowKit
open Go.ChangeShapes Go.WideShapes Go.ChangeAt
open Go.RowKit Go.Shelf
section
variable {H:Type} {enc:TypeId × Value→H}
theorem wf_I64 {n:Int} (h:(Lit.int .i64 n).wf=true):I64 n:=by
 simp [Lit.wf,IntKind.min,IntKind.max,IntKind.bits,IntKind.signed] at h
 exact⟨by omega,by omega⟩
theorem cells_term:Tryz.prog.cellsOf 26=6:=by kernel_rfl
theorem cells_branch:Tryz.prog.cellsOf 50=2:=by kernel_rfl
theorem cells_terms:Tryz.prog.cellsOf 23=1:=by kernel_rfl
theorem cells_branches:Tryz.prog.cellsOf 24=1:=by kernel_rfl
theorem cells_cls:Tryz.prog.cellsOf 22=1:=by kernel_rfl
theorem ycells_int:Tryz.prog.cellsOf 3=1:=by kernel_rfl
theorem ycells_str:Tryz.prog.cellsOf 9=1:=by kernel_rfl
theorem open_any {W:World} {fuel:Nat} {cs:List Value} {x:DataW H × List MemPlace} {ts te:TypeId} {k:Nat} (hu:Tryz.prog.underlying ts=some (.slice te)) (hk:Tryz.prog.cellsOf te=k) (hk0:0<k) {T:Type} [Inhabited T] (p:T→List Value→Prop)
  (ih:∀ m,m<fuel→∀ cs x,DataW.trod enc Tryz.prog W 0 (fun _=>true) true m te cs=some x→∃ t,p t cs) (h:DataW.trod enc Tryz.prog W 0 (fun _=>true) true fuel ts cs=some x) :
  ∃ (l:List T) (a:Option Addr) (cap:Nat),cs=[.slice a l.length cap]∧l.length≤cap∧∀ j t,l[j]? = some t→∃ g off cs',a=some ⟨g,off,none⟩∧g<W.heap.size∧p t cs'∧∀ i,i<k→W.cell? ⟨g,off+j*k+i,none⟩=cs'[i]?:=by
 rcases DataW.trod_slice hu h with ⟨rfl,_⟩|⟨a,len,cap,elems,rest,m,rfl,rfl,_,hba,hlc,hcm,hel,hcell,_,_⟩
 ·exact⟨[],none,0,rfl,Nat.le_refl _,fun j t ht=>by simp at ht⟩
 ·have each:∀ i,i<len→∃ (t:T),∃ cs',p t cs'∧cs'.length=k∧∀ j,j<k→W.cell? (a.add (i*k+j))=cs'[j]?:=fun i hi=>by
   have h1:=hcell i hi
   rw [List.getElem?_eq_getElem (by omega),hk] at h1
   obtain⟨cs',h2,h3⟩:=Option.bind_eq_some_iff.1 h1
   obtain⟨t,hp⟩:=ih m (by omega) _ _ h3
   obtain⟨h5,h6,h4⟩:=World.cells?_some h2
   refine⟨t,cs',hp,by first | exact h5 | exact h6 | omega,fun j hj=>?_⟩
   have:=h4 j hj
   rw [Go.Deep.add_add] at this
   exact this
  obtain⟨f,hf⟩:=Go.Deep.choose_lt (p:=fun i t=>∃ cs',p t cs'∧cs'.length=k∧∀ j,j<k→W.cell? (a.add (i*k+j))=cs'[j]?) each
  refine⟨(List.range len).map f,some a,cap,by simp,by simpa using hlc,fun j x hx=>?_⟩
  have hj:j<len:=by
   rcases Nat.lt_or_ge j len with h1|h1
   ·exact h1
   ·rw [List.getElem?_eq_none (by simpa using h1)] at hx;cases hx
  rw [List.getElem?_map,List.getElem?_range hj] at hx
  simp at hx
  subst hx
  obtain⟨cs',hs,hl',hc⟩:=hf j hj
  obtain⟨cs0,_,hl0,hc0⟩:=hf 0 (by omega)
  obtain⟨b,off,spot⟩:=a
  have h0:W.cell? ⟨b,off,spot⟩=some (cs0[0]'(by omega)):=by
   have:=hc0 0 hk0
   rw [List.getElem?_eq_getElem (by omega)] at this
   simpa [Addr.add] using this
  have hspot:spot=none:=World.cell?_spot h0
  subst hspot
  have hb:b<W.heap.size:=World.block_lt_of_cell? _ _ h0
  have e:∀ j',Addr.add ⟨b,off,none⟩ (j*k+j')=⟨b,off+j*k+j',none⟩:=fun j'=>by
   unfold Addr.add
   split
   ·next h9 =>
    have h1:j*k=0:=by omega
    have h2:j'=0:=by omega
    rw [h1,h2];rfl
   ·rw [Nat.add_assoc]
  exact⟨b,off,cs',rfl,hb,hs,fun i hi=>by have:=hc i hi;rw [e] at this;exact this⟩
theorem open_clause1 {W:World} (m:Nat) (cs:List Value) (x:DataW H × List MemPlace) (h:DataW.trod enc Tryz.prog W 0 (fun _=>true) true m 48 cs=some x):∃ c:C,cs=[.int .u32 (c.1.val:Int),.int .u32 (c.2.val:Int)]:=by
 obtain⟨xs,n,rfl,_,hl,hlen,hf⟩:=DataW.trod_struct Tryz.underlying48 h
 rw [Tryz.cellsC] at hl
 match cs,hl with
 | [u0,u1],_ =>
  match xs,hlen with
  | [y0,y1],_ =>
   have e0:DataW.trod enc Tryz.prog W 0 (fun _=>true) true n 46 (([u0,u1].drop 0).take (Tryz.prog.cellsOf 46))=some y0:=hf 0 _ rfl
   have e1:DataW.trod enc Tryz.prog W 0 (fun _=>true) true n 46 (([u0,u1].drop 1).take (Tryz.prog.cellsOf 46))=some y1:=hf 1 _ rfl
   rw [Tryz.cellsU] at e0 e1
   obtain⟨a,i0,_,w0⟩:=DataW.trod_int Tryz.underlying46 e0
   obtain⟨b,i1,_,w1⟩:=DataW.trod_int Tryz.underlying46 e1
   obtain⟨a,rfl⟩:=bounds_wf w0
   obtain⟨b,rfl⟩:=bounds_wf w1
   simp at i0 i1
   subst i0 i1
   exact⟨(a,b),rfl⟩
theorem open_cls {W:World} {fuel:Nat} {cs:List Value} {x:DataW H × List MemPlace} (h:DataW.trod enc Tryz.prog W 0 (fun _=>true) true fuel 22 cs=some x):∃ (l:List C) (v:Value),cs=[v]∧ClRow Tt W l v:=by
 haveI:Inhabited C:=⟨(0,0)⟩
 obtain⟨l,a,cap,rfl,hl,hx⟩:=open_any Tryz.underlying22 Tryz.cellsC (by omega) (fun (c:C) cs=>cs=[.int .u32 (c.1.val:Int),.int .u32 (c.2.val:Int)]) (fun m _=>open_clause1 m) h
 refine⟨l,_,rfl,a,cap,rfl,hl,fun j c hj=>?_⟩
 obtain⟨g,off,cs',ha,hg,rfl,hc⟩:=hx j c hj
 exact⟨g,off,ha,trivial,hg,hc 0 (by omega),hc 1 (by omega)⟩
def TmOf (W:World) (t:Tm) (cs:List Value):Prop:=∃ u0 u1 u2 u3 u4 u5,cs=[u0,u1,u2,u3,u4,u5]∧TmIn Tt W t (.agg #[u0,u1,u2,u3,u4,u5])
instance:Inhabited Tm:=⟨.mk 0 0 ByteArray.empty [] [] []⟩
theorem open_kidsT {W:World} {fuel:Nat} {cs:List Value} {x:DataW H × List MemPlace} (ih:∀ m,m<fuel→∀ cs x,DataW.trod enc Tryz.prog W 0 (fun _=>true) true m 26 cs=some x→∃ t,TmOf W t cs) (h:DataW.trod enc Tryz.prog W 0 (fun _=>true) true fuel 23 cs=some x) :
  ∃ (l:List Tm) (v:Value),cs=[v]∧KdT Tt W (TmIn Tt W) l v:=by
 obtain⟨l,a,cap,rfl,hl,hx⟩:=open_any Tryz.underlying23 cells_term (by omega) (TmOf W) ih h
 refine⟨l,_,rfl,a,cap,rfl,hl,fun j c hj=>?_⟩
 obtain⟨g,off,cs',ha,hg,⟨u0,u1,u2,u3,u4,u5,rfl,ht⟩,hc⟩:=hx j c hj
 exact⟨g,off,u0,u1,u2,u3,u4,u5,ha,trivial,hg,ht,hc 0 (by omega),hc 1 (by omega),hc 2 (by omega),hc 3 (by omega),hc 4 (by omega),hc 5 (by omega)⟩
def BrOf (W:World) (b:List C × List Tm) (cs:List Value):Prop:=∃ vf vk,cs=[vf,vk]∧ClRow Tt W b.1 vf∧KdT Tt W (TmIn Tt W) b.2 vk
theorem open_branch {W:World} {fuel:Nat} (ih:∀ m,m<fuel→∀ cs x,DataW.trod enc Tryz.prog W 0 (fun _=>true) true m 26 cs=some x→∃ t,TmOf W t cs) (cs:List Value) (x:DataW H × List MemPlace) (h:DataW.trod enc Tryz.prog W 0 (fun _=>true) true fuel 50 cs=some x):∃ b,BrOf W b cs:=by
 obtain⟨xs,n,rfl,_,hl,hlen,hf⟩:=DataW.trod_struct Tryz.underlying50 h
 rw [cells_branch] at hl
 match cs,hl with
 | [u0,u1],_ =>
  match xs,hlen with
  | [y0,y1],_ =>
   have e0:DataW.trod enc Tryz.prog W 0 (fun _=>true) true n 22 (([u0,u1].drop 0).take (Tryz.prog.cellsOf 22))=some y0:=hf 0 _ rfl
   have e1:DataW.trod enc Tryz.prog W 0 (fun _=>true) true n 23 (([u0,u1].drop 1).take (Tryz.prog.cellsOf 23))=some y1:=hf 1 _ rfl
   rw [cells_cls] at e0
   rw [cells_terms] at e1
   obtain⟨r,vr,i0,hr⟩:=open_cls e0
   obtain⟨l,vl,i1,hK⟩:=open_kidsT (fun m hm=>ih m (by omega)) e1
   simp at i0 i1
   subst i0 i1
   exact⟨(r,l),_,_,rfl,hr,hK⟩
theorem open_sysT {W:World} {fuel:Nat} {cs:List Value} {x:DataW H × List MemPlace} (ih:∀ m,m<fuel→∀ cs x,DataW.trod enc Tryz.prog W 0 (fun _=>true) true m 26 cs=some x→∃ t,TmOf W t cs) (h:DataW.trod enc Tryz.prog W 0 (fun _=>true) true fuel 24 cs=some x) :
  ∃ (l:List (List C × List Tm)) (v:Value),cs=[v]∧SyT Tt W (TmIn Tt W) l v:=by
 haveI:Inhabited (List C × List Tm):=⟨([],[])⟩
 obtain⟨l,a,cap,rfl,hl,hx⟩:=open_any Tryz.underlying24 cells_branch (by omega) (BrOf W) (fun m hm=>open_branch fun m' hm'=>ih m' (by omega)) h
 refine⟨l,_,rfl,a,cap,rfl,hl,fun j c hj=>?_⟩
 obtain⟨g,off,cs',ha,hg,⟨vf,vk,rfl,hf,hk⟩,hc⟩:=hx j c hj
 exact⟨g,off,vf,vk,ha,trivial,hg,hf,hk,hc 0 (by omega),hc 1 (by omega)⟩
theorem open_tm {W:World}:∀ (fuel:Nat) (cs:List Value) (x:DataW H × List MemPlace),DataW.trod enc Tryz.prog W 0 (fun _=>true) true fuel 26 cs=some x→∃ t,TmOf W t cs:=by
 intro fuel
 induction fuel using Nat.strongRecOn with
 | _ fuel ih =>
  intro cs x h
  obtain⟨xs,n,rfl,_,hl,hlen,hf⟩:=DataW.trod_struct Tryz.underlying26 h
  rw [cells_term] at hl
  match cs,hl with
  | [u0,u1,u2,u3,u4,u5],_ =>
   match xs,hlen with
   | [y0,y1,y2,y3,y4,y5],_ =>
    have e0:DataW.trod enc Tryz.prog W 0 (fun _=>true) true n 3 (([u0,u1,u2,u3,u4,u5].drop 0).take (Tryz.prog.cellsOf 3))=some y0:=hf 0 _ rfl
    have e1:DataW.trod enc Tryz.prog W 0 (fun _=>true) true n 3 (([u0,u1,u2,u3,u4,u5].drop 1).take (Tryz.prog.cellsOf 3))=some y1:=hf 1 _ rfl
    have e2:DataW.trod enc Tryz.prog W 0 (fun _=>true) true n 9 (([u0,u1,u2,u3,u4,u5].drop 2).take (Tryz.prog.cellsOf 9))=some y2:=hf 2 _ rfl
    have e3:DataW.trod enc Tryz.prog W 0 (fun _=>true) true n 22 (([u0,u1,u2,u3,u4,u5].drop 3).take (Tryz.prog.cellsOf 22))=some y3:=hf 3 _ rfl
    have e4:DataW.trod enc Tryz.prog W 0 (fun _=>true) true n 23 (([u0,u1,u2,u3,u4,u5].drop 4).take (Tryz.prog.cellsOf 23))=some y4:=hf 4 _ rfl
    have e5:DataW.trod enc Tryz.prog W 0 (fun _=>true) true n 24 (([u0,u1,u2,u3,u4,u5].drop 5).take (Tryz.prog.cellsOf 24))=some y5:=hf 5 _ rfl
    rw [ycells_int] at e0 e1
    rw [ycells_str] at e2
    rw [cells_cls] at e3
    rw [cells_terms] at e4
    rw [cells_branches] at e5
    obtain⟨k,i0,_,w0⟩:=DataW.trod_int Tryz.underlying3 e0
    obtain⟨nn,i1,_,w1⟩:=DataW.trod_int Tryz.underlying3 e1
    obtain⟨s,i2,_,_⟩:=DataW.trod_string Tryz.underlying9 e2
    obtain⟨r,vr,i3,hr⟩:=open_cls e3
    obtain⟨l,vl,i4,hK⟩:=open_kidsT (fun m hm=>ih m (by omega)) e4
    obtain⟨sy,vs,i5,hS⟩:=open_sysT (fun m hm=>ih m (by omega)) e5
    simp at i0 i1 i2 i3 i4 i5
    subst i0 i1 i2 i3 i4 i5
    exact⟨.mk k nn s r l sy,_,_,_,_,_,_,rfl,.mk _ _ _ _ _ _ _ _ _ (wf_I64 w0) (wf_I64 w1) hr hK hS⟩
theorem open_term1 {W:World} {base:Nat} {v:Value} {d:DataW H} {p:List MemPlace} (hv:Value.okWide Tryz.prog W .any base 26 v) (h:DataW.Trod enc Tryz.prog W 0 (fun _=>true) true 26 v d p):∃ t:Tm,TmIn Tt W t v:=by
 obtain⟨cs,rfl,hsz⟩:=okWide_struct Tryz.underlying26 hv
 obtain⟨fuel,hf⟩:=h
 obtain⟨t,u0,u1,u2,u3,u4,u5,e,hs⟩:=open_tm _ _ _ hf
 have ec:cs=#[u0,u1,u2,u3,u4,u5]:=by
  simp [Value.cells] at e
  rw [← e]
 rw [ec]
 exact⟨t,hs⟩
end
def totB (f:List C):Bool:=decide (f=[top0])
def totN:List (List C)→Nat→Int
 | [],_=>-1
 | f :: r,i=>if totB f then (i:Int) else totN r (i+1)
def totF (fs:List (List C)):Int:=totN fs 0
theorem totN_ge:∀ (fs:List (List C)) (i:Nat),0≤totN fs i↔[top0]∈fs
 | [],i=>by simp [totN]
 | f :: r,i=>by
  unfold totN
  cases h:totB f
  ·have hf:¬ f=[top0]:=of_decide_eq_false h
   rw [if_neg (by simp),totN_ge r (i+1),List.mem_cons]
   constructor
   ·exact Or.inr
   ·rintro (h1 | h1)
    ·exact absurd h1.symm hf
    ·exact h1
  ·have hf:f=[top0]:=of_decide_eq_true h
   rw [if_pos rfl,hf]
   exact⟨fun _=>List.mem_cons_self ..,fun _=>Int.natCast_nonneg i⟩
theorem totF_ge (fs:List (List C)):0≤totF fs↔[top0]∈fs:=totN_ge fs 0
section
variable {H:Type} {enc:TypeId × Value→H}
theorem open_sys1 {W:World} {base:Nat} {v:Value} {d:DataW H} {p:List MemPlace} (hv:Value.okWide Tryz.prog W .any base 24 v) (h:DataW.Trod enc Tryz.prog W 0 (fun _=>true) true 24 v d p):∃ l:List (List C × List Tm),SyT Tt W (TmIn Tt W) l v:=by
 obtain⟨a0,len,cap,rfl⟩:=okWide_slice Tryz.underlying24 hv
 obtain⟨fuel,hf⟩:=h
 obtain⟨l,v',e,hs⟩:=open_sysT (fun m _=>open_tm m) hf
 have ec:Value.slice a0 len cap=v':=by
  simp [Value.cells] at e
  first | exact e | exact e.symm
 rw [ec]
 exact⟨l,hs⟩
end
def tS (l:List (List C × List Tm)):Tm:=.mk 0 0 ⟨#[]⟩ [] [] l
theorem tS_in {w:World} {l:List (List C × List Tm)} {a:Option Addr} {c:Nat} (h:SyT Tt w (TmIn Tt w) l (.slice a l.length c)):TmIn Tt w (tS l) (.agg #[.int .i64 0,.int .i64 0,.string ⟨#[]⟩,.slice none 0 0,.slice none 0 0,.slice a l.length c]) :=
 .mk _ _ _ _ _ _ _ _ _ ⟨by decide,by decide⟩ ⟨by decide,by decide⟩ (cl_nil _ w) (kt_nil _ w _) h
theorem SyT.len {ok:Nat→Prop} {w:World} {P:Tm→Value→Prop} {l:List (List C × List Tm)} {v:Value} (h:SyT ok w P l v):∃ a c,v=.slice a l.length c:=by obtain⟨a,c,e,_⟩:=h;exact⟨a,c,e⟩
abbrev RowV (w:World):={x:List C × Value × Value // ClRow Tt w x.1 x.2.1}
instance (w:World):Inhabited (RowV w):=⟨⟨([],.slice none 0 0,.slice none 0 0),cl_nil _ _⟩⟩
def encB {w:World} (x:RowV w):List Value:=[x.1.2.1,x.1.2.2]
theorem sy_rows {w:World} {l:List (List C × List Tm)} {a:Option Addr} {n c:Nat} (h:SyT Tt w (TmIn Tt w) l (.slice a n c)) (hne:l≠[]):∃ g off,a=some ⟨g,off,none⟩∧g<w.heap.size∧∃ zs:List (RowV w),zs.length=l.length∧zs.map (fun x=>x.1.1)=l.map Prod.fst∧∀ (j:Nat) (hj:j<zs.length),w.cell? ⟨g,off+j*2,none⟩=some zs[j].1.2.1∧w.cell? ⟨g,off+j*2+1,none⟩=some zs[j].1.2.2:=by
 obtain⟨a',c',e,_,h3⟩:=h
 cases e
 obtain⟨b0,hb0⟩:=someL (l:=l) (k:=0) (by cases l with | nil=>exact absurd rfl hne | cons _ _=>simp)
 obtain⟨g,off,_,_,ha,_,hg,_,_,_,_⟩:=h3 0 b0 hb0
 subst ha
 refine⟨g,off,rfl,hg,?_⟩
 have each:∀ i,i<l.length→∃ x:RowV w,∀ b,l[i]? = some b→x.1.1=b.1∧w.cell? ⟨g,off+i*2,none⟩=some x.1.2.1∧w.cell? ⟨g,off+i*2+1,none⟩=some x.1.2.2:=fun i hi=>by
  obtain⟨b,hb⟩:=someL (l:=l) (k:=i) hi
  obtain⟨g',off',vf,vk,ha,_,_,hF,_,c0,c1⟩:=h3 i b hb
  cases ha
  exact⟨⟨(b.1,vf,vk),hF⟩,fun b' hb'=>by rw [hb] at hb'; cases hb'; exact⟨rfl,c0,c1⟩⟩
 obtain⟨f,hf⟩:=Go.Deep.choose_lt (p:=fun i (x:RowV w)=>∀ b,l[i]? = some b→x.1.1=b.1∧w.cell? ⟨g,off+i*2,none⟩=some x.1.2.1∧w.cell? ⟨g,off+i*2+1,none⟩=some x.1.2.2) each
 refine⟨(List.range l.length).map f,by simp,?_,fun j hj=>?_⟩
 ·refine List.ext_getElem? (fun i=>?_)
  rcases Nat.lt_or_ge i l.length with hi|hi
  ·obtain⟨b,hb⟩:=someL (l:=l) (k:=i) hi
   rw [List.getElem?_map,List.getElem?_map,List.getElem?_map,List.getElem?_range hi,hb]
   simp [(hf i hi b hb).1]
  ·rw [List.getElem?_eq_none (by simpa using hi),List.getElem?_eq_none (by simpa using hi)]
 ·have hj':j<l.length:=by simpa using hj
  obtain⟨b,hb⟩:=someL (l:=l) (k:=j) hj'
  have:=(hf j hj' b hb).2
  simpa using this
theorem idx_tot {w:World}:∀ (zs:List (RowV w)) (i:Nat) (x:RowV w),Lib.idxByFrom (fun _ y=>totB y.1.1) x zs i=totN (zs.map fun x=>x.1.1) i
 | [],_,_=>rfl
 | z :: zs,i,x=>by
  unfold Lib.idxByFrom
  rw [List.map_cons]
  unfold totN
  rw [idx_tot zs (i+1) x]
theorem tot1_eg:∀ args w,(callFunc 49 args).run Tryz.prog w=.ok (.enter 49 args) w:=enters_of Tryz.func49 (by kernel_rfl) rfl
theorem totB_no {l:List C} (h:¬ l.length=1):totB l=false:=decide_eq_false (fun e=>h (by rw [e];rfl))
theorem totB_one (c:C):totB [c]=(decide (c.1=0) && decide (c.2=0)):=by
 rw [Bool.eq_iff_iff,Bool.and_eq_true,decide_eq_true_iff,decide_eq_true_iff]
 unfold totB
 rw [decide_eq_true_iff]
 constructor
 ·intro h;injection h with h;subst h;exact⟨rfl,rfl⟩
 ·rintro⟨h1,h2⟩;obtain⟨a,b⟩:=c;dsimp only at h1 h2;subst h1 h2;rfl
theorem tot1_any (w:World):PredBelow Tryz.prog 49 #[] (fun x:RowV w=>.agg (encB x).toArray) (fun x=>totB x.1.1) w:=fun W x hb=>by
 obtain⟨⟨l,vf,vk⟩,hr⟩:=x
 dsimp only at hr
 obtain⟨a,cap,rfl,_,hx⟩:=hr.blw hb
 show Calls Tryz.prog 49 #[.agg #[.slice a l.length cap,vk]] W fun e w'=>e=.returned (.bool (totB l))∧Below w.heap.size w w'
 obtain⟨w1,hw1⟩:∃ W',W'=W.alloc (.cells #[.slice a l.length cap,vk] 50):=⟨_,rfl⟩
 have b1:Below W.heap.size W w1:=by rw [hw1];exact belowA _ _
 have hB:Below w.heap.size w w1:=hb.trans (b1.mono hb.size)
 have t1:Two w1 W.heap.size (.slice a l.length cap) vk:=⟨by rw [hw1];exact heapNew _ _⟩
 obtain⟨y0,y1,_⟩:=t1.cells
 by_cases hl:l.length=1
 ·obtain⟨c,rfl⟩:∃ c,l=[c]:=by
   match l,hl with
   | [c],_=>exact⟨c,rfl⟩
  obtain⟨g,off,rfl,_,hg,c0,c1⟩:=hx 0 c rfl
  simp only [List.length_cons,List.length_nil,Nat.zero_add] at hw1 y0 ⊢
  have e0:=(b1.cell (p:=⟨g,off+0*2,none⟩) hg).trans c0
  have e1:=(b1.cell (p:=⟨g,off+0*2+1,none⟩) hg).trans c1
  simp only [Nat.zero_mul,Nat.add_zero] at e0 e1
  have HT:=totB_one c
  have H1:Hid (_=_):=hw1
  have hc1:=c.1.isLt
  have hc2:=c.2.isLt
  clear hw1 hx hr c0 c1 b1 t1
  go_enter Tryz.func49,Tryz.ntmps49
  go_upto_region 1 with fail
  rw [← H1.out]
  by_cases h1:c.1=0
  ·by_cases h2:c.2=0
   ·obtain⟨x,y⟩:=c
    dsimp only at h1 h2
    subst h1 h2
    have HE:Hid (totB [((0,0):C)]=true):=(by rw [HT];rfl:_=_)
    go_wp2_with fail
    go_ret
    exact⟨by first | rfl | (rw [HE.out];rfl),hB⟩
   ·have q2:(((c.2.val:Int) == 0):Bool)=false:=by simp;omega
    have HE:Hid (totB [c]=false):=(by rw [HT,decide_eq_false h2,Bool.and_false]:_=_)
    go_wp2_with fail
    go_ret
    exact⟨by first | rfl | (rw [HE.out];rfl),hB⟩
  ·have q1:(((c.1.val:Int) == 0):Bool)=false:=by simp;omega
   have HE:Hid (totB [c]=false):=(by rw [HT,decide_eq_false h1];rfl:_=_)
   go_wp2_with fail
   go_ret
   exact⟨by first | rfl | (rw [HE.out];rfl),hB⟩
 ·have HT:Hid (totB l=false):=totB_no hl
  have hl2:(((l.length:Int) == 1):Bool)=false:=by simp;omega
  have H1:Hid (_=_):=hw1
  obtain⟨n,hn⟩:∃ n,n=l.length:=⟨_,rfl⟩
  rw [← hn] at y0 hl2 H1 ⊢
  clear hw1 hx hr b1 t1 hn hl
  go_enter Tryz.func49,Tryz.ntmps49
  go_upto_region 1 with fail
  rw [← H1.out]
  go_wp2_with fail
  go_ret
  exact⟨by rw [HT.out];rfl,hB⟩
theorem idx_none (a:Option Addr) (c:Nat) (fv:Value) (w:World):Calls Tryz.prog 48 #[.slice a 0 c,fv] w fun e w'=>e=.returned (.int .i64 (-1))∧w'=w:=by
 go_enter Tryz.func48,Tryz.ntmps48
 go_wp2
 go_loopw [8] (fun i wr=>i=.int .i64 0∧wr=w) (fun _ _=>0)
 case atStart=>exact⟨rfl,rfl⟩
 case round =>
  obtain⟨rfl,hw⟩:=hrel
  replace hw:=hw.symm
  subst hw
  go_wp2
  go_ret
  exact⟨rfl,rfl⟩
theorem total_any (l:List (List C × List Tm)) (v:Value) (w:World) (hS:SyT Tt w (TmIn Tt w) l v) (hl:l.length≤100000):Calls Tryz.prog 15 #[v] w fun e w'=>e=.returned (.int .i64 (totF (l.map Prod.fst)))∧Below w.heap.size w w':=by
 obtain⟨a,c,rfl⟩:=hS.len
 have c1:Calls Tryz.prog 48 #[.slice a l.length c,.func (.func 49) #[] #[]] w fun e w'=>e=.returned (.int .i64 (totF (l.map Prod.fst)))∧Below w.heap.size w w':=by
  by_cases hz:l=[]
  ·subst hz
   refine (idx_none _ _ _ _).mono ?_
   rintro e w' ⟨rfl,rfl⟩
   exact⟨rfl,Below.refl _ _⟩
  ·obtain⟨g,off,rfl,hg,zs,hn,hm,hc⟩:=sy_rows hS hz
   have hcon:=AnyQ.slices_IndexFunc idxB 2 Tryz.isAgg50 Tryz.sizeOf50 (encB (w:=w)) (fun _=>rfl) (fun x=>totB x.1.1) 49 #[] tot1_eg g off l.length c zs w (tot1_any w) (by omega) (by omega) hg (fun j hj i u hi=>by
    have h1:=hc j hj
    have e:zs[j]! = zs[j]:=getElem!_pos zs j hj
    rw [e] at hi
    match i,hi with
    | 0,hi=>simp [encB] at hi;rw [← hi];exact h1.1
    | 1,hi=>simp [encB] at hi;rw [← hi];exact h1.2
    | i+2,hi=>simp [encB] at hi)
   rw [List.take_of_length_le (by omega)] at hcon
   have e:=idx_tot zs 0 default
   unfold Lib.idxBy at hcon
   rw [e,hm] at hcon
   exact hcon
 obtain⟨n,hn⟩:∃ n,n=l.length:=⟨_,rfl⟩
 obtain⟨T,hT⟩:∃ n,n=totF (l.map Prod.fst):=⟨_,rfl⟩
 rw [← hn,← hT] at c1 ⊢
 clear hn hS hl hT
 go_enter Tryz.func15,Tryz.ntmps15
 go_wp2_with fail
 refine c1.mono ?_
 rintro e w1 ⟨rfl,b1⟩
 clear c1
 go_wp2_with fail
 go_ret
 exact⟨rfl,b1⟩
theorem great15_any (t u:Tm) (l:List (List C × List Tm)) (v vu vs:Value) (w:World) (hv:TmIn Tt w t v) (hu:TmIn Tt w u vu) (hS:SyT Tt w (TmIn Tt w) l vs):Calls Tryz.prog 7 #[v,vu,vs] w fun e w'=>∃ b,e=.returned (.bool b)∧(b=false→blk t≤150∧blk u≤150∧blk (tS l)≤150)∧Below w.heap.size w w':=by
 obtain⟨sa0,sc0,rfl⟩:=hS.len
 obtain⟨ra,rc,ka,kc,sa,sc,rfl,ht⟩:=hv.form
 obtain⟨rb,rd,kb,kd,sb,sd,rfl,htu⟩:=hu.form
 obtain⟨w1,hw1⟩:∃ w1,w1=w.alloc (.cells #[.int .i64 t.kind,.int .i64 t.n,.string t.name,.slice ra t.r.length rc,.slice ka t.kids.length kc,.slice sa t.sys.length sc] 26):=⟨_,rfl⟩
 have b1:Below w.heap.size w w1:=by rw [hw1];exact belowA _ _
 obtain⟨w2,hw2⟩:∃ w2,w2=w1.alloc (.cells #[.int .i64 u.kind,.int .i64 u.n,.string u.name,.slice rb u.r.length rd,.slice kb u.kids.length kd,.slice sb u.sys.length sd] 26):=⟨_,rfl⟩
 have b2:Below w1.heap.size w1 w2:=by rw [hw2];exact belowA _ _
 have B2:Below w.heap.size w w2:=bchain b1 b2
 obtain⟨X,hX⟩:∃ X,X=w.heap.size:=⟨_,rfl⟩
 have hY:X+1=w1.heap.size:=by rw [hw1,hX];simp
 have x1:Six w1 X (.int .i64 t.kind) (.int .i64 t.n) (.string t.name) (.slice ra t.r.length rc) (.slice ka t.kids.length kc) (.slice sa t.sys.length sc):=⟨by rw [hw1,hX];exact heapNew _ _⟩
 have x2:Six w2 (X+1) (.int .i64 u.kind) (.int .i64 u.n) (.string u.name) (.slice rb u.r.length rd) (.slice kb u.kids.length kd) (.slice sb u.sys.length sd):=⟨by rw [hw2,hY];exact heapNew _ _⟩
 have HX:Hid (∀ W,Below w2.heap.size w2 W→Six W (X+1) (.int .i64 u.kind) (.int .i64 u.n) (.string u.name) (.slice rb u.r.length rd) (.slice kb u.kids.length kd) (.slice sb u.sys.length sd)):=fun W q=>x2.blw q
 have HU:Hid (∀ W,Below w2.heap.size w2 W→TmIn Tt W u (.agg #[.int .i64 u.kind,.int .i64 u.n,.string u.name,.slice rb u.r.length rd,.slice kb u.kids.length kd,.slice sb u.sys.length sd])):=fun W q=>((htu.blw B2).blw q).value
 have HSy:Hid (∀ W,Below w2.heap.size w2 W→SyT Tt W (TmIn Tt W) l (.slice sa0 l.length sc0)):=fun W q=>(hS.blw B2).blw q
 have cc:=bulk_any (blk t) 150 150 t _ w2 rfl (by omega) (Nat.le_refl _) ((ht.blw b1).blw b2).value
 obtain⟨y0,y1,y2,y3,y4,y5,_⟩:=(x1.blw b2).cells
 have H1:Hid (_=_):=hw1
 have H2:Hid (_=_):=hw2
 have HXe:Hid (X=w.heap.size):=hX
 have HYe:Hid (X+1=w1.heap.size):=hY
 clear hw1 hw2 hv ht htu hu hS hX hY x1 x2 b1 b2
 obtain⟨M,hM⟩:∃ M,M=l.length:=⟨_,rfl⟩
 rw [← hM] at HSy
 rw [← hM]
 have HM:Hid (M=l.length):=hM
 clear hM
 go_enter Tryz.func7,Tryz.ntmps7
 go_upto_region 1 with fail
 rw [← H1.out]
 simp only [← HYe.out,← HXe.out]
 rw [← H2.out]
 go_wp2_with fail
 refine cc.mono ?_
 rintro e w3 ⟨⟨r,rfl,r1,r2,r3,r4⟩,hb3⟩
 clear cc y0 y1 y2 y3 y4 y5
 have bF:=bchain B2 hb3
 by_cases h:150<blk t
 ·have hq:(150:Int) < (r:Int):=by have:=r2 h;omega
  have hqb:decide ((150:Int) < (r:Int))=true:=decide_eq_true hq
  clear r1 r2 h
  go_wp2_with fail
  go_ret
  exact⟨true,rfl,(fun h=>by cases h),bF⟩
 ·have hq:¬ (150:Int) < (r:Int):=by have:=r1 (by omega);omega
  have hqb:decide ((150:Int) < (r:Int))=false:=decide_eq_false hq
  have HB1:Hid (blk t≤150):=(by omega:blk t≤150)
  have c2:=bulk_any (blk u) 150 150 u _ w3 rfl (by omega) (Nat.le_refl _) (HU.out w3 hb3)
  obtain⟨y0,y1,y2,y3,y4,y5,_⟩:=(HX.out w3 hb3).cells
  clear r1 r2 r3 r4 h
  go_wp2_with fail
  refine c2.mono ?_
  rintro e w4 ⟨⟨r',rfl,r1,r2,r3,r4⟩,hb4⟩
  clear c2 y0 y1 y2 y3 y4 y5
  have b24:=bchain hb3 hb4
  have bF2:=bchain B2 b24
  by_cases h:150<blk u
  ·have hq2:(150:Int) < (r':Int):=by have:=r2 h;omega
   have hqb2:decide ((150:Int) < (r':Int))=true:=decide_eq_true hq2
   clear r1 r2 h
   go_wp2_with fail
   go_ret
   exact⟨true,rfl,(fun h=>by cases h),bF2⟩
  ·have hq2:¬ (150:Int) < (r':Int):=by have:=r1 (by omega);omega
   have hqb2:decide ((150:Int) < (r':Int))=false:=decide_eq_false hq2
   have HB2:Hid (blk u≤150):=(by omega:blk u≤150)
   have q3:=HSy.out w4 b24
   rw [HM.out] at q3
   have c3:=bulk_any (blk (tS l)) 150 150 (tS l) _ w4 rfl (by omega) (Nat.le_refl _) (tS_in q3)
   rw [← HM.out] at c3
   clear q3
   clear r1 r2 r3 r4 h
   go_wp2_with fail
   refine c3.mono ?_
   rintro e w5 ⟨⟨r5,rfl,r1,r2,r3,r4⟩,hb5⟩
   clear c3
   have bF3:=bchain bF2 hb5
   by_cases h:150<blk (tS l)
   ·have hq3:(150:Int) < (r5:Int):=by have:=r2 h;omega
    have hqb3:decide ((150:Int) < (r5:Int))=true:=decide_eq_true hq3
    clear r1 r2 h
    go_wp2_with fail
    go_ret
    exact⟨true,rfl,(fun h=>by cases h),bF3⟩
   ·have hq3:¬ (150:Int) < (r5:Int):=by have:=r1 (by omega);omega
    have hqb3:decide ((150:Int) < (r5:Int))=false:=decide_eq_false hq3
    have HB3:Hid (blk t≤150∧blk u≤150∧blk (tS l)≤150):=⟨HB1.out,HB2.out,by omega⟩
    clear r1 r2 h
    go_wp2_with fail
    go_ret
    exact⟨false,rfl,(fun _=>HB3.out),bF3⟩
def OkQ (No:Nat→Prop) (w:World) (v:Value) (q:Nat):Prop:=q<w.heap.size∧some q≠v.ownBlock∧No q
def QOwn (base:Nat) (No:Nat→Prop) (w:World) (v:Value) (l:List (List C × List Tm)):Prop :=
 ∃ us:List (Value × Value),us.length=l.length∧w.ownsRow base 50 2 v l.length (flat2 us)∧(∀ k,v.ownBlock=some k→No k)∧∀ (j:Nat) (x:List C × List Tm) (u:Value × Value),l[j]? = some x→us[j]? = some u→ClRow (OkQ No w v) w x.1 u.1∧KdT (OkQ No w v) w (TmIn (OkQ No w v) w) x.2 u.2
theorem QOwn.nil (base:Nat) (No:Nat→Prop) (w:World):QOwn base No w (.slice none 0 0) []:=⟨[],rfl,World.ownsRow_nil _ _ _ _,fun k h=>(by cases h),fun j x u h=>by simp at h⟩
theorem QOwn.len {base:Nat} {No:Nat→Prop} {w:World} {v:Value} {l:List (List C × List Tm)} (h:QOwn base No w v l):∃ a c,v=.slice a l.length c:=by obtain⟨us,_,h2,_⟩:=h;exact owns_len h2
theorem QOwn.keep {base:Nat} {No No2:Nat→Prop} {w w':World} {v:Value} {l:List (List C × List Tm)} (h:QOwn base No w v l) (hk:Kn No2 w w') (hn:∀ q,No q→No2 q):QOwn base No w' v l:=by
 obtain⟨us,h1,h2,h3,h4⟩:=h
 have ho:∀ q,OkQ No w v q→OkQ No w' v q:=fun q hq=>⟨Nat.lt_of_lt_of_le hq.1 hk.size,hq.2⟩
 have hb:∀ q,OkQ No w v q→q<w.heap.size→w'.heap[q]? = w.heap[q]?:=fun q hq hs=>hk.block q (hn q hq.2.2) hs
 refine⟨us,h1,owns_keep h2 (fun k hk'=>hk.block k (hn k (h3 k hk')) (World.ownsRow.lt h2 k hk').2),h3,fun j x u hx hu=>⟨(h4 j x u hx hu).1.keep hk.size ho hb,(h4 j x u hx hu).2.all hk.size ho hb⟩⟩
theorem QOwn.row {base:Nat} {No:Nat→Prop} {w:World} {v:Value} {l:List (List C × List Tm)} (h:QOwn base No w v l):SyT No w (TmIn No w) l v:=by
 obtain⟨us,h1,h2,h3,h4⟩:=h
 rcases h2.2 with ⟨rfl,hz⟩|⟨g,cap,cur,rfl,hb,hh,hn,_,_,hc⟩
 ·obtain rfl:l=[]:=List.length_eq_zero_iff.1 hz
  exact sy_nil _ _ _
 ·refine⟨_,_,rfl,hn,fun j x hx=>?_⟩
  obtain⟨u,hu⟩:=someL (l:=us) (k:=j) (by have:=some_lt hx;omega)
  have hcell:=h2.cells (g:=g) rfl
  obtain⟨f0,f1⟩:=flat2_get us j u hu
  obtain⟨p1,p2⟩:=h4 j x u hx hu
  refine⟨g,0,u.1,u.2,rfl,h3 g rfl,(Array.getElem?_eq_some_iff.1 hh).1,p1.keep (Nat.le_refl _) (fun q hq=>hq.2.2) (fun _ _ _=>rfl),p2.all (Nat.le_refl _) (fun q hq=>hq.2.2) (fun _ _ _=>rfl),?_,?_⟩
  ·have:=hcell _ _ f0;rw [Addr.add_lit] at this;simpa using this
  ·have:=hcell _ _ f1;rw [Addr.add_lit] at this;simpa using this
theorem okq_grown {No:Nat→Prop} {W W':World} {v v':Value} (hg:W.grownBy W' v.ownBlock) (hv:v'.ownBlock=v.ownBlock∨v'.ownBlock=some W.heap.size) (q:Nat) (hq:OkQ No W v q):OkQ No W' v' q:=by
 refine⟨Nat.lt_of_lt_of_le hq.1 hg.size,?_,hq.2.2⟩
 rcases hv with h|h
 ·rw [h];exact hq.2.1
 ·rw [h];intro e;injection e with e;have:=hq.1;omega
theorem append_Q {base:Nat} {No:Nat→Prop} {W:World} {v:Value} {l:List (List C × List Tm)} {x:List C × List Tm} {u:Value × Value} (ty:TypeId) (hO:QOwn base No W v l) (ad:Addr) (c:Nat) (hc:∀ (j:Nat) (y:Value),(flat2 [u])[j]? = some y→W.cell? (ad.add j)=some y) (hx:ClRow (OkQ No W v) W x.1 u.1∧KdT (OkQ No W v) W (TmIn (OkQ No W v) W) x.2 u.2) (hn:l.length+1≤200000) (hb:base≤W.heap.size) (hN:No W.heap.size) :
  ∃ v' W',(Builtin.append_ #[24,24] ty #[v,.slice (some ad) 1 c]).run Tryz.prog W=.ok v' W'∧QOwn base No W' v' (l ++ [x])∧W.grownBy W' v.ownBlock∧(v'.ownBlock=v.ownBlock∨v'.ownBlock=some W.heap.size):=by
 obtain⟨i0,hi,hz0,hz1,hz2⟩:=info_parts infoB
 obtain⟨us,h1,h2,h3,h4⟩:=hO
 have hone:∀ y∈flat2 [u],y.oneCell'=true:=by
  obtain⟨⟨a1,c1,e1,_⟩,⟨a2,c2,e2,_⟩⟩:=hx
  intro y hy
  simp only [flat2,List.mem_cons,List.not_mem_nil,or_false] at hy
  rcases hy with rfl|rfl
  ·rw [e1];rfl
  ·rw [e2];rfl
 obtain⟨v',W',hrun,r1,r2,_,r4⟩:=run_append_own_at (P:=Tryz.prog) W base 24 ty 50 i0 _ 2 48 Tryz.underlying24 hi hz0 hz1 hz2 rfl (by decide) v l.length (flat2 us) h2 ad 1 c (flat2 [u]) (flat2_length _) hc hone (by unfold maxLen;omega) (by omega) hb
 refine⟨v',W',hrun,⟨us ++ [u],by simp [h1],by rw [List.length_append,flat2_append];exact r1,fun k hk=>?_,fun j y z hy hz=>?_⟩,r2,r4⟩
 ·rcases r4 with h|h
  ·rw [h] at hk;exact h3 k hk
  ·rw [h] at hk;injection hk with hk;rw [← hk];exact hN
 ·have hkeep:∀ (y:List C × List Tm) (z:Value × Value),ClRow (OkQ No W v) W y.1 z.1∧KdT (OkQ No W v) W (TmIn (OkQ No W v) W) y.2 z.2→ClRow (OkQ No W' v') W' y.1 z.1∧KdT (OkQ No W' v') W' (TmIn (OkQ No W' v') W') y.2 z.2:=fun y z h =>
   ⟨h.1.keep r2.size (okq_grown r2 r4) (fun q hq hs=>r2.block q hs hq.2.1),h.2.all r2.size (okq_grown r2 r4) (fun q hq hs=>r2.block q hs hq.2.1)⟩
  rcases Nat.lt_or_ge j l.length with hj|hj
  ·rw [List.getElem?_append_left hj] at hy
   rw [List.getElem?_append_left (by omega)] at hz
   exact hkeep _ _ (h4 j y z hy hz)
  ·rw [List.getElem?_append_right hj] at hy
   rw [List.getElem?_append_right (by omega),h1] at hz
   obtain⟨e1,e2⟩:x=y∧u=z:=by
    cases hd:j - l.length with
    | zero=>rw [hd] at hy hz;simp at hy hz;exact⟨hy,hz⟩
    | succ d=>rw [hd] at hy;simp at hy
   subst e1 e2
   exact hkeep _ _ hx
end Go.Proofs.YtmblbmdchinflaaGreat
