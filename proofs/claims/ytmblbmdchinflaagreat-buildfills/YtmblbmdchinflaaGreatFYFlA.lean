/- A filler: what it is made of; regions that grow a row and draw their order. -/
import Derived.Test.YtmblbmdchinflaaGreatFG32
import Derived.Test.YtmblbmdchinflaaGreatFG34
import Derived.Test.YtmblbmdchinflaaGreatFG35
import Derived.Test.YtmblbmdchinflaaGreatEG12
import Derived.Test.YtmblbmdchinflaaGreatEG20
set_option linter.unusedVariables false
set_option linter.unusedSimpArgs false
namespace Go.Proofs.YtmblbmdchinflaaGreat
open Go.RowKit
def flB (b:List C × List Tm):List C × List Tm:=((liftFF b.1 0 1).1,b.2.map (lineT [e2 0 1]))
def flS (a:Tm) (sys:List (List C × List Tm)):List (List C × List Tm):=sys.map flB ++ [([negB 0],[bothT 0 2 a])]
def flG (f:Int) (l:List (List C × List Tm)):Int:=l.foldl (fun f b=>lineE (fstE f (liftFF b.1 0 1).2) [e2 0 1] (b.2.headD noT)) f
def flT (t a:Tm) (sys:List (List C × List Tm)):Tm:=.mk 15 0 ⟨#[]⟩ [] [bothT 0 1 t,bothT 0 1 a] (flS a sys)
def flF (t a:Tm) (sys:List (List C × List Tm)):Int:=fstE (flG (fstE (fstE 0 (bothE 0 1 t)) (bothE 0 1 a)) sys) (bothE 0 2 a)
def fillE (t a:Tm) (sys:List (List C × List Tm)):Int:=if wrE [t,a,hcT sys]=0 then doneE (flF t a sys) (flT t a sys) else wrE [t,a,hcT sys]
def fillT (t a:Tm) (sys:List (List C × List Tm)):Tm:=if wrE [t,a,hcT sys]=0 then doneT (flF t a sys) (flT t a sys) else zeroT
theorem cell2 {w:World} {bk:Nat} {x y:Value} {ty:TypeId} (h:w.heap[bk]? = some (.cells #[x,y] ty (0,0))):∀ (j:Nat) (z:Value),(flat2 [(x,y)])[j]? = some z→w.cell? ((⟨bk,0,none⟩:Addr).add j)=some z:=fun j z hj=>by
 match j,hj with
 | 0,hj=>simp [flat2] at hj;subst hj;simp [World.cell?,Addr.add,h]
 | 1,hj=>simp [flat2] at hj;subst hj;simp [World.cell?,Addr.add,h]
 | (j+2),hj=>simp [flat2] at hj
theorem Kn.grown {w w':World} {r:Option Nat} (hg:w.grownBy w' r):Kn (fun q=>some q≠r) w w':=⟨hg.os,hg.tape,hg.output,hg.size,fun k hk hs=>hg.block k hs hk⟩
theorem hc_eq (sys:List (List C × List Tm)):blk (hcT sys)=3+blkS sys:=by
 rw [blk_eq]
 have h1:blkL [wU,wU]=2:=by decide +kernel
 show 1+0+0+blkL [wU,wU] + blkS sys=3+blkS sys
 omega
theorem ts_eq (sys:List (List C × List Tm)):blk (tS sys)=1+blkS sys:=by
 rw [blk_eq]
 unfold tS
 simp [blkL]
 rfl
theorem flb_blk:∀ (sys:List (List C × List Tm)),blkS (sys.map flB)≤65*blkS sys
 | []=>by simp [blkS]
 | b :: l=>by
  have h1:=flb_blk l
  have h2:=liftFF_len b.1 0 1
  have h3:∀ ks:List Tm,blkL (ks.map (lineT [e2 0 1]))≤65*blkL ks:=fun ks=>by
   induction ks with
   | nil=>simp [blkL]
   | cons x ks ih =>
    have:=line_blk (r:=[e2 0 1]) (t:=x)
    unfold blkL at ih ⊢
    simp only [List.map_cons,List.sum_cons]
    omega
  have h4:=h3 b.2
  unfold blkS at h1 ⊢
  simp only [List.map_cons,List.sum_cons]
  show 1+(liftFF b.1 0 1).1.length+blkL (b.2.map (lineT [e2 0 1])) + _≤_
  omega
theorem sys_len:∀ (sys:List (List C × List Tm)),sys.length≤blkS sys
 | []=>by simp [blkS]
 | b :: l=>by
  have h:=sys_len l
  unfold blkS at h ⊢
  simp only [List.map_cons,List.sum_cons,List.length_cons]
  omega
theorem blkS_app (l m:List (List C × List Tm)):blkS (l++m)=blkS l+blkS m:=by unfold blkS;simp
theorem fl_blk {t a:Tm} {sys:List (List C × List Tm)} (h1:blk t≤150) (h2:blk a≤150) (h3:blk (tS sys)≤150):blk (flT t a sys)≤20000:=by
 have q1:=both_blk (vs:=0) (ds:=1) (t:=t)
 have q2:=both_blk (vs:=0) (ds:=1) (t:=a)
 have q3:=both_blk (vs:=0) (ds:=2) (t:=a)
 have q4:=flb_blk sys
 rw [ts_eq] at h3
 rw [blk_eq]
 unfold flT flS
 rw [blkS_app]
 simp [blkL]
 have q5:blkS [([negB 0],[bothT 0 2 a])]=2+blk (bothT 0 2 a):=by simp [blkS,blkL]
 rw [q5]
 have h6:ByteArray.size ⟨#[]⟩=0:=rfl
 omega
theorem one_kid {t a:Tm} {sys:List (List C × List Tm)} (h:wrE [t,a,hcT sys]=0):∀ b∈sys,∃ u,b.2=[u]:=by
 have h2:=(firstE_zero.1 (show firstE ([t,a,hcT sys].map wrN)=0 from h)) (wrN (hcT sys)) (by simp)
 unfold wrN at h2
 have h3:wrongN true 0 0 (hcT sys)=0:=by omega
 have h4:okT true 0 0 (hcT sys) 0 0=true:=by
  unfold wrongN at h3
  split at h3
  ·omega
  ·split at h3
   ·assumption
   ·omega
 intro b hb
 rw [ok_eq,Bool.and_eq_true] at h4
 have h5:=h4.1
 unfold Tm.node nodeB at h5
 simp only [Bool.and_eq_true] at h5
 have h6:=(List.all_eq_true.1 h5.2) (b.1,b.2.length) (List.mem_map.2 ⟨b,hb,rfl⟩)
 unfold brB at h6
 simp only [Bool.and_eq_true,decide_eq_true_eq] at h6
 have h7:((b.2.length:Nat):Int)=partsK 15:=h6.1.1.2
 have h8:b.2.length=1:=by have:partsK 15=1:=rfl;omega
 exact List.length_eq_one_iff.1 h8
theorem flG_step {f:Int} {sys:List (List C × List Tm)} {k:Nat} {b:List C × List Tm} {u:Tm} (h:sys[k]? = some b) (hu:b.2=[u]):flG f (sys.take (k+1))=lineE (fstE (flG f (sys.take k)) (liftFF b.1 0 1).2) [e2 0 1] u:=by
 have e:sys.take (k+1)=sys.take k ++ [b]:=by
  rw [List.take_add_one,h];rfl
 rw [e]
 unfold flG
 rw [List.foldl_append]
 simp [hu]
def er3 (f f1 f2:Int) (n:Nat):Int:=if n=0 then f else if n=1 then f1 else f2
def KKq (g:Nat) (va:Value) (q:Nat):Prop:=q≠g∧some q≠va.ownBlock
structure BaF (i4 i16 i19 g B0:Nat) (No:Nat→Prop) (f f1 f2:Int) (va:Value) (rows:List (List C × List Tm)) (x:List C × List Tm) (w6:World) (l:Array Bool) (G:Nat × Option Value) (w:World):Prop where
 mm:Mk w g (er3 f f1 f2 G.1)
 kn:Kn (KKq g va) w6 w
 s0:l.getD i4 true=false→G.1=0
 s1:l.getD i16 true=false→G.1≤1
 s2:l.getD i19 true=false→G.2=none
 q0:G.2=none→QOwn B0 No w va rows
 q1:∀ v',G.2=some v'→QOwn B0 No w v' (rows ++ [x])
def ChF (g:Nat) (va:Value) (G:Nat × Option Value) (w:World) (G':Nat × Option Value) (w':World):Prop:=Kn (KKq g va) w w'∧G.1≤G'.1∧(∀ v',G.2=some v'→G'.2=some v')
theorem getDf_true {l:Array Bool} {i k:Nat} (h:(l.setIfInBounds i true).getD k true=false):l.getD k true=false:=by
 by_cases e:k=i
 ·subst e
  unfold Array.getD at h ⊢
  by_cases q:k<l.size
  ·rw [dif_pos (by simpa using q)] at h;simp at h
  ·rw [dif_neg (by simpa using q)] at h;cases h
 ·by_cases q:i<l.size
  ·rw [getD_set q,if_neg e] at h;exact h
  ·unfold Array.getD at h ⊢
   rw [Array.setIfInBounds,dif_neg q] at h;exact h
theorem baf_call {i4 i16 i19 g B0:Nat} {No:Nat→Prop} {f f1 f2:Int} {va:Value} {rows:List (List C × List Tm)} {x:List C × List Tm} {w6:World} {l:Array Bool} {G:Nat × Option Value} {w w':World} (h:BaF i4 i16 i19 g B0 No f f1 f2 va rows x w6 l G w) (hN:∀ q,No q→q≠g) (i:Nat) (hk:Kn (Ng g) w w') (hM:Mk w' g (er3 f f1 f2 G.1)):BaF i4 i16 i19 g B0 No f f1 f2 va rows x w6 (l.setIfInBounds i true) G w' :=
 ⟨hM,h.kn.trans (hk.sub fun q hq=>hq.1),fun e=>h.s0 (getDf_true e),fun e=>h.s1 (getDf_true e),fun e=>h.s2 (getDf_true e),fun e=>(h.q0 e).keep hk hN,fun v' e=>(h.q1 v' e).keep hk hN⟩
theorem baf_pure {i4 i16 i19 g B0:Nat} {No:Nat→Prop} {f f1 f2:Int} {va:Value} {rows:List (List C × List Tm)} {x:List C × List Tm} {w6:World} {l:Array Bool} {G:Nat × Option Value} {w:World} (h:BaF i4 i16 i19 g B0 No f f1 f2 va rows x w6 l G w) (i:Nat):BaF i4 i16 i19 g B0 No f f1 f2 va rows x w6 (l.setIfInBounds i true) G w :=
 ⟨h.mm,h.kn,fun e=>h.s0 (getDf_true e),fun e=>h.s1 (getDf_true e),fun e=>h.s2 (getDf_true e),h.q0,h.q1⟩
theorem baf_step {i4 i16 i19 g B0:Nat} {No:Nat→Prop} {f f1 f2:Int} {va:Value} {rows:List (List C × List Tm)} {x:List C × List Tm} {w6:World} {l:Array Bool} {G:Nat × Option Value} {w w':World} (h:BaF i4 i16 i19 g B0 No f f1 f2 va rows x w6 l G w) (hN:∀ q,No q→q≠g) (i n:Nat) (hil:i<l.size) (hk:Kn (Ng g) w w') (hM:Mk w' g (er3 f f1 f2 n)) (h0:i=i4∨(i=i16∧l.getD i4 true≠false)) (h1:n≤1∨i=i16):BaF i4 i16 i19 g B0 No f f1 f2 va rows x w6 (l.setIfInBounds i true) (n,G.2) w' :=
 have t0:(l.setIfInBounds i true).getD i4 true=false→n=0:=fun e=>by
  rcases h0 with q|⟨q,q2⟩
  ·rw [← q,getD_set (by omega),if_pos rfl] at e
   exact absurd e (by decide)
  ·exact absurd (getDf_true e) q2
 have t1:(l.setIfInBounds i true).getD i16 true=false→n≤1:=fun e=>by
  rcases h1 with q|q
  ·exact q
  ·rw [← q,getD_set (by omega),if_pos rfl] at e
   exact absurd e (by decide)
 ⟨hM,h.kn.trans (hk.sub fun q hq=>hq.1),t0,t1,fun e=>h.s2 (getDf_true e),fun e=>(h.q0 e).keep hk hN,fun v' e=>(h.q1 v' e).keep hk hN⟩
theorem chf_call {g:Nat} {va:Value} {G:Nat × Option Value} {w w':World} (hk:Kn (Ng g) w w'):ChF g va G w G w':=⟨hk.sub fun q hq=>hq.1,Nat.le_refl _,fun _ e=>e⟩
theorem chf_step {g n:Nat} {va:Value} {G:Nat × Option Value} {w w':World} (hk:Kn (Ng g) w w') (hn:G.1≤n):ChF g va G w (n,G.2) w':=⟨hk.sub fun q hq=>hq.1,hn,fun _ e=>e⟩
theorem oper_append {o:Oper} {a:Act} {w:World} {K:Act→World→Prop} {Q:Exit→Act→World→Prop} (s x:Operand) (ty:TypeId)
  (ho:o.op=.call { callee:=.builtin .append,args:=#[s,x],argTypes:=#[ty,ty] }) (v sv v':Value) (w':World) (hs:a.eval s=v) (hx:a.eval x=sv) (hrun:(Builtin.append_ #[ty,ty] o.type #[v,sv]).run Tryz.prog w=.ok v' w') (h:K (a.put o.dst v') w'):Oper.wp Tryz.prog o a w K Q:=by
 unfold Oper.wp
 simp [execOp,ho,resolve,invoke,builtin,hs,hx,hrun,Result.andThen]
 exact h
def OkL (lo q:Nat):Prop:=lo≤q
theorem tm_cf {g lo:Nat} {va:Value} {G G':Nat × Option Value} {w w':World} {t:Tm} {v:Value} (h:TmIn (OkL lo) w t v) (c:ChF g va G w G' w') (hg:g<lo) (hv:∀ k,va.ownBlock=some k→k<lo):TmIn (OkL lo) w' t v :=
 h.kn c.1 fun q hq=>⟨by have:lo≤q:=hq;omega,fun e=>by have:=hv q e.symm;have:lo≤q:=hq;omega⟩
theorem kd_cf {g lo:Nat} {va:Value} {G G':Nat × Option Value} {w w':World} {t:List Tm} {v:Value} (h:KdT (OkL lo) w (TmIn (OkL lo) w) t v) (c:ChF g va G w G' w') (hg:g<lo) (hv:∀ k,va.ownBlock=some k→k<lo):KdT (OkL lo) w' (TmIn (OkL lo) w') t v :=
 h.kn c.1 fun q hq=>⟨by have:lo≤q:=hq;omega,fun e=>by have:=hv q e.symm;have:lo≤q:=hq;omega⟩
theorem cl_cf {g lo:Nat} {va:Value} {G G':Nat × Option Value} {w w':World} {t:List C} {v:Value} (h:ClRow (OkL lo) w t v) (c:ChF g va G w G' w') (hg:g<lo) (hv:∀ k,va.ownBlock=some k→k<lo):ClRow (OkL lo) w' t v :=
 h.keep c.1.size (fun q hq=>hq) (fun q hq hs=>c.1.block q ⟨by have:lo≤q:=hq;omega,fun e=>by have:=hv q e.symm;have:lo≤q:=hq;omega⟩ hs)
theorem bk_cf {g lo bk:Nat} {va:Value} {G G':Nat × Option Value} {w w':World} {ob:Obj} (h:w.heap[bk]? = some ob) (c:ChF g va G w G' w') (hg:g<lo) (hv:∀ k,va.ownBlock=some k→k<lo) (hb:lo≤bk):w'.heap[bk]? = some ob :=
 (c.1.block bk ⟨by omega,fun e=>by have:=hv bk e.symm;omega⟩ (Array.getElem?_eq_some_iff.1 h).1).trans h
end Go.Proofs.YtmblbmdchinflaaGreat
