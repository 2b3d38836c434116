/- A region that draws its order, within a loop over a function: its first n operations read alone, those behind them come one after another. -/
import Derived.StillTail
import Derived.StillTactics
import Derived.OrdersIn
import Derived.TacticsIn
import Derived.OwnWalkIn
import Derived.RangeFuncCalls
import Derived.RangeFuncNested
import Derived.RangeFuncBound
import Derived.RangeFuncLeaves
import Derived.RangeFuncFrom
import Derived.RangeFuncBox
import Derived.TacticsInMore
import Derived.LoopNIn
import Derived.LoopIn
import Derived.Test.YtblbhmnahoiecaaGreatGG6
import Derived.StillTailTactics
import Derived.Test.YtblbhmnahoiecaaGreatGG8
set_option linter.unusedVariables false
set_option linter.unusedSimpArgs false
set_option maxRecDepth 100000
set_option maxHeartbeats 4000000
namespace Go.Proofs.YtblbhmnahoiecaaGreat
open Go.RowKit
section
variable {F:Fence} {m:Nat} {P:Program} {ops:Array Oper} {md:Region.Mode} {w:World}
def calmB (l:List Oper):Bool:=l.all fun o=>match o.op with | .defer _=>false | _=>true
theorem calm_op {l:List Oper} (h:calmB l=true) {i:Nat} {o:Oper} (hi:l.toArray[i]? = some o):∀ c,o.op≠.defer c:=fun c e=>by
 have h1:=List.all_eq_true.1 h o (List.mem_of_getElem? (by simpa using hi))
 rw [e] at h1;cases h1
theorem inOp_of_stOp (hF:∀ f,F.fn f) (hd:F.depth=none) (hB:∀ {f:FuncId} {args:Array Value} {w:World} {R:Ending→World→Prop},Calls P f args w R→CallsIn F (m - 1) P f args w R) (hc:∀ (i:Nat) (o:Oper),ops[i]? = some o→∀ c,o.op≠Op.defer c) {i:Nat} {a:Act} {K:Act→Prop} {K':Act→World→Prop} {Q:Exit→Act→World→Prop} (h:∀ a,K a→K' a w) (hh:stOp P ops w i K a):wpOpIn F m P ops Q i K' a w:=by
 unfold stOp at hh
 unfold wpOpIn
 split
 ·rename_i ho;simp only [ho] at hh;exact h _ hh
 ·rename_i o ho
  simp only [ho] at hh
  split
  ·rename_i hw
   simp only [hw,if_true] at hh
   refine⟨fun f _=>hF f,?_⟩
   rw [Oper.semAt_plain F _ o (hc i o ho)]
   unfold Oper.still at hh
   generalize (execOp a.eval o).run P w=r at *
   cases r with
   | ok x w' =>
    cases x <;> simp only [Oper.stillUpon] at hh <;> simp only [Oper.uponIn]
    case enter f args =>
     obtain⟨rfl,v,hcall,hn⟩:=hh
     exact⟨fun h=>(by rw [hd] at h;cases h),hB (hcall.mono fun e w'' he=>by obtain⟨rfl,rfl⟩:=he;exact h _ hn)⟩
    all_goals (obtain⟨rfl,h2⟩:=hh;exact h _ h2)
   | halt x w'=>simp only [Oper.stillUpon] at hh
  ·rename_i hw;simp only [hw] at hh;exact⟨fun f _=>hF f,h _ hh⟩
theorem inAny_of_head (hF:∀ f,F.fn f) (hd:F.depth=none) (hB:∀ {f:FuncId} {args:Array Value} {w:World} {R:Ending→World→Prop},Calls P f args w R→CallsIn F (m - 1) P f args w R) (hc:∀ (i:Nat) (o:Oper),ops[i]? = some o→∀ c,o.op≠Op.defer c) {n g:Nat} {L:Array Bool→Act→Prop} {Q:Exit→Act→World→Prop} (hL:∀ listed a,L listed a→wpAnyIn F m P md ops Q g listed a w) :
  ∀ (f:Nat) (listed:Array Bool) (a:Act),wpAnyL P md ops w n L f listed a→wpAnyIn F m P md ops Q (f+g) listed a w
 | 0,listed,a,h=>by rw [Nat.zero_add];exact hL _ _ h
 | f+1,listed,a,h=>by
  rw [show f+1+g=(f+g) + 1 by omega]
  exact⟨fun h0=>absurd h0 h.1,fun i hi=>inOp_of_stOp hF hd hB hc (fun a' h'=>inAny_of_head hF hd hB hc hL f _ a' h') (h.2 i hi).2⟩
theorem inAny_of_seq {Q:Exit→Act→World→Prop}:∀ (l:List Oper) (k:Nat) (listed:Array Bool) (a:Act) (w:World),(∀ j,l[j]? = ops[k+j]?) →
  Region.seqB md ops l.length k listed=true→wpListIn F m P ops Q l a w→wpAnyIn F m P md ops Q l.length listed a w
 | [],_,_,_,_,_,hB,h=>⟨by simpa [Region.seqB] using hB,h⟩
 | o :: l,k,listed,a,w,hl,hB,h=>by
  have h0:ops[k]? = some o:=by simpa using (hl 0).symm
  simp only [List.length_cons,Region.seqB,Bool.and_eq_true,decide_eq_true_eq] at hB
  refine⟨fun h1=>(by rw [hB.1] at h1;cases h1),fun i hi=>?_⟩
  rw [hB.1] at hi
  obtain rfl:i=k:=by simpa using hi
  have hw:wpOpIn F m P ops Q i (wpListIn F m P ops Q l) a w:=by unfold wpOpIn;simp only [h0];exact h
  exact wpOpIn_mono (fun a' w' h'=>inAny_of_seq l (i+1) _ a' w' (fun j=>by have:=hl (j+1);simpa [Nat.add_assoc,Nat.add_comm 1 j] using this) hB.2 h') hw
theorem in_region_tail (hF:∀ f,F.fn f) (hd:F.depth=none) (hB0:∀ {f:FuncId} {args:Array Value} {w:World} {R:Ending→World→Prop},Calls P f args w R→CallsIn F (m - 1) P f args w R) {id:Nat} {Q:Exit→Act→World→Prop} {a:Act} {l:List Oper} (n:Nat) (hm:P.follows .mixedOrders=true) (hB:Region.lexTailB .any l.toArray n=true) (hcalm:calmB l=true)
  (h:wpStill P l.toArray w.drew (fun a'=>wpListIn F m P l.toArray Q (l.drop n) a' w.drew) (l.take n) a):(Code.region id l.toArray true).wpIn F m P Q a w:=by
 simp only [Region.lexTailB,Bool.and_eq_true,decide_eq_true_eq] at hB
 obtain⟨⟨⟨⟨hsel,hn⟩,hs⟩,hc⟩,hlex⟩:=hB
 have hn':n<l.length:=by simpa using hn
 have htl:(l.take n).length=n:=by simp;omega
 have hdl:(l.drop n).length=l.toArray.size - n:=by simp
 have inv0:HeadInv .any l.toArray n (Array.replicate l.toArray.size false) :=
  ⟨by simp,fun j oj _ hl=>(by rw [getD_replicate_false] at hl;cases hl),fun t _ ht=>getD_in (by simpa using ht) (getD_replicate_false _ _)⟩
 have H:=wpAnyL_lex (md:=.any) (g:=l.toArray.size - n) hsel hs hc hn (l.take n) 0 _ a (fun j hj=>by
  have hj':j<n:=by rw [htl] at hj;exact hj
  simp [hj']) (by simpa using htl) inv0 (by rw [htl];exact hlex) h
 refine wpIn_region_any hm ?_
 have:=inAny_of_head (Q:=Q) hF hd hB0 (fun i o hi=>calm_op hcalm hi) (g:=l.toArray.size - n) (fun listed a' hL=>by
  have:=inAny_of_seq (md:=.any) (Q:=Q) (F:=F) (m:=m) (P:=P) (l.drop n) n listed a' w.drew (fun j=>by simp [List.getElem?_drop]) (by rw [hdl];exact hL.1) hL.2
  rwa [hdl] at this) _ _ _ H
 rw [htl,show n+(l.toArray.size - n)=l.toArray.size by omega] at this
 exact this
end
def IterC (n:Nat) (P:Program) (gf:Nat) (lb:Array Value) (A:Nat→Array Value→Prop) (m bx ab:Nat) (w:World):Prop :=
 ∀ (l:Nat) (J:Nat→World→Prop) (X:World→Prop) (W:World),Below w.heap.size w W →
  (∀ k W1 W2,J k W1→Kn (fun g=>g≠bx) W1 W2→J k W2) →
  (∀ k args W1,k<m→A k args→J k W1→YieldAt Fence.wide (n - 1) P l args W1 fun e W'=>(e=.returned (.bool true)∧J (k+1) W'∧Kn (fun g=>g≠ab) W1 W')∨(e=.returned (.bool false)∧X W')) →
  J 0 W→CallsIn Fence.wide n P gf (#[.func (.yield l) #[] #[]] ++ lb) W fun e W'=>(∃ v,e=.returned v)∧(J m W'∨X W')
def rndP (I:Nat→World→Prop) (X:World→Prop) (ab k:Nat) (W:World):Exit→Act→World→Prop
 | .normal,_,W'=>Kn (fun g=>g≠ab) W W'∧I (k+1) W'
 | .ret,_,W'=>Kn (fun g=>g≠ab) W W'∧X W'
 | _,_,_=>False
theorem kn_put {W:World} {l:Nat} (o:Obj):Kn (fun g=>g≠l) W (W.putObj l o) :=
 ⟨rfl,rfl,rfl,by simp,fun k hk _=>World.putObj_heap_other hk⟩
theorem range_own {P:Program} {g:Operand} {ps:Array Tmp} {assign body:Code} {Q:Exit→Act→World→Prop} {a:Act} {w:World} {n gf:Nat} {lb:Array Value}
  (h1:1≤n) (hg:a.eval g=.func (.func gf) #[] lb) (eg:∀ args w,(callFunc gf args).run P w=.ok (.enter gf args) w)
  (Ar:Nat→Array Value→Prop) (m bx ab:Nat) (hbx:bx<w.heap.size) (hab:ab<w.heap.size) (hseq:IterC (n - 1) P gf lb Ar m bx ab w) (hps:∀ k args,Ar k args→args.size=ps.size)
  (I:Nat→World→Prop) (X:World→Prop)
  (hI:∀ k W1 W2,I k W1→Kn (fun g=>g<w.heap.size∧g≠bx) W1 W2→I k W2) (hX:∀ W1 W2,X W1→Kn (fun g=>g<w.heap.size∧g≠bx) W1 W2→X W2) (h0:I 0 w)
  (hround:∀ (l k:Nat) (args:Array Value) (W:World),k<m→Ar k args→I k W→w.heap.size≤l→l<W.heap.size →
   assign.wpIn (Fence.wide.inRound l) (n - 1 - 1) P (Exit.then (fun a' W1=>Kn (fun g=>g≠ab) W W1∧∀ W2,Kn (fun g=>g≠l) W1 W2→body.wpIn (Fence.wide.inRound l) (n - 1 - 1) P (rndP I X ab k W2) a' W2) (fun _ _ _=>False))
    { tmps:=(ps.zip args).foldl (fun t (p,v)=>t.setIfInBounds p v) a.tmps,defers:=[] } W)
  (hdone:∀ (D:Nat) (W:World),w.heap.size≤D→I m W→W.heap[D]? = some (.deferred (some []))→Q .normal { a with defers:={ target:=.collected D,args:=#[] } :: a.defers } W)
  (hstop:∀ (D:Nat) (W:World),w.heap.size≤D→X W→W.heap[D]? = some (.deferred (some []))→Code.ret.wpIn Fence.wide n P Q { a with defers:={ target:=.collected D,args:=#[] } :: a.defers } W) :
  (Code.rangeFunc g ps assign body).wpIn Fence.wide n P Q a w:=by
 refine wpIn_rangeFunc fun fn hfn=>?_
 obtain⟨s,hs⟩:∃ s,s=w.heap.size:=⟨_,rfl⟩
 obtain⟨L,hL⟩:∃ L:LoopState→Option Code→Loop,L=fun st pe=>{ state:=st,pending:=pe,fn,tmps:=a.tmps,params:=ps,assign,body,defers:=s }:=⟨_,rfl⟩
 obtain⟨W1,hW1⟩:∃ W1,W1=(w.alloc (.deferred (some []))).alloc (.loop (L .ready none)):=⟨_,rfl⟩
 have b1:Below w.heap.size w W1:=by rw [hW1];exact bchain (belowA w _) (belowA _ _)
 have hd1:W1.heap[s]? = some (.deferred (some [])):=by
  rw [hW1,hs];exact (Below.heap_alloc _ _ _ (by simp)).trans (heapNew w _)
 have hl1:W1.heap[s+1]? = some (.loop (L .ready none)):=by
  rw [hW1,hs];have:=heapNew (w.alloc (.deferred (some []))) (.loop (L .ready none));rwa [World.size_alloc] at this
 have knI:∀ {No:Nat→Prop} {A B:World},Kn No A B→(∀ g,g<w.heap.size→g≠bx→No g)→Kn (fun g=>g<w.heap.size∧g≠bx) A B:=fun h k=>h.sub fun g hg=>k g hg.1 hg.2
 have putI:∀ (k:Nat) (A:World) (o:Obj),I k A→I k (A.putObj (s+1) o):=fun k A o h=>hI k A _ h (knI (kn_put o) fun g h1 _=>by omega)
 have putX:∀ (A:World) (o:Obj),X A→X (A.putObj (s+1) o):=fun A o h=>hX A _ h (knI (kn_put o) fun g h1 _=>by omega)
 refine⟨s+1,[{ target:=.collected s,args:=#[] }],W1,{ target:=.fn (.func gf) lb,args:=#[.func (.yield (s+1)) #[] #[]] },W1,gf,#[.func (.yield (s+1)) #[] #[]] ++ lb,W1,?_,?_,fun _ _=>trivial,?_,fun _=>h1,?_⟩
 ·rw [hW1,hL,hs];exact run_enterLoop_outer _ _ _ _ _
 ·simp only [resolve,hg];simp [go_sem]
 ·simp [invoke,go_sem,eg]
 ·refine (hseq (s+1) (fun k A=>I k A∧A.heap[s+1]? = some (.loop (L .ready none))∧A.heap[s]? = some (.deferred (some [])))
   (fun A=>X A∧A.heap[s+1]? = some (.loop (L .done (some .ret)))∧A.heap[s]? = some (.deferred (some []))) W1 b1 ?_ ?_ ⟨hI 0 w W1 h0 (Kn.of_below b1),hl1,hd1⟩).mono ?_
  ·rintro k A B ⟨a1,a2,a3⟩ hk
   exact⟨hI k A B a1 (knI hk fun g _ h=>h),(hk.block _ (by omega) (Array.getElem?_eq_some_iff.1 a2).1).trans a2,(hk.block _ (by omega) (Array.getElem?_eq_some_iff.1 a3).1).trans a3⟩
  ·rintro k args A hkm hA ⟨a1,a2,a3⟩
   have hy:=run_yield (P:=P) (args:=args) a2 (by rw [hL];exact hps k args hA)
   rw [hL] at hy
   refine⟨fn,_,assign,body,hy,roundIn_of_wpIn hfn (wpIn_mono (hround (s+1) k args A hkm hA a1 (by omega) (Array.getElem?_eq_some_iff.1 a2).1) ?_)⟩
   rintro e a' B hp
   cases e with
   | normal =>
    obtain⟨kB,hbody⟩:=hp
    have l2:=(kB.block (s+1) (by omega) (Array.getElem?_eq_some_iff.1 a2).1).trans a2
    have d2:=(kB.block s (by omega) (Array.getElem?_eq_some_iff.1 a3).1).trans a3
    refine⟨_,run_beginRound l2 (by rw [hL]),?_⟩
    obtain⟨B2,hB2⟩:∃ B2,B2=B.putObj (s+1) (.loop { L .ready none with state:=.busy }):=⟨_,rfl⟩
    rw [← hB2]
    have k2:Kn (fun g=>g≠s+1) B B2:=by rw [hB2];exact kn_put _
    have l3:B2.heap[s+1]? = some (.loop { L .ready none with state:=.busy }):=by rw [hB2];exact World.putObj_heap_same (Array.getElem?_eq_some_iff.1 l2).1
    have d3:=(k2.block s (by omega) (Array.getElem?_eq_some_iff.1 d2).1).trans d2
    refine wpIn_mono (hbody B2 k2) ?_
    have fin:∀ (jump:Option Code) (B3:World),Kn (fun g=>g≠ab) B2 B3→∃ B4,(Instr.endRound (s+1) jump).run P B3=.ok (.bool jump.isNone) B4∧B4=B3.putObj (s+1) (.loop (L (if jump.isNone then .ready else .done) jump))∧B4.heap[s+1]? = some (.loop (L (if jump.isNone then .ready else .done) jump))∧B4.heap[s]? = some (.deferred (some [])):=fun jump B3 k3=>by
     have l4:=(k3.block (s+1) (by omega) (Array.getElem?_eq_some_iff.1 l3).1).trans l3
     have d4:=(k3.block s (by omega) (Array.getElem?_eq_some_iff.1 d3).1).trans d3
     have hr:=run_endRound (P:=P) jump l4
     rw [hL] at hr ⊢
     exact⟨_,hr,rfl,World.putObj_heap_same (Array.getElem?_eq_some_iff.1 l4).1,((kn_put _).block s (by omega) (Array.getElem?_eq_some_iff.1 d4).1).trans d4⟩
    rintro e a3 B3 hp
    cases e with
    | normal =>
     obtain⟨k3,i3⟩:=hp
     obtain⟨B4,hr,e4,l5,d5⟩:=fin none B3 k3
     refine⟨_,B4,hr,.inl ⟨rfl,⟨?_,l5,d5⟩,?_⟩⟩
     ·rw [e4];exact putI _ _ _ i3
     ·-- the loop's own record is ready again, as it was
      have hback:B4.heap[s+1]? = A.heap[s+1]?:=by rw [l5,a2];rfl
      refine⟨?_,?_,?_,?_,fun q hq hqs=>?_⟩
      ·rw [e4];exact (k3.os.trans k2.os).trans kB.os
      ·rw [e4];exact (k3.tape.trans k2.tape).trans kB.tape
      ·rw [e4];exact (k3.output.trans k2.output).trans kB.output
      ·rw [e4];simpa using Nat.le_trans (Nat.le_trans kB.size k2.size) k3.size
      ·by_cases e:q=s+1
       ·rw [e];exact hback
       ·rw [e4]
        have q1:=Nat.lt_of_lt_of_le hqs kB.size
        have q2:=Nat.lt_of_lt_of_le q1 k2.size
        exact (World.putObj_heap_other e).trans ((k3.block q hq q2).trans ((k2.block q e q1).trans (kB.block q hq hqs)))
    | ret =>
     obtain⟨k3,i3⟩:=hp
     obtain⟨B4,hr,e4,l5,d5⟩:=fin (some .ret) B3 k3
     refine⟨_,B4,hr,.inr ⟨rfl,?_,l5,d5⟩⟩
     rw [e4];exact putX _ _ i3
    | exit id=>exact hp.elim
    | goto t=>exact hp.elim
    | panic ch=>exact hp.elim
    | outgrown=>exact hp.elim
   | ret=>exact hp.elim
   | exit id=>exact hp.elim
   | goto t=>exact hp.elim
   | panic ch=>exact hp.elim
   | outgrown=>exact hp.elim
  ·rintro e B ⟨⟨v,rfl⟩,(⟨i2,l2,d2⟩ | ⟨x2,l2,d2⟩)⟩
   ·have hr:=run_endLoop (P:=P) l2 (by rw [hL];simp)
    refine⟨none,B.putObj (s+1) (.loop { L .ready none with state:=.exhausted }),by rw [hL] at hr ⊢; exact hr,?_⟩
    exact hdone s _ (by omega) (putI _ _ _ i2) (((kn_put _).block s (by omega) (Array.getElem?_eq_some_iff.1 d2).1).trans d2)
   ·have hr:=run_endLoop (P:=P) l2 (by rw [hL];simp)
    refine⟨some .ret,B.putObj (s+1) (.loop { L .done (some .ret) with state:=.exhausted }),by rw [hL] at hr ⊢; exact hr,?_⟩
    exact hstop s _ (by omega) (putX _ _ x2) (((kn_put _).block s (by omega) (Array.getElem?_eq_some_iff.1 d2).1).trans d2)
attribute [local go_sem] Oper.semAt_some
theorem wrapId {z:Int} (h0 : -1000000000≤z) (h1:z≤1000000000):IntKind.i64.wrap z=z:=by
 simp [IntKind.wrap,IntKind.bits,IntKind.signed];omega
theorem flat_at {α β:Type} {l:List α} {f:α→List β} {j i:Nat} {b:α} {x:β} (hb:l[j]? = some b) (hx:(f b)[i]? = some x):(l.flatMap f)[((l.take j).flatMap f).length+i]? = some x:=by
 have e:l=l.take j++b :: l.drop (j+1):=by
  obtain⟨h1,h2⟩:=List.getElem?_eq_some_iff.1 hb
  rw [← h2,List.getElem_cons_drop,List.take_append_drop]
 have hi:=some_lt hx
 rw [show l.flatMap f=(l.take j).flatMap f++(f b++(l.drop (j+1)).flatMap f) by rw [← List.flatMap_cons,← List.flatMap_append,← e]]
 rw [List.getElem?_append_right (by omega),Nat.add_sub_cancel_left,List.getElem?_append_left hi]
 exact hx
theorem flat_step {α β:Type} {l:List α} {f:α→List β} {j:Nat} {b:α} (hb:l[j]? = some b):((l.take (j+1)).flatMap f).length=((l.take j).flatMap f).length+(f b).length:=by
 rw [List.take_add_one,hb];simp
def subs (t:Tm) (j:Nat):Nat:=((t.sys.take j).flatMap fun b=>b.2.map fun x=>(x,0,moreK t.kind)).length
theorem subs_step {t:Tm} {j:Nat} {b:List C × List Tm} (hb:t.sys[j]? = some b):subs t (j+1)=subs t j+b.2.length:=by
 unfold subs;rw [flat_step hb];simp
theorem pts_len (t:Tm):t.pts.length=t.kids.length+subs t t.sys.length:=by
 unfold Tm.pts ptsG subs;rw [List.length_append,List.take_of_length_le (Nat.le_refl _)];simp
theorem pts_at_kid {t:Tm} {i:Nat} {x:Tm} (h:t.kids[i]? = some x):t.pts[i]? = some (x,bvK t.kind i,bdK t.kind i):=by
 have hi:=some_lt h
 unfold Tm.pts ptsG
 rw [List.getElem?_append_left (by simpa using hi)]
 simp [h]
theorem pts_at_sub {t:Tm} {j i:Nat} {b:List C × List Tm} {x:Tm} (hb:t.sys[j]? = some b) (hx:b.2[i]? = some x):t.pts[t.kids.length+(subs t j+i)]? = some (x,0,moreK t.kind):=by
 unfold Tm.pts ptsG subs
 rw [List.getElem?_append_right (by simp)]
 simp only [List.length_map,List.length_zipIdx,Nat.add_sub_cancel_left]
 exact flat_at (f:=fun b:List C × List Tm=>b.2.map fun x=>(x,0,moreK t.kind)) hb (by simp [hx])
def PartA (ok:Nat→Prop) (w:World) (t:Tm) (bv bd k:Nat) (args:Array Value):Prop :=
 ∃ p g off ra rc ka kc sa sc,t.pts[k]? = some p∧args=#[.pointer (some ⟨g,off,none⟩),.agg #[.int .i64 ((bv+p.2.1:Nat):Int),.int .i64 ((bd+p.2.2:Nat):Int)]]∧ok g∧Cs6 w g off p.1 ra rc ka kc sa sc∧TmTop ok w p.1 ra rc ka kc sa sc
theorem parts_any (bv bd : Int) (p : Option Addr) (w : World) : Calls Tryz.prog 181 #[.agg #[.int .i64 bv, .int .i64 bd], .pointer p] w fun e w' =>
    e=.returned (.func (.func 229) #[] #[.pointer (some ⟨w.heap.size+1,0,none⟩),.pointer (some ⟨w.heap.size,0,none⟩)])∧w'=(w.alloc (.cells #[.int .i64 bv,.int .i64 bd] 144)).alloc (.cells #[.pointer p] 119):=by
  go_enter Tryz.func181,Tryz.ntmps181
  go_wp2
  go_ret
  exact⟨rfl,rfl⟩
theorem parts_iter (n : Nat) (hn : 1 ≤ n) (ok : Nat → Prop) (t : Tm) (bv bd bt bx ab g off : Nat) (ra : Option Addr) (rc : Nat) (ka : Option Addr) (kc : Nat) (sa : Option Addr) (sc : Nat) (w : World)
    (h6:Cs6 w g off t ra rc ka kc sa sc) (ht:TmTop ok w t ra rc ka kc sa sc) (hok:∀ q,ok q→q≠bx∧q≠ab) (hg:ok g) (hbt:w.heap[bt]? = some (.cells #[.pointer (some ⟨g,off,none⟩)] 119 (0,0)))
    (hbx:w.heap[bx]? = some (.cells #[.int .i64 (bv:Int),.int .i64 (bd:Int)] 144 (0,0))) (htx:bt≠bx) (hta:bt≠ab) (hxa:bx≠ab) (hab:ab<w.heap.size) (hb1:bv≤1000000) (hb2:bd≤1000000) (hsz:blk t≤1000000) :
    IterC n Tryz.prog 229 #[.pointer (some ⟨bt,0,none⟩),.pointer (some ⟨bx,0,none⟩)] (PartA ok w t bv bd) t.pts.length bx ab w:=fun l J X W hW hJ hY h0=>by
  obtain⟨hl1,hl2,hl3,hl4⟩:=blk_lens t
  obtain⟨L,hL⟩:∃ L,L=t.kids.length:=⟨_,rfl⟩
  have HL:Hid (L=t.kids.length):=hL
  have c4:=h6.c4
  have c5:=h6.c5
  have c0:=h6.c0
  rw [← hL] at c4
  have hLb:L≤1000000:=by omega
  clear hL
  have ctW:W.cell? ⟨bt,0,none⟩=some (.pointer (some ⟨g,off,none⟩)):=by
    have:=(hW.block bt (Array.getElem?_eq_some_iff.1 hbt).1).trans hbt
    unfold World.cell?; simp [this]
  refine callsIn_of_wp Tryz.func229 rfl trivial ?_ rfl
  simp only [Tryz.ntmps229,List.size_toArray,List.length_cons,List.length_nil,Nat.reduceAdd,Nat.reduceSub,Array.replicate_succ,Array.replicate_zero,List.push_toArray,List.append_toArray,List.nil_append,List.cons_append]
  have c4W:W.cell? ⟨g,off+4,none⟩=some (.slice ka L kc):=(hW.cell (p:=⟨g,off+4,none⟩) h6.lt).trans c4
  gi_wp2
  gi_loopw [15] (fun i wr=>∃ k:Nat,k≤L∧i=.int .i64 k∧J k wr∧Kn (fun q=>q≠ab) W wr) (fun i _=>L - (intOf i).toNat)
  case atStart=>exact⟨0,Nat.zero_le _,rfl,h0,Kn.refl _ _⟩
  case round =>
    obtain⟨k,hk,rfl,hJs,hKn⟩:=hrel
    by_cases hlt:k<L
    · obtain⟨x,hx⟩:=someL (l:=t.kids) (k:=k) (by rw [← HL.out];exact hlt)
      obtain⟨kg,koff,ra',rc',ka',kc',sa',sc',rfl,hkg,h6x,htx'⟩:=ht.kids.at hx
      have hp:=pts_at_kid hx
      have hA:PartA ok w t bv bd k #[.pointer (some ⟨kg,koff+k*6,none⟩),.agg #[.int .i64 ((bv+bvK t.kind k:Nat):Int),.int .i64 ((bd+bdK t.kind k:Nat):Int)]]:=⟨_,kg,koff+k*6,ra',rc',ka',kc',sa',sc',hp,rfl,hkg,h6x,htx'⟩
      obtain⟨fn,tmps,assign,body,hy,hR⟩:=hY k _ wr.drew (some_lt hp) hA (hJ k wr _ hJs (Kn.refl _ _).drew)
      have cg:=fun (q o:Nat) (v:Value) (hq:q≠ab) (hqs:q<w.heap.size) (e:w.cell? ⟨q,o,none⟩=some v)=>(hKn.cell (p:=⟨q,o,none⟩) hq (Nat.lt_of_lt_of_le hqs hW.size)).trans ((hW.cell (p:=⟨q,o,none⟩) hqs).trans e)
      have d4:=cg g (off+4) _ (hok g hg).2 h6.lt c4
      have d0:=cg g off _ (hok g hg).2 h6.lt c0
      have dt:=(hKn.cell (p:=⟨bt,0,none⟩) hta (Nat.lt_of_lt_of_le (Array.getElem?_eq_some_iff.1 hbt).1 hW.size)).trans ctW
      have hxl:=(Array.getElem?_eq_some_iff.1 hbx).1
      have x0:=cg bx 0 _ hxa hxl (by unfold World.cell?; simp [hbx];rfl)
      have x1:=cg bx 1 _ hxa hxl (by unfold World.cell?; simp [hbx];rfl)
      have v1:=bvK_le t.kind k
      have v2:=bdK_le t.kind k
      have cB:=bindsC_any t.kind (k:Int) wr
      rw [bvI_nat,bdI_nat] at cB
      obtain⟨y1,hy1⟩:∃ y,y=bvK t.kind k:=⟨_,rfl⟩
      obtain⟨y2,hy2⟩:∃ y,y=bdK t.kind k:=⟨_,rfl⟩
      rw [← hy1,← hy2] at hy cB
      simp only [Int.natCast_add] at hy
      rw [← hy1] at v1
      rw [← hy2] at v2
      clear hy1 hy2 cg hA hp h6x htx' hx ht
      have wr1:IntKind.i64.wrap ((bv:Int) + (y1:Int))=(bv:Int) + (y1:Int):=wrapId (by omega) (by omega)
      have wr2:IntKind.i64.wrap ((bd:Int) + (y2:Int))=(bd:Int) + (y2:Int):=wrapId (by omega) (by omega)
      gi_wp2_with (refine⟨trivial,?_⟩;gi_at_call 112;refine (callsIn_wide.2 cB).mono ?_;rintro e w' ⟨rfl,rfl⟩)
      refine in_region_tail (fun _=>trivial) rfl (fun h=>callsIn_wide.2 h) 16 (by kernel_rfl) (by kernel_rfl) (by kernel_rfl) ?_
      simp only [List.take_succ_cons,List.take_zero,List.drop_succ_cons,List.drop_zero]
      repeat still_step
      refine wpStill_nil ?_
      gi_wp2
      refine hR.mono ?_
      rintro e W3 (⟨rfl,hJ3,hk3⟩ | ⟨rfl,hJx3⟩)
      · gi_wp2
        go_roundw
        case rel=>exact⟨k+1,by omega,by go_num,hJ3,hKn.trans ((Kn.refl _ _).drew.trans hk3)⟩
        case measure=>simp [intOf];omega
      · gi_wp2
        refine bodyPost_ret (results_none rfl _ _ _) rfl ?_
        exact⟨⟨_,rfl⟩,.inr hJx3⟩
    · obtain rfl:k=L:=by omega
      clear hlt
      have hsl:bx<w.heap.size:=(Array.getElem?_eq_some_iff.1 hbx).1
      have hsW:=hW.size
      have cg:=fun (q o:Nat) (v:Value) (hq:q≠ab) (hqs:q<w.heap.size) (e:w.cell? ⟨q,o,none⟩=some v)=>(hKn.cell (p:=⟨q,o,none⟩) hq (Nat.lt_of_lt_of_le hqs hW.size)).trans ((hW.cell (p:=⟨q,o,none⟩) hqs).trans e)
      have d0:=cg g off _ (hok g hg).2 h6.lt c0
      have d5:=cg g (off+5) _ (hok g hg).2 h6.lt c5
      have dt:=(hKn.cell (p:=⟨bt,0,none⟩) hta (Nat.lt_of_lt_of_le (Array.getElem?_eq_some_iff.1 hbt).1 hW.size)).trans ctW
      have x0:=cg bx 0 _ hxa hsl (by unfold World.cell?; simp [hbx];rfl)
      have x1:=cg bx 1 _ hxa hsl (by unfold World.cell?; simp [hbx];rfl)
      have xf:wr.frozen? ⟨bx,1,none⟩=false:=(hKn.frozen (p:=⟨bx,1,none⟩) hxa (by show bx<_;omega)).trans ((hW.frozen (p:=⟨bx,1,none⟩) hsl).trans (by unfold World.frozen?; simp [hbx]))
      obtain⟨S,hS⟩:∃ S,S=t.sys.length:=⟨_,rfl⟩
      rw [← hS] at d5 hl4
      have HS:Hid (S=t.sys.length):=hS
      clear hS
      have hmk:=moreK_le t.kind
      obtain⟨M,hM⟩:∃ M,M=moreK t.kind:=⟨_,rfl⟩
      have HM:Hid (M=moreK t.kind):=hM
      have key:∃ W4,(t.kind=15→W4=wr.setCell ⟨bx,1,none⟩ (.int .i64 ((bd:Int) + 1)))∧(¬ t.kind=15→W4=wr)∧Kn (fun q=>q≠bx) wr W4∧W4.cell? ⟨bx,0,none⟩=some (.int .i64 (bv:Int))∧W4.cell? ⟨bx,1,none⟩=some (.int .i64 ((bd:Int) + (M:Int))):=by
        by_cases e15:t.kind=15
        · refine⟨_,fun _=>rfl,fun h=>absurd e15 h,(Kn.refl _ _).setCell (p:=⟨bx,1,none⟩) (.inl fun h=>h rfl) _,?_,?_⟩
          · rw [World.cell?_setCell_other _ _ _ _ (by simp)];exact x0
          · rw [World.cell?_setCell_same' _ _ _ (by rw [x1];rfl),hM];unfold moreK;rw [if_pos e15];rfl
        · refine⟨_,fun h=>absurd h e15,fun _=>rfl,Kn.refl _ _,x0,?_⟩
          rw [x1,hM];unfold moreK;rw [if_neg e15];simp
      obtain⟨W4,k1,k2,k3,z0,z1⟩:=key
      have hJ4:=hJ _ _ _ hJs k3
      have hK4:Kn (fun q=>q≠ab∧q≠bx) W W4:=(hKn.sub fun q h=>h.1).trans (k3.sub fun q h=>h.2)
      have e5:=(k3.cell (p:=⟨g,off+5,none⟩) (hok g hg).1 (by show g<_;have:=h6.lt;have:=hKn.size;omega)).trans d5
      have et:=(k3.cell (p:=⟨bt,0,none⟩) htx (by show bt<_;have:=(Array.getElem?_eq_some_iff.1 hbt).1;have:=hKn.size;omega)).trans dt
      have HW4:Hid ((t.kind=15→W4=wr.setCell ⟨bx,1,none⟩ (.int .i64 ((bd:Int) + 1)))∧(¬ t.kind=15→W4=wr)):=⟨k1,k2⟩
      clear hM k1 k2 cg k3
      by_cases e15:t.kind=15
      all_goals
        first
          | (have e4 := HW4.out.1 e15
             have H4:Hid (_=_):=e4
             clear e4
             rw [e15] at d0
             gi_wp2
             rw [← H4.out]
             clear H4)
          | (have e4 := HW4.out.2 e15
             subst e4
             gi_wp2)
        clear HW4
        gi_loopw [60] (fun i wq=>∃ j:Nat,j≤S∧i=.int .i64 j∧J (k+subs t j) wq∧Kn (fun q=>q≠ab∧q≠bx) W wq∧wq.cell? ⟨bx,0,none⟩=some (.int .i64 (bv:Int))∧wq.cell? ⟨bx,1,none⟩=some (.int .i64 ((bd:Int) + (M:Int)))) (fun i _=>S - (intOf i).toNat)
        case atStart=>exact⟨0,Nat.zero_le _,rfl,hJ4,hK4,z0,z1⟩
        case round =>
          obtain⟨wo,hwo⟩:∃ wo,wo=wr:=⟨_,rfl⟩
          subst hwo
          clear hKn hJs hJ4 hK4 z0 z1 e5 et d0 d5 dt x0 x1 xf
          obtain⟨j,hj,rfl,hJj,hKj,z0,z1⟩:=hrel
          by_cases hlt:j<S
          · obtain⟨b,hb⟩:=someL (l:=t.sys) (k:=j) (by rw [← HS.out];exact hlt)
            obtain⟨sg,soff,fa,fc,ka2,kc2,rfl,hsg,h2,hcl,hkd⟩:=ht.sys.at hb
            have hbl:=blk_br (List.mem_of_getElem? hb)
            have hbl2:=blkL_len b.2
            have q0:=(hKj.cell (p:=⟨sg,soff+j*2,none⟩) ⟨(hok sg hsg).2,(hok sg hsg).1⟩ (Nat.lt_of_lt_of_le h2.lt hW.size)).trans ((hW.cell (p:=⟨sg,soff+j*2,none⟩) h2.lt).trans h2.c0)
            have q1:=(hKj.cell (p:=⟨sg,soff+j*2+1,none⟩) ⟨(hok sg hsg).2,(hok sg hsg).1⟩ (Nat.lt_of_lt_of_le h2.lt hW.size)).trans ((hW.cell (p:=⟨sg,soff+j*2+1,none⟩) h2.lt).trans h2.c1)
            obtain⟨w5,hw5⟩:∃ w5,w5=wo.alloc (.cells #[.slice fa b.1.length fc,.slice ka2 b.2.length kc2] 40):=⟨_,rfl⟩
            have b5:Below wo.heap.size wo w5:=by rw [hw5];exact belowA _ _
            have n5:w5.heap[wo.heap.size]? = some (.cells #[.slice fa b.1.length fc,.slice ka2 b.2.length kc2] 40 (0,0)):=by rw [hw5];exact heapNew _ _
            have s5:wo.heap.size<w5.heap.size:=by rw [hw5];simp
            have H5:Hid (_=_):=hw5
            clear hw5
            obtain⟨Lb,hLb2⟩:∃ Lb,Lb=b.2.length:=⟨_,rfl⟩
            have HB:Hid (Lb=b.2.length):=hLb2
            rw [← hLb2] at n5 H5 q1 hbl2
            clear hLb2
            have hLB:Lb≤1000000:=by omega
            have hso:w.heap.size≤wo.heap.size:=Nat.le_trans hW.size hKj.size
            have hJ5:=hJ _ _ _ hJj (Kn.of_below b5)
            have hK5:=hKj.trans (Kn.of_below b5)
            have z0':=(b5.cell (p:=⟨bx,0,none⟩) (by show bx<_;omega)).trans z0
            have z1':=(b5.cell (p:=⟨bx,1,none⟩) (by show bx<_;omega)).trans z1
            have v5:w5.cell? ⟨wo.heap.size,1,none⟩=some (.slice ka2 Lb kc2):=by unfold World.cell?; simp [n5]
            gi_wp2
            rw [← H5.out]
            clear H5
            gi_wp2
            gi_loopw [67] (fun i wq=>∃ i':Nat,i'≤Lb∧i=.int .i64 i'∧J (k+(subs t j+i')) wq∧Kn (fun q=>q≠ab∧q≠bx) W wq∧Kn (fun q=>q≠ab) w5 wq∧wq.cell? ⟨bx,0,none⟩=some (.int .i64 (bv:Int))∧wq.cell? ⟨bx,1,none⟩=some (.int .i64 ((bd:Int) + (M:Int)))) (fun i _=>Lb - (intOf i).toNat)
            case atStart=>exact⟨0,Nat.zero_le _,rfl,hJ5,hK5,Kn.refl _ _,z0',z1'⟩
            case round =>
              obtain⟨wi,hwi⟩:∃ wi,wi=wr:=⟨_,rfl⟩
              subst hwi
              clear z0 z1 z0' z1' q0 q1
              obtain⟨i',hi',rfl,hJi,hKi,hK5i,z0,z1⟩:=hrel
              have v5i:=(hK5i.cell (p:=⟨wo.heap.size,1,none⟩) (by show wo.heap.size≠ab;omega) (by show wo.heap.size<_;omega)).trans v5
              by_cases hlti:i' < Lb
              · obtain⟨x,hx⟩:=someL (l:=b.2) (k:=i') (by rw [← HB.out];exact hlti)
                obtain⟨kg,koff,ra',rc',ka',kc',sa',sc',rfl,hkg,h6x,htx'⟩:=hkd.at hx
                have hp:=pts_at_sub hb hx
                rw [← HL.out,← HM.out] at hp
                have hA:PartA ok w t bv bd (k+(subs t j+i')) #[.pointer (some ⟨kg,koff+i' * 6,none⟩),.agg #[.int .i64 ((bv+0:Nat):Int),.int .i64 ((bd+M:Nat):Int)]]:=⟨_,kg,koff+i' * 6,ra',rc',ka',kc',sa',sc',hp,rfl,hkg,h6x,htx'⟩
                obtain⟨fn,tmps,assign,body,hy,hR⟩:=hY _ _ wi.drew (some_lt hp) hA (hJ _ wi _ hJi (Kn.refl _ _).drew)
                simp only [Int.natCast_add,Nat.add_zero] at hy
                clear hA hp h6x htx' hx
                gi_wp2
                refine in_region_tail (fun _=>trivial) rfl (fun h=>callsIn_wide.2 h) 6 (by kernel_rfl) (by kernel_rfl) (by kernel_rfl) ?_
                simp only [List.take_succ_cons,List.take_zero,List.drop_succ_cons,List.drop_zero]
                repeat still_step
                refine wpStill_nil ?_
                gi_wp2
                refine hR.mono ?_
                rintro e W3 (⟨rfl,hJ3,hk3⟩ | ⟨rfl,hJx3⟩)
                · have hsi:bx<wi.heap.size:=by have:=hKi.size;omega
                  have y0:=(hk3.cell (p:=⟨bx,0,none⟩) hxa hsi).trans z0
                  have y1:=(hk3.cell (p:=⟨bx,1,none⟩) hxa hsi).trans z1
                  gi_wp2
                  go_roundw
                  case rel=>exact⟨i' + 1,by omega,by go_num,hJ3,hKi.trans ((Kn.refl _ _).drew.trans (hk3.sub fun q h=>h.1)),hK5i.trans ((Kn.refl _ _).drew.trans hk3),y0,y1⟩
                  case measure=>simp [intOf];omega
                · gi_wp2
                  refine bodyPost_ret (results_none rfl _ _ _) rfl ?_
                  exact⟨⟨_,rfl⟩,.inr hJx3⟩
              · obtain rfl:i'=Lb:=by omega
                have hst:=subs_step hb
                rw [← HB.out] at hst
                gi_wp2
                go_roundw
                case rel=>exact⟨j+1,by omega,by go_num,by rw [hst];exact hJi,hKi,z0,z1⟩
                case measure=>simp [intOf];omega
          · obtain rfl:j=S:=by omega
            gi_wp2
            go_end0
            refine⟨⟨_,rfl⟩,.inl ?_⟩
            rw [pts_len,← HL.out,← HS.out]
            exact hJj
end Go.Proofs.YtblbhmnahoiecaaGreat
