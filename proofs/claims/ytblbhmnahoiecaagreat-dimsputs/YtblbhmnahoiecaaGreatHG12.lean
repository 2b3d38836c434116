/- A part of the proof. -/
import Derived.Test.YtblbhmnahoiecaaGreatHG7
import Derived.StillTail
import Derived.Great.Walk
import Derived.Deep.WholeRow
set_option linter.unusedVariables false
set_option linter.unusedSimpArgs false
set_option maxRecDepth 100000
set_option maxHeartbeats 2000000
namespace Go.Proofs.YtblbhmnahoiecaaGreat
open Go.RowKit
theorem toList_eq {a b:ByteArray} (h:a.toList=b.toList):a=b:=by
 rw [Lib.toList_data,Lib.toList_data] at h
 obtain⟨⟨x⟩⟩:=a
 obtain⟨⟨y⟩⟩:=b
 simp at h;rw [h]
theorem strNe {a b:ByteArray} (h:¬ a=b):(a.toList == b.toList)=false:=by
 rw [Bool.eq_false_iff];intro e;exact h (toList_eq (eq_of_beq e))
theorem copy_N (N:Nat) (hN:N<=100000):CpC N:=by
 induction N with
 | zero=>intro t v w _ h;have:=blk_pos t;omega
 | succ N ih=>exact copy_step N hN (become_step N (by omega) (ih (by omega))) (becomeB_step N (by omega) (copyBranch_step N (by omega) (become_step N (by omega) (ih (by omega)))))
theorem boxT2 (w:World) (t u:Tm) (ra:Option Addr) (rc:Nat) (ka:Option Addr) (kc:Nat) (sa:Option Addr) (sc:Nat) (ra':Option Addr) (rc':Nat) (ka':Option Addr) (kc':Nat) (sa':Option Addr) (sc':Nat) :
  ∃ W,W=(w.alloc (.cells #[.int .i64 t.kind,.int .i64 t.n,.string t.name,.slice ra t.r.length rc,.slice ka t.kids.length kc,.slice sa t.sys.length sc] 26)).alloc (.cells #[.int .i64 u.kind,.int .i64 u.n,.string u.name,.slice ra' u.r.length rc',.slice ka' u.kids.length kc',.slice sa' u.sys.length sc'] 26) /\
   Below w.heap.size w W/\Cs6 W w.heap.size 0 t ra rc ka kc sa sc/\Cs6 W (w.heap.size+1) 0 u ra' rc' ka' kc' sa' sc':=by
 refine⟨_,rfl,bchain (belowA _ _) (belowA _ _),(cs6_new w t ra rc ka kc sa sc).blw (belowA _ _),?_⟩
 have:=cs6_new (w.alloc (.cells #[.int .i64 t.kind,.int .i64 t.n,.string t.name,.slice ra t.r.length rc,.slice ka t.kids.length kc,.slice sa t.sys.length sc] 26)) u ra' rc' ka' kc' sa' sc'
 rwa [World.size_alloc] at this
theorem copy_any (t:Tm) (v:Value) (w:World) (hv:TmIn Tt w t v) (hb:blk t<=100000) :
  Calls Tryz.prog 98 #[v] w fun e w'=>∃ v',e=.returned v'/\TmIn (OkN w.heap.size w') w' t v'/\Below w.heap.size w w':=copy_N 100000 (Nat.le_refl _) t v w hv hb
section
variable {F:Fence} {m:Nat} {P:Program} {ops:Array Oper} {md:Region.Mode} {w:World}
def calmB (l:List Oper):Bool:=l.all fun o=>match o.op with | .defer _=>false | _=>true
theorem calm_op {l:List Oper} (h:calmB l=true) {i:Nat} {o:Oper} (hi:l.toArray[i]? = some o):∀ c,o.op≠.defer c:=fun c e=>by
 have h1:=List.all_eq_true.1 h o (List.mem_of_getElem? (by simpa using hi))
 rw [e] at h1;cases h1
theorem inOp_of_stOp (hF:∀ f,F.fn f) (hd:F.depth=none) (hB:∀ {f:FuncId} {args:Array Value} {w:World} {R:Ending->World->Prop},Calls P f args w R->CallsIn F (m - 1) P f args w R) (hc:∀ (i:Nat) (o:Oper),ops[i]? = some o->∀ c,o.op≠Op.defer c) {i:Nat} {a:Act} {K:Act->Prop} {K':Act->World->Prop} {Q:Exit->Act->World->Prop} (h:∀ a,K a->K' a w) (hh:stOp P ops w i K a):wpOpIn F m P ops Q i K' a w:=by
 unfold stOp at hh
 unfold wpOpIn
 split
 ·rename_i ho;simp only [ho] at hh;exact h _ hh
 ·rename_i o ho
  simp only [ho] at hh
  split
  ·rename_i hw
   simp only [hw,if_true] at hh
   refine⟨fun f _=>hF f,?_⟩
   rw [Oper.semAt_plain F _ o (hc i o ho)]
   unfold Oper.still at hh
   generalize (execOp a.eval o).run P w=r at *
   cases r with
   | ok x w' =>
    cases x <;> simp only [Oper.stillUpon] at hh <;> simp only [Oper.uponIn]
    case enter f args =>
     obtain⟨rfl,v,hcall,hn⟩:=hh
     exact⟨fun h=>(by rw [hd] at h;cases h),hB (hcall.mono fun e w'' he=>by obtain⟨rfl,rfl⟩:=he;exact h _ hn)⟩
    all_goals (obtain⟨rfl,h2⟩:=hh;exact h _ h2)
   | halt x w'=>simp only [Oper.stillUpon] at hh
  ·rename_i hw;simp only [hw] at hh;exact⟨fun f _=>hF f,h _ hh⟩
theorem inAny_of_head (hF:∀ f,F.fn f) (hd:F.depth=none) (hB:∀ {f:FuncId} {args:Array Value} {w:World} {R:Ending->World->Prop},Calls P f args w R->CallsIn F (m - 1) P f args w R) (hc:∀ (i:Nat) (o:Oper),ops[i]? = some o->∀ c,o.op≠Op.defer c) {n g:Nat} {L:Array Bool->Act->Prop} {Q:Exit->Act->World->Prop} (hL:∀ listed a,L listed a->wpAnyIn F m P md ops Q g listed a w) :
  ∀ (f:Nat) (listed:Array Bool) (a:Act),wpAnyL P md ops w n L f listed a->wpAnyIn F m P md ops Q (f+g) listed a w
 | 0,listed,a,h=>by rw [Nat.zero_add];exact hL _ _ h
 | f+1,listed,a,h=>by
  rw [show f+1+g=(f+g) + 1 by omega]
  exact⟨fun h0=>absurd h0 h.1,fun i hi=>inOp_of_stOp hF hd hB hc (fun a' h'=>inAny_of_head hF hd hB hc hL f _ a' h') (h.2 i hi).2⟩
theorem inAny_of_seq {Q:Exit->Act->World->Prop}:∀ (l:List Oper) (k:Nat) (listed:Array Bool) (a:Act) (w:World),(∀ j,l[j]? = ops[k+j]?) ->
  Region.seqB md ops l.length k listed=true->wpListIn F m P ops Q l a w->wpAnyIn F m P md ops Q l.length listed a w
 | [],_,_,_,_,_,hB,h=>⟨by simpa [Region.seqB] using hB,h⟩
 | o :: l,k,listed,a,w,hl,hB,h=>by
  have h0:ops[k]? = some o:=by simpa using (hl 0).symm
  simp only [List.length_cons,Region.seqB,Bool.and_eq_true,decide_eq_true_eq] at hB
  refine⟨fun h1=>(by rw [hB.1] at h1;cases h1),fun i hi=>?_⟩
  rw [hB.1] at hi
  obtain rfl:i=k:=by simpa using hi
  have hw:wpOpIn F m P ops Q i (wpListIn F m P ops Q l) a w:=by unfold wpOpIn;simp only [h0];exact h
  exact wpOpIn_mono (fun a' w' h'=>inAny_of_seq l (i+1) _ a' w' (fun j=>by have:=hl (j+1);simpa [Nat.add_assoc,Nat.add_comm 1 j] using this) hB.2 h') hw
theorem in_region_tail (hF:∀ f,F.fn f) (hd:F.depth=none) (hB0:∀ {f:FuncId} {args:Array Value} {w:World} {R:Ending->World->Prop},Calls P f args w R->CallsIn F (m - 1) P f args w R) {id:Nat} {Q:Exit->Act->World->Prop} {a:Act} {l:List Oper} (n:Nat) (hm:P.follows .mixedOrders=true) (hB:Region.lexTailB .any l.toArray n=true) (hcalm:calmB l=true)
  (h:wpStill P l.toArray w.drew (fun a'=>wpListIn F m P l.toArray Q (l.drop n) a' w.drew) (l.take n) a):(Code.region id l.toArray true).wpIn F m P Q a w:=by
 simp only [Region.lexTailB,Bool.and_eq_true,decide_eq_true_eq] at hB
 obtain⟨⟨⟨⟨hsel,hn⟩,hs⟩,hc⟩,hlex⟩:=hB
 have hn':n<l.length:=by simpa using hn
 have htl:(l.take n).length=n:=by simp;omega
 have hdl:(l.drop n).length=l.toArray.size - n:=by simp
 have inv0:HeadInv .any l.toArray n (Array.replicate l.toArray.size false) :=
  ⟨by simp,fun j oj _ hl=>(by rw [getD_replicate_false] at hl;cases hl),fun t _ ht=>getD_in (by simpa using ht) (getD_replicate_false _ _)⟩
 have H:=wpAnyL_lex (md:=.any) (g:=l.toArray.size - n) hsel hs hc hn (l.take n) 0 _ a (fun j hj=>by
  have hj':j<n:=by rw [htl] at hj;exact hj
  simp [hj']) (by simpa using htl) inv0 (by rw [htl];exact hlex) h
 refine wpIn_region_any hm ?_
 have:=inAny_of_head (Q:=Q) hF hd hB0 (fun i o hi=>calm_op hcalm hi) (g:=l.toArray.size - n) (fun listed a' hL=>by
  have:=inAny_of_seq (md:=.any) (Q:=Q) (F:=F) (m:=m) (P:=P) (l.drop n) n listed a' w.drew (fun j=>by simp [List.getElem?_drop]) (by rw [hdl];exact hL.1) hL.2
  rwa [hdl] at this) _ _ _ H
 rw [htl,show n+(l.toArray.size - n)=l.toArray.size by omega] at this
 exact this
end
def IterC (n:Nat) (P:Program) (gf:Nat) (lb:Array Value) (A:Nat->Array Value->Prop) (m bx ab:Nat) (w:World):Prop :=
 ∀ (l:Nat) (J:Nat->World->Prop) (X:World->Prop) (W:World),Below w.heap.size w W ->
  (∀ k W1 W2,J k W1->Kn (fun g=>g≠bx) W1 W2->J k W2) ->
  (∀ k args W1,k<m->A k args->J k W1->YieldAt Fence.wide (n - 1) P l args W1 fun e W'=>(e=.returned (.bool true)/\J (k+1) W'/\Kn (fun g=>g≠ab) W1 W')\/(e=.returned (.bool false)/\X W')) ->
  J 0 W->CallsIn Fence.wide n P gf (#[.func (.yield l) #[] #[]] ++ lb) W fun e W'=>(∃ v,e=.returned v)/\(J m W'\/X W')
def rndP (I:Nat->World->Prop) (X:World->Prop) (ab k:Nat) (W:World):Exit->Act->World->Prop
 | .normal,_,W'=>Kn (fun g=>g≠ab) W W'/\I (k+1) W'
 | .ret,_,W'=>Kn (fun g=>g≠ab) W W'/\X W'
 | _,_,_=>False
theorem kn_put {W:World} {l:Nat} (o:Obj):Kn (fun g=>g≠l) W (W.putObj l o) :=
 ⟨rfl,rfl,rfl,by simp,fun k hk _=>World.putObj_heap_other hk⟩
theorem range_own {P:Program} {g:Operand} {ps:Array Tmp} {assign body:Code} {Q:Exit->Act->World->Prop} {a:Act} {w:World} {n gf:Nat} {lb:Array Value}
  (h1:1<=n) (hg:a.eval g=.func (.func gf) #[] lb) (eg:∀ args w,(callFunc gf args).run P w=.ok (.enter gf args) w)
  (Ar:Nat->Array Value->Prop) (m bx ab:Nat) (hbx:bx<w.heap.size) (hab:ab<w.heap.size) (hseq:IterC (n - 1) P gf lb Ar m bx ab w) (hps:∀ k args,Ar k args->args.size=ps.size)
  (I:Nat->World->Prop) (X:World->Prop)
  (hI:∀ k W1 W2,I k W1->Kn (fun g=>g<w.heap.size/\g≠bx) W1 W2->I k W2) (hX:∀ W1 W2,X W1->Kn (fun g=>g<w.heap.size/\g≠bx) W1 W2->X W2) (h0:I 0 w)
  (hround:∀ (l k:Nat) (args:Array Value) (W:World),k<m->Ar k args->I k W->w.heap.size<=l->l<W.heap.size ->
   assign.wpIn (Fence.wide.inRound l) (n - 1 - 1) P (Exit.then (fun a' W1=>Kn (fun g=>g≠ab) W W1/\∀ W2,Kn (fun g=>g≠l) W1 W2->body.wpIn (Fence.wide.inRound l) (n - 1 - 1) P (rndP I X ab k W2) a' W2) (fun _ _ _=>False))
    { tmps:=(ps.zip args).foldl (fun t (p,v)=>t.setIfInBounds p v) a.tmps,defers:=[] } W)
  (hdone:∀ (D:Nat) (W:World),w.heap.size<=D->I m W->W.heap[D]? = some (.deferred (some []))->Q .normal { a with defers:={ target:=.collected D,args:=#[] } :: a.defers } W)
  (hstop:∀ (D:Nat) (W:World),w.heap.size<=D->X W->W.heap[D]? = some (.deferred (some []))->Code.ret.wpIn Fence.wide n P Q { a with defers:={ target:=.collected D,args:=#[] } :: a.defers } W) :
  (Code.rangeFunc g ps assign body).wpIn Fence.wide n P Q a w:=by
 refine wpIn_rangeFunc fun fn hfn=>?_
 obtain⟨s,hs⟩:∃ s,s=w.heap.size:=⟨_,rfl⟩
 obtain⟨L,hL⟩:∃ L:LoopState->Option Code->Loop,L=fun st pe=>{ state:=st,pending:=pe,fn,tmps:=a.tmps,params:=ps,assign,body,defers:=s }:=⟨_,rfl⟩
 obtain⟨W1,hW1⟩:∃ W1,W1=(w.alloc (.deferred (some []))).alloc (.loop (L .ready none)):=⟨_,rfl⟩
 have b1:Below w.heap.size w W1:=by rw [hW1];exact bchain (belowA w _) (belowA _ _)
 have hd1:W1.heap[s]? = some (.deferred (some [])):=by
  rw [hW1,hs];exact (Below.heap_alloc _ _ _ (by simp)).trans (heapNew w _)
 have hl1:W1.heap[s+1]? = some (.loop (L .ready none)):=by
  rw [hW1,hs];have:=heapNew (w.alloc (.deferred (some []))) (.loop (L .ready none));rwa [World.size_alloc] at this
 have knI:∀ {No:Nat->Prop} {A B:World},Kn No A B->(∀ g,g<w.heap.size->g≠bx->No g)->Kn (fun g=>g<w.heap.size/\g≠bx) A B:=fun h k=>h.sub fun g hg=>k g hg.1 hg.2
 have putI:∀ (k:Nat) (A:World) (o:Obj),I k A->I k (A.putObj (s+1) o):=fun k A o h=>hI k A _ h (knI (kn_put o) fun g h1 _=>by omega)
 have putX:∀ (A:World) (o:Obj),X A->X (A.putObj (s+1) o):=fun A o h=>hX A _ h (knI (kn_put o) fun g h1 _=>by omega)
 refine⟨s+1,[{ target:=.collected s,args:=#[] }],W1,{ target:=.fn (.func gf) lb,args:=#[.func (.yield (s+1)) #[] #[]] },W1,gf,#[.func (.yield (s+1)) #[] #[]] ++ lb,W1,?_,?_,fun _ _=>trivial,?_,fun _=>h1,?_⟩
 ·rw [hW1,hL,hs];exact run_enterLoop_outer _ _ _ _ _
 ·simp only [resolve,hg];simp [go_sem]
 ·simp [invoke,go_sem,eg]
 ·refine (hseq (s+1) (fun k A=>I k A/\A.heap[s+1]? = some (.loop (L .ready none))/\A.heap[s]? = some (.deferred (some [])))
   (fun A=>X A/\A.heap[s+1]? = some (.loop (L .done (some .ret)))/\A.heap[s]? = some (.deferred (some []))) W1 b1 ?_ ?_ ⟨hI 0 w W1 h0 (Kn.of_below b1),hl1,hd1⟩).mono ?_
  ·rintro k A B ⟨a1,a2,a3⟩ hk
   exact⟨hI k A B a1 (knI hk fun g _ h=>h),(hk.block _ (by omega) (Array.getElem?_eq_some_iff.1 a2).1).trans a2,(hk.block _ (by omega) (Array.getElem?_eq_some_iff.1 a3).1).trans a3⟩
  ·rintro k args A hkm hA ⟨a1,a2,a3⟩
   have hy:=run_yield (P:=P) (args:=args) a2 (by rw [hL];exact hps k args hA)
   rw [hL] at hy
   refine⟨fn,_,assign,body,hy,roundIn_of_wpIn hfn (wpIn_mono (hround (s+1) k args A hkm hA a1 (by omega) (Array.getElem?_eq_some_iff.1 a2).1) ?_)⟩
   rintro e a' B hp
   cases e with
   | normal =>
    obtain⟨kB,hbody⟩:=hp
    have l2:=(kB.block (s+1) (by omega) (Array.getElem?_eq_some_iff.1 a2).1).trans a2
    have d2:=(kB.block s (by omega) (Array.getElem?_eq_some_iff.1 a3).1).trans a3
    refine⟨_,run_beginRound l2 (by rw [hL]),?_⟩
    obtain⟨B2,hB2⟩:∃ B2,B2=B.putObj (s+1) (.loop { L .ready none with state:=.busy }):=⟨_,rfl⟩
    rw [<- hB2]
    have k2:Kn (fun g=>g≠s+1) B B2:=by rw [hB2];exact kn_put _
    have l3:B2.heap[s+1]? = some (.loop { L .ready none with state:=.busy }):=by rw [hB2];exact World.putObj_heap_same (Array.getElem?_eq_some_iff.1 l2).1
    have d3:=(k2.block s (by omega) (Array.getElem?_eq_some_iff.1 d2).1).trans d2
    refine wpIn_mono (hbody B2 k2) ?_
    have fin:∀ (jump:Option Code) (B3:World),Kn (fun g=>g≠ab) B2 B3->∃ B4,(Instr.endRound (s+1) jump).run P B3=.ok (.bool jump.isNone) B4/\B4=B3.putObj (s+1) (.loop (L (if jump.isNone then .ready else .done) jump))/\B4.heap[s+1]? = some (.loop (L (if jump.isNone then .ready else .done) jump))/\B4.heap[s]? = some (.deferred (some [])):=fun jump B3 k3=>by
     have l4:=(k3.block (s+1) (by omega) (Array.getElem?_eq_some_iff.1 l3).1).trans l3
     have d4:=(k3.block s (by omega) (Array.getElem?_eq_some_iff.1 d3).1).trans d3
     have hr:=run_endRound (P:=P) jump l4
     rw [hL] at hr ⊢
     exact⟨_,hr,rfl,World.putObj_heap_same (Array.getElem?_eq_some_iff.1 l4).1,((kn_put _).block s (by omega) (Array.getElem?_eq_some_iff.1 d4).1).trans d4⟩
    rintro e a3 B3 hp
    cases e with
    | normal =>
     obtain⟨k3,i3⟩:=hp
     obtain⟨B4,hr,e4,l5,d5⟩:=fin none B3 k3
     refine⟨_,B4,hr,.inl ⟨rfl,⟨?_,l5,d5⟩,?_⟩⟩
     ·rw [e4];exact putI _ _ _ i3
     ·-- the loop's own record is ready again, as it was
      have hback:B4.heap[s+1]? = A.heap[s+1]?:=by rw [l5,a2];rfl
      refine⟨?_,?_,?_,?_,fun q hq hqs=>?_⟩
      ·rw [e4];exact (k3.os.trans k2.os).trans kB.os
      ·rw [e4];exact (k3.tape.trans k2.tape).trans kB.tape
      ·rw [e4];exact (k3.output.trans k2.output).trans kB.output
      ·rw [e4];simpa using Nat.le_trans (Nat.le_trans kB.size k2.size) k3.size
      ·by_cases e:q=s+1
       ·rw [e];exact hback
       ·rw [e4]
        have q1:=Nat.lt_of_lt_of_le hqs kB.size
        have q2:=Nat.lt_of_lt_of_le q1 k2.size
        exact (World.putObj_heap_other e).trans ((k3.block q hq q2).trans ((k2.block q e q1).trans (kB.block q hq hqs)))
    | ret =>
     obtain⟨k3,i3⟩:=hp
     obtain⟨B4,hr,e4,l5,d5⟩:=fin (some .ret) B3 k3
     refine⟨_,B4,hr,.inr ⟨rfl,?_,l5,d5⟩⟩
     rw [e4];exact putX _ _ i3
    | exit id=>exact hp.elim
    | goto t=>exact hp.elim
    | panic ch=>exact hp.elim
    | outgrown=>exact hp.elim
   | ret=>exact hp.elim
   | exit id=>exact hp.elim
   | goto t=>exact hp.elim
   | panic ch=>exact hp.elim
   | outgrown=>exact hp.elim
  ·rintro e B ⟨⟨v,rfl⟩,(⟨i2,l2,d2⟩ | ⟨x2,l2,d2⟩)⟩
   ·have hr:=run_endLoop (P:=P) l2 (by rw [hL];simp)
    refine⟨none,B.putObj (s+1) (.loop { L .ready none with state:=.exhausted }),by rw [hL] at hr ⊢; exact hr,?_⟩
    exact hdone s _ (by omega) (putI _ _ _ i2) (((kn_put _).block s (by omega) (Array.getElem?_eq_some_iff.1 d2).1).trans d2)
   ·have hr:=run_endLoop (P:=P) l2 (by rw [hL];simp)
    refine⟨some .ret,B.putObj (s+1) (.loop { L .done (some .ret) with state:=.exhausted }),by rw [hL] at hr ⊢; exact hr,?_⟩
    exact hstop s _ (by omega) (putX _ _ x2) (((kn_put _).block s (by omega) (Array.getElem?_eq_some_iff.1 d2).1).trans d2)
theorem retI {k:IntKind} {a b:Int} (h:a=b):Ending.returned (.int k a)=.returned (.int k b):=by rw [h]
theorem retII {k:IntKind} {a b c d:Int} (h:a=b) (h2:c=d):Ending.returned (.tuple #[.int k a,.int k c])=.returned (.tuple #[.int k b,.int k d]):=by rw [h,h2]
theorem kids_any (k:Int) (w:World):Calls Tryz.prog 178 #[.int .i64 k] w fun e w'=>e=.returned (.int .i64 (kidsK k))/\w'=w:=by
 have h:k=1\/k=2\/k=3\/k=19\/k=20\/k=21\/k=24\/k=25\/k=5\/k=9\/k=10\/k=12\/k=16\/k=17\/k=18\/k=23\/k=26\/k=4\/k=6\/k=7\/k=8\/k=14\/k=15\/k=28\/k=11\/k=13\/k=22\/k=27\/(k<1\/28<k):=by omega
 rcases h with rfl|rfl|rfl|rfl|rfl|rfl|rfl|rfl|rfl|rfl|rfl|rfl|rfl|rfl|rfl|rfl|rfl|rfl|rfl|rfl|rfl|rfl|rfl|rfl|rfl|rfl|rfl|rfl|h
 case inr.inr.inr.inr.inr.inr.inr.inr.inr.inr.inr.inr.inr.inr.inr.inr.inr.inr.inr.inr.inr.inr.inr.inr.inr.inr.inr.inr =>
  have e:Hid (kidsK k = -1):=by show _=_;unfold kidsK;rw [if_neg (by omega),if_neg (by omega),if_neg (by omega),if_neg (by omega),if_neg (by omega),if_neg (by omega)]
  have n1:¬ k=1:=by omega
  have n2:¬ k=2:=by omega
  have n3:¬ k=3:=by omega
  have n4:¬ k=4:=by omega
  have n5:¬ k=5:=by omega
  have n6:¬ k=6:=by omega
  have n7:¬ k=7:=by omega
  have n8:¬ k=8:=by omega
  have n9:¬ k=9:=by omega
  have n10:¬ k=10:=by omega
  have n11:¬ k=11:=by omega
  have n12:¬ k=12:=by omega
  have n13:¬ k=13:=by omega
  have n14:¬ k=14:=by omega
  have n15:¬ k=15:=by omega
  have n16:¬ k=16:=by omega
  have n17:¬ k=17:=by omega
  have n18:¬ k=18:=by omega
  have n19:¬ k=19:=by omega
  have n20:¬ k=20:=by omega
  have n21:¬ k=21:=by omega
  have n22:¬ k=22:=by omega
  have n23:¬ k=23:=by omega
  have n24:¬ k=24:=by omega
  have n25:¬ k=25:=by omega
  have n26:¬ k=26:=by omega
  have n27:¬ k=27:=by omega
  have n28:¬ k=28:=by omega
  clear h
  go_enter Tryz.func178,Tryz.ntmps178
  go_wp2
  go_ret
  exact⟨retI e.out.symm,rfl⟩
 all_goals
  go_enter Tryz.func178,Tryz.ntmps178
  go_wp2
  go_ret
  exact⟨rfl,rfl⟩
theorem partsC_any (k:Int) (w:World):Calls Tryz.prog 227 #[.int .i64 k] w fun e w'=>e=.returned (.int .i64 (partsK k))/\w'=w:=by
 go_enter Tryz.func227,Tryz.ntmps227
 go_wp2
 all_goals
  go_ret
  exact⟨retI (by unfold partsK;simp_all),rfl⟩
theorem rParts_any (k:Int) (w:World):Calls Tryz.prog 199 #[.int .i64 k] w fun e w'=>e=.returned (.int .i64 (partsK k))/\w'=w:=by
 go_enter Tryz.func199,Tryz.ntmps199
 go_wp2
 all_goals
  go_ret
  exact⟨retI (by unfold partsK;simp_all),rfl⟩
theorem rMore_any (k:Int) (w:World):Calls Tryz.prog 167 #[.int .i64 k] w fun e w'=>e=.returned (.int .i64 ((moreK k:Nat):Int))/\w'=w:=by
 go_enter Tryz.func167,Tryz.ntmps167
 go_wp2
 all_goals
  go_ret
  exact⟨retI (by unfold moreK;simp_all),rfl⟩
theorem bindsC_any (k i:Int) (w:World):Calls Tryz.prog 112 #[.int .i64 k,.int .i64 i] w fun e w'=>e=.returned (.tuple #[.int .i64 (bvI k i),.int .i64 (bdI k i)])/\w'=w:=by
 go_enter Tryz.func112,Tryz.ntmps112
 go_wp2
 all_goals
  go_ret2
  exact⟨retII (by unfold bvI;simp_all) (by unfold bdI;simp_all),rfl⟩
theorem rBinds_any (k i:Int) (w:World):Calls Tryz.prog 166 #[.int .i64 k,.int .i64 i] w fun e w'=>e=.returned (.tuple #[.int .i64 (bvI k i),.int .i64 (bdI k i)])/\w'=w:=by
 by_cases h1:i=1
 ·subst h1
  go_enter Tryz.func166,Tryz.ntmps166
  go_wp2
  all_goals
   go_ret2
   exact⟨retII (by unfold bvI;simp_all) (by unfold bdI;simp_all),rfl⟩
 ·by_cases h0:i=0
  ·subst h0
   go_enter Tryz.func166,Tryz.ntmps166
   go_wp2
   all_goals
    go_ret2
    exact⟨retII (by unfold bvI;simp_all) (by unfold bdI;simp_all),rfl⟩
  ·go_enter Tryz.func166,Tryz.ntmps166
   go_wp2
   go_ret2
   exact⟨retII (by unfold bvI;simp_all) (by unfold bdI;simp_all),rfl⟩
def arrK:Array Value:=#[.int .i64 (-1),.int .i64 0,.int .i64 0,.int .i64 0,.int .i64 2,.int .i64 1,.int .i64 2,.int .i64 2,.int .i64 2,.int .i64 1,.int .i64 1,.int .i64 3,.int .i64 1,.int .i64 3,.int .i64 2,.int .i64 2,.int .i64 1,.int .i64 1,.int .i64 1,.int .i64 0,.int .i64 0,.int .i64 0,.int .i64 4,.int .i64 1,.int .i64 0,.int .i64 0,.int .i64 1,.int .i64 5,.int .i64 2]
def arrZK:Array Value:=#[.int .i64 0,.int .i64 0,.int .i64 0,.int .i64 0,.int .i64 0,.int .i64 0,.int .i64 0,.int .i64 0,.int .i64 0,.int .i64 0,.int .i64 0,.int .i64 0,.int .i64 0,.int .i64 0,.int .i64 0,.int .i64 0,.int .i64 0,.int .i64 0,.int .i64 0,.int .i64 0,.int .i64 0,.int .i64 0,.int .i64 0,.int .i64 0,.int .i64 0,.int .i64 0,.int .i64 0,.int .i64 0,.int .i64 0]
def lK:List Int:=[-1,0,0,0,2,1,2,2,2,1,1,3,1,3,2,2,1,1,1,0,0,0,4,1,0,0,1,5,2]
theorem arrK_eq:arrK.toList=lK.map fun z=>Value.int .i64 z:=by kernel_rfl
theorem lK_get (j:Nat) (h:j<29):lK[j]? = some (kidsK (j:Int)):=by
 match j,h with
 | 0,_=>rfl
 | 1,_=>rfl
 | 2,_=>rfl
 | 3,_=>rfl
 | 4,_=>rfl
 | 5,_=>rfl
 | 6,_=>rfl
 | 7,_=>rfl
 | 8,_=>rfl
 | 9,_=>rfl
 | 10,_=>rfl
 | 11,_=>rfl
 | 12,_=>rfl
 | 13,_=>rfl
 | 14,_=>rfl
 | 15,_=>rfl
 | 16,_=>rfl
 | 17,_=>rfl
 | 18,_=>rfl
 | 19,_=>rfl
 | 20,_=>rfl
 | 21,_=>rfl
 | 22,_=>rfl
 | 23,_=>rfl
 | 24,_=>rfl
 | 25,_=>rfl
 | 26,_=>rfl
 | 27,_=>rfl
 | 28,_=>rfl
 | j+29,h=>omega
theorem heap_last (w:World) (o:Obj):(w.alloc o).heap[w.heap.size]? = some o:=heapNew w o
theorem cellNew {W:World} {x:Nat} {A:Array Value} {ty:TypeId} (h:W.heap[x]? = some (.cells A ty (0,0))) (k:Nat) (v:Value) (hv:A.toList[k]? = some v):W.cell? ⟨x,k,none⟩=some v:=by
 unfold World.cell?
 simp only [h]
 rw [<- Array.getElem?_toList]
 simpa using hv
theorem rKids_any (k:Int) (w:World):Calls Tryz.prog 198 #[.int .i64 k] w fun e w'=>e=.returned (.int .i64 (kidsK k))/\Below w.heap.size w w':=by
 go_enter Tryz.func198,Tryz.ntmps198
 go_upto_region 1 with fail
 refine wp_region_list ?_
 refine wpList_buildTo rfl 204 _ rfl (some 4) rfl arrK (by kernel_rfl) ?_
 refine Great.wpList_runTo rfl (some 3) rfl (.pointer (some ⟨w.heap.size,0,none⟩)) (w.alloc (.cells arrZK 204)) (by rfl) ?_
 refine wpList_store_rowTo rfl 204 (.tmp 3) (.tmp 4) rfl rfl w.heap.size arrK rfl rfl 204 arrZK (heap_last w _) (by kernel_rfl) rfl (by kernel_rfl) ?_
 rw [World.setRow_alloc_new]
 refine wpList_nil ?_
 obtain⟨W,hW⟩:∃ W,W=w.alloc (.cells arrK 204):=⟨_,rfl⟩
 have hb:Below w.heap.size w W:=by rw [hW];exact belowA _ _
 have hc:∀ j:Nat,j<29->W.cell? ⟨w.heap.size,j,none⟩=some (.int .i64 (kidsK (j:Int))):=fun j hj=>by
  refine cellNew (A:=arrK) (ty:=204) (by rw [hW];exact heapNew w _) j _ ?_
  rw [arrK_eq,List.getElem?_map,lK_get j hj];rfl
 rw [<- hW]
 clear hW
 obtain⟨V,hV⟩:∃ V,V=Value.agg arrK:=⟨_,rfl⟩
 rw [<- hV]
 clear hV
 rcases (show k<0\/28<k\/(0<=k/\k<=28) by omega) with h|h|h
 ·have e:Hid (kidsK k = -1):=by show _=_;unfold kidsK;rw [if_neg (by omega),if_neg (by omega),if_neg (by omega),if_neg (by omega),if_neg (by omega),if_neg (by omega)]
  go_wp2
  go_ret
  exact⟨retI e.out.symm,hb⟩
 ·have e:Hid (kidsK k = -1):=by show _=_;unfold kidsK;rw [if_neg (by omega),if_neg (by omega),if_neg (by omega),if_neg (by omega),if_neg (by omega),if_neg (by omega)]
  have h0:¬ k<0:=by omega
  go_wp2
  go_ret
  exact⟨retI e.out.symm,hb⟩
 ·obtain⟨j,rfl⟩:=Int.eq_ofNat_of_zero_le h.1
  have hj:j<29:=by omega
  have h0:¬ (j:Int) < 0:=by omega
  have h1:¬ (28:Int) < (j:Int):=by omega
  have hcj:=hc j hj
  clear hc h
  obtain⟨z,hz⟩:∃ z,z=kidsK (j:Int):=⟨_,rfl⟩
  rw [<- hz] at hcj
  have Hz:Hid (z=kidsK (j:Int)):=hz
  clear hz
  go_wp2
  go_ret
  exact⟨retI Hz.out,hb⟩
end Go.Proofs.YtblbhmnahoiecaaGreat
