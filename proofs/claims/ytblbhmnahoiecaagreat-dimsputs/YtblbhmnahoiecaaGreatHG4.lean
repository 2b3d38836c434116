/- A part of the proof. -/
import Derived.Test.YtblbhmnahoiecaaGreatHFB
set_option linter.unusedVariables false
set_option linter.unusedSimpArgs false
namespace Go.Proofs.YtblbhmnahoiecaaGreat
open Go.RowKit
theorem run_append_none (n:Nat) (ty:TypeId) (c:Nat) (w:World):(Builtin.append_ #[22,22] ty #[.slice none 0 0,.slice none 0 c]).run Tryz.prog w=.ok (.slice none 0 0) w:=by
 simp [Builtin.append_,run_underlying Tryz.underlying22,Result.andThen,Builtin.lenOf,Builtin.firstCells,storeCells]
theorem run_append_nilc (n cap c:Nat) (hn:n<=cap) (ad:Addr) (ty:TypeId) (w:World):(Builtin.append_ #[22,22] ty #[.slice (some ad) n cap,.slice none 0 c]).run Tryz.prog w=.ok (.slice (some ad) n cap) w:=by
 simp [Builtin.append_,run_underlying Tryz.underlying22,Result.andThen,Builtin.lenOf,Builtin.firstCells,storeCells,hn]
theorem grownBy_refl (w:World) (row:Option Nat):w.grownBy w row:=World.grownBy.refl w row
theorem append_row {W:World} {base:Nat} {v s:Value} {u l:List C} (ty:TypeId) (hO:OwnsC W base v u) (hs:CRow W s l) (hn:u.length+l.length<=200000) (hb:base<=W.heap.size) :
  ∃ v' W',(Builtin.append_ #[22,22] ty #[v,s]).run Tryz.prog W=.ok v' W'/\OwnsC W' base v' (u++l)/\W.grownBy W' v.ownBlock/\(v'.ownBlock=v.ownBlock\/v'.ownBlock=some W.heap.size):=by
 obtain⟨i0,hi,hz0,hz1,hz2⟩:=info_parts Tryz.infoC
 have big:∀ (ad:Addr) (c:Nat),s=.slice (some ad) l.length c->(∀ j x,(flat l)[j]? = some x->W.cell? (ad.add j)=some x)->∃ v' W',(Builtin.append_ #[22,22] ty #[v,s]).run Tryz.prog W=.ok v' W'/\OwnsC W' base v' (u++l)/\W.grownBy W' v.ownBlock/\(v'.ownBlock=v.ownBlock\/v'.ownBlock=some W.heap.size):=by
  intro ad c hs hc
  obtain⟨v',W',hrun,r1,r2,_,r4⟩:=run_append_own_at (P:=Tryz.prog) W base 22 ty 38 i0 _ 2 8 Tryz.underlying22 hi hz0 hz1 hz2 rfl (by decide) v u.length (flat u) hO ad l.length c (flat l) (flat_length l) hc (flat_oneCell l) (by unfold maxLen;omega) (by omega) hb
  refine⟨v',W',by rw [hs];exact hrun,?_,r2,r4⟩
  unfold OwnsC
  rw [flat_append,List.length_append]
  exact r1
 rcases hs with ⟨a,c,rfl,rfl⟩|⟨g,off,c,rfl,hg,hc⟩
 ·cases a with
  | some ad=>exact big ad c rfl (fun j x hj=>by simp [flat] at hj)
  | none =>
   rcases hO.2 with ⟨rfl,hz⟩|⟨g,cap,cur,rfl,_,_,hle,_⟩
   ·exact⟨_,_,run_append_none 0 ty c W,by rw [List.append_nil];exact hO,grownBy_refl _ _,.inl rfl⟩
   ·exact⟨_,_,run_append_nilc _ _ c hle _ ty W,by rw [List.append_nil];exact hO,grownBy_refl _ _,.inl rfl⟩
 ·exact big _ c rfl (news_cells hc)
theorem wpList_append_row {w:World} {ops:Array Oper} {rest:List Oper} {o:Oper} {a:Act} {Q:Exit->Act->World->Prop} (hgd:o.guard=none) (s x:Operand)
  (ho:o.op=.call { callee:=.builtin .append,args:=#[s,x],argTypes:=#[22,22] }) (base:Nat) (v sv:Value) (u l:List C) (hs:a.eval s=v) (hx:a.eval x=sv)
  (hO:OwnsC w base v u) (hr:CRow w sv l) (hn:u.length+l.length<=200000) (hb:base<=w.heap.size)
  (h:∀ v' w',OwnsC w' base v' (u++l)->w.grownBy w' v.ownBlock->(v'.ownBlock=v.ownBlock\/v'.ownBlock=some w.heap.size)->wpList Tryz.prog ops Q rest (a.put o.dst v') w'):wpList Tryz.prog ops Q (o :: rest) a w:=by
 refine wpList_plain hgd fun K hK'=>?_
 obtain⟨v',w',hrun,r1,r2,r3⟩:=append_row o.type hO hr hn hb
 unfold Oper.wp
 simp [execOp,ho,resolve,invoke,builtin,hs,hx,hrun,Result.andThen]
 exact hK' _ _ (h v' w' r1 r2 r3)
theorem own_grown {W W':World} {base:Nat} {v:Value} {u:List C} (hO:OwnsC W base v u) (hg:W.grownBy W' v.ownBlock) (hb:base<=W.heap.size):Below base W W' :=
 (Below.refl base W).grown hg hb (fun k hk=>(World.ownsRow.lt hO k hk).1)
theorem own_ne {W:World} {base:Nat} {v:Value} {u:List C} (hO:OwnsC W base v u):v.ownBlock≠some W.heap.size:=fun h=>by have:=(World.ownsRow.lt hO _ h).2;omega
theorem own_next {v v':Value} {n g:Nat} (h:v'.ownBlock=v.ownBlock\/v'.ownBlock=some n) (hne:v.ownBlock≠some g) (hlt:g<n):v'.ownBlock≠some g:=by
 rcases h with h|h
 ·rw [h];exact hne
 ·rw [h];intro e;injection e with e;omega
theorem step_append_row {ops:Array Oper} {o:Oper} {a:Act} {w:World} {K:Act->World->Prop} {Q:Exit->Act->World->Prop} {E:Prop}
  (hgd:o.guard=none) (s x:Operand) (ho:o.op=.call { callee:=.builtin .append,args:=#[s,x],argTypes:=#[22,22] }) (base:Nat) (v sv:Value) (u l:List C) (hs:a.eval s=v) (hx:a.eval x=sv)
  (hO:OwnsC w base v u) (hr:CRow w sv l) (hn:u.length+l.length<=200000) (hb:base<=w.heap.size)
  (h:∀ v' w',OwnsC w' base v' (u++l)->w.grownBy w' v.ownBlock->(v'.ownBlock=v.ownBlock\/v'.ownBlock=some w.heap.size)->K (a.put o.dst v') w') :
  if Region.wanted o (yielded ops a.tmps)=true then Oper.wp Tryz.prog o a w K Q else E:=by
 have hw:Region.wanted o (yielded ops a.tmps)=true:=by simp [Region.wanted,hgd]
 rw [if_pos hw]
 obtain⟨v',w',hrun,r1,r2,r3⟩:=append_row o.type hO hr hn hb
 unfold Oper.wp
 simp [execOp,ho,resolve,invoke,builtin,hs,hx,hrun,Result.andThen]
 exact h v' w' r1 r2 r3
structure Tm where
 mk ::
 kind:Int
 n:Int
 name:ByteArray
 r:List C
 kids:List Tm
 sys:List (List C × List Tm)
theorem Tm.ind {P:Tm->Prop} (h:∀ k n s r kids sys,(∀ x∈kids,P x)->(∀ b∈sys,∀ x∈b.2,P x)->P (.mk k n s r kids sys)):∀ t,P t
 | .mk k n s r kids sys=>h k n s r kids sys (fun x hx=>Tm.ind h x) (fun b hb x hx=>Tm.ind h x)
termination_by t=>SizeOf.sizeOf t
decreasing_by
 ·have:=List.sizeOf_lt_of_mem hx;simp;omega
 ·have h1:=List.sizeOf_lt_of_mem hb;have h2:=List.sizeOf_lt_of_mem hx;obtain⟨a,c⟩:=b;simp at *; omega
def Tm.fold {α:Type} (f:Int->Int->ByteArray->List C->List α->List (List C × List α)->α):Tm->α
 | .mk k n s r kids sys=>f k n s r (kids.attach.map fun x=>Tm.fold f x.1) (sys.attach.map fun b=>(b.1.1,b.1.2.attach.map fun x=>Tm.fold f x.1))
termination_by t=>SizeOf.sizeOf t
decreasing_by
 ·have:=List.sizeOf_lt_of_mem x.2;simp;omega
 ·have h1:=List.sizeOf_lt_of_mem b.2;have h2:=List.sizeOf_lt_of_mem x.2;obtain⟨⟨a,c⟩,hb⟩:=b;simp at *; omega
theorem fold_mk {α:Type} (f:Int->Int->ByteArray->List C->List α->List (List C × List α)->α) (t:Tm) :
  Tm.fold f t=f t.kind t.n t.name t.r (t.kids.map (Tm.fold f)) (t.sys.map fun b=>(b.1,b.2.map (Tm.fold f))):=by
 obtain⟨k,n,s,r,kids,sys⟩:=t
 rw [Tm.fold]
 congr 1
 ·rw [List.attach_map_val (l:=kids) (f:=Tm.fold f)]
 ·have e:(fun b:{ x // x∈sys }=>(b.1.1,b.1.2.attach.map fun x=>Tm.fold f x.1))=fun b:{ x // x∈sys }=>(fun b:List C × List Tm=>(b.1,b.2.map (Tm.fold f))) b.1:=by
   funext b
   rw [List.attach_map_val (l:=b.1.2) (f:=Tm.fold f)]
  rw [e,List.attach_map_val (l:=sys) (f:=fun b:List C × List Tm=>(b.1,b.2.map (Tm.fold f)))]
def kidsK (k:Int):Int :=
 if k=1\/k=2\/k=3\/k=19\/k=20\/k=21\/k=24\/k=25 then 0
 else if k=5\/k=9\/k=10\/k=12\/k=16\/k=17\/k=18\/k=23\/k=26 then 1
 else if k=4\/k=6\/k=7\/k=8\/k=14\/k=15\/k=28 then 2
 else if k=11\/k=13 then 3
 else if k=22 then 4
 else if k=27 then 5
 else -1
def bvK (k:Int) (i:Nat):Nat:=if ((k=4\/k=7)/\i=1)\/((k=5\/k=22\/k=27)/\i=0) then 1 else 0
def bdK (k:Int) (i:Nat):Nat:=if (k=11\/k=12\/k=14)/\i=0 then 1 else 0
def bvI (k i:Int):Int:=if ((k=4\/k=7)/\i=1)\/((k=5\/k=22\/k=27)/\i=0) then 1 else 0
def bdI (k i:Int):Int:=if (k=11\/k=12\/k=14)/\i=0 then 1 else 0
theorem bvI_nat (k:Int) (i:Nat):bvI k (i:Int)=(bvK k i:Int):=by
 have h1:((i:Int)=1)↔i=1:=by omega
 have h0:((i:Int)=0)↔i=0:=by omega
 unfold bvI bvK;simp only [h1,h0];split <;> rfl
theorem bdI_nat (k:Int) (i:Nat):bdI k (i:Int)=(bdK k i:Int):=by
 have h0:((i:Int)=0)↔i=0:=by omega
 unfold bdI bdK;simp only [h0];split <;> rfl
theorem bvK_le (k:Int) (i:Nat):bvK k i<=1:=by unfold bvK;split <;> omega
theorem bdK_le (k:Int) (i:Nat):bdK k i<=1:=by unfold bdK;split <;> omega
def partsK (k:Int):Int:=if k=16 then 2 else if k=15\/k=17\/k=18 then 1 else 0
def moreK (k:Int):Nat:=if k=15 then 1 else 0
theorem moreK_le (k:Int):moreK k<=1:=by unfold moreK;split <;> omega
def ptsG {α:Type} (k:Int) (ks:List α) (sys:List (List C × List α)):List (α × Nat × Nat) :=
 (ks.zipIdx.map fun p=>(p.1,bvK k p.2,bdK k p.2)) ++ sys.flatMap fun b=>b.2.map fun x=>(x,0,moreK k)
theorem ptsG_map {α β:Type} (f:α->β) (k:Int) (ks:List α) (sys:List (List C × List α)) :
  ptsG k (ks.map f) (sys.map fun b=>(b.1,b.2.map f))=(ptsG k ks sys).map fun p=>(f p.1,p.2):=by
 unfold ptsG
 rw [List.map_append,List.map_map,List.zipIdx_map,List.map_map,List.map_flatMap,List.flatMap_map]
 congr 1
 congr 1
 funext b
 simp [List.map_map,Function.comp_def]
def Tm.pts (t:Tm):List (Tm × Nat × Nat):=ptsG t.kind t.kids t.sys
theorem pts_kid {t:Tm} {i:Nat} {x:Tm} (h:t.kids[i]? = some x):(x,bvK t.kind i,bdK t.kind i)∈t.pts:=by
 unfold Tm.pts ptsG
 rw [List.mem_append]
 left
 rw [List.mem_map]
 exact⟨(x,i),by rw [List.mem_zipIdx_iff_getElem?];exact h,rfl⟩
theorem pts_sys {t:Tm} {b:List C × List Tm} {x:Tm} (hb:b∈t.sys) (hx:x∈b.2):(x,0,moreK t.kind)∈t.pts:=by
 unfold Tm.pts ptsG
 rw [List.mem_append]
 right
 rw [List.mem_flatMap]
 exact⟨b,hb,List.mem_map.2 ⟨x,hx,rfl⟩⟩
theorem mem_pts {t:Tm} {p:Tm × Nat × Nat} (h:p∈t.pts):(∃ i,t.kids[i]? = some p.1/\p.2=(bvK t.kind i,bdK t.kind i))\/∃ b∈t.sys,p.1∈b.2/\p.2=(0,moreK t.kind):=by
 unfold Tm.pts ptsG at h
 rw [List.mem_append] at h
 rcases h with h|h
 ·obtain⟨q,hq,rfl⟩:=List.mem_map.1 h
  exact .inl ⟨q.2,List.mem_zipIdx_iff_getElem?.1 hq,rfl⟩
 ·obtain⟨b,hb,h⟩:=List.mem_flatMap.1 h
  obtain⟨x,hx,rfl⟩:=List.mem_map.1 h
  exact .inr ⟨b,hb,hx,rfl⟩
theorem pts_le {t:Tm} {p:Tm × Nat × Nat} (h:p∈t.pts):p.2.1<=1/\p.2.2<=1:=by
 rcases mem_pts h with ⟨i,_,e⟩|⟨b,_,_,e⟩ <;> rw [e]
 ·exact⟨bvK_le _ _,bdK_le _ _⟩
 ·exact⟨by omega,moreK_le _⟩
def maxL (l:List Nat):Nat:=l.foldr max 0
theorem maxL_mem {l:List Nat} {x:Nat} (h:x∈l):x<=maxL l:=by
 induction l with
 | nil=>cases h
 | cons a l ih =>
  show x<=max a (maxL l)
  rcases List.mem_cons.1 h with rfl|h
  ·omega
  ·have:=ih h;omega
theorem maxL_append (l m:List Nat):maxL (l++m)=max (maxL l) (maxL m):=by
 induction l with
 | nil=>simp [maxL]
 | cons a l ih=>show max a (maxL (l++m))=max (max a (maxL l)) _;rw [ih];omega
theorem maxL_le {l:List Nat} {b:Nat} (h:∀ x∈l,x<=b):maxL l<=b:=by
 induction l with
 | nil=>simp [maxL]
 | cons a l ih =>
  show max a (maxL l)<=b
  have h1:=h a (by simp)
  have h2:=ih fun x hx=>h x (by simp [hx])
  omega
def sizeT:Tm->Nat:=Tm.fold fun _ _ _ _ ks sys=>1+(ks.sum+(sys.map fun b=>b.2.sum).sum)
def depthT:Tm->Nat:=Tm.fold fun _ _ _ _ ks sys=>1+max (maxL ks) (maxL (sys.map fun b=>maxL b.2))
def blk:Tm->Nat:=Tm.fold fun _ _ s r ks sys=>1+r.length+s.size+ks.sum+(sys.map fun b=>1+b.1.length+b.2.sum).sum
def szL (l:List Tm):Nat:=(l.map sizeT).sum
def szS (l:List (List C × List Tm)):Nat:=(l.map fun b=>szL b.2).sum
def dpL (l:List Tm):Nat:=maxL (l.map depthT)
def dpS (l:List (List C × List Tm)):Nat:=maxL (l.map fun b=>dpL b.2)
def blkL (l:List Tm):Nat:=(l.map blk).sum
def blkS (l:List (List C × List Tm)):Nat:=(l.map fun b=>1+b.1.length+blkL b.2).sum
theorem size_eq (t:Tm):sizeT t=1+(szL t.kids+szS t.sys):=by
 unfold sizeT;rw [fold_mk];simp only [List.map_map,Function.comp_def];rfl
theorem depth_eq (t:Tm):depthT t=1+max (dpL t.kids) (dpS t.sys):=by
 unfold depthT;rw [fold_mk];simp only [List.map_map,Function.comp_def];rfl
theorem blk_eq (t:Tm):blk t=1+t.r.length+t.name.size+blkL t.kids+blkS t.sys:=by
 unfold blk;rw [fold_mk];simp only [List.map_map,Function.comp_def];rfl
theorem sumN_mem {l:List Nat} {x:Nat} (h:x∈l):x<=l.sum:=by
 induction l with
 | nil=>cases h
 | cons a l ih =>
  rw [List.sum_cons]
  rcases List.mem_cons.1 h with rfl|h
  ·omega
  ·have:=ih h;omega
theorem sumN_take (l:List Nat) (k:Nat):(l.take k).sum<=l.sum:=by
 induction l generalizing k with
 | nil=>simp
 | cons a l ih =>
  cases k with
  | zero=>simp
  | succ k=>have:=ih k;simp;omega
theorem sumN_le {α:Type} {f g:α->Nat} {l:List α} (h:∀ x∈l,f x<=g x):(l.map f).sum<=(l.map g).sum:=by
 induction l with
 | nil=>simp
 | cons a l ih =>
  have h1:=h a (by simp)
  have h2:=ih fun x hx=>h x (by simp [hx])
  simp;omega
theorem sumN_len {α:Type} (f:α->Nat) (hf:∀ a,1<=f a) (l:List α):l.length<=(l.map f).sum:=by
 induction l with
 | nil=>simp
 | cons a l ih=>have:=hf a;simp;omega
theorem blk_pos (t:Tm):1<=blk t:=by rw [blk_eq];omega
theorem size_pos (t:Tm):1<=sizeT t:=by rw [size_eq];omega
theorem depth_pos (t:Tm):1<=depthT t:=by rw [depth_eq];omega
theorem blk_kid {t x:Tm} (h:x∈t.kids):blk x<blk t:=by
 rw [blk_eq t]
 have:=sumN_mem (List.mem_map_of_mem (f:=blk) h)
 have e:blkL t.kids=(t.kids.map blk).sum:=rfl
 omega
theorem blk_br {t:Tm} {b:List C × List Tm} (h:b∈t.sys):1+b.1.length+blkL b.2<blk t:=by
 rw [blk_eq t]
 have:=sumN_mem (List.mem_map_of_mem (f:=fun b:List C × List Tm=>1+b.1.length+blkL b.2) h)
 have e:blkS t.sys=(t.sys.map fun b=>1+b.1.length+blkL b.2).sum:=rfl
 omega
theorem blk_sub {t x:Tm} {b:List C × List Tm} (h:b∈t.sys) (hx:x∈b.2):blk x<blk t:=by
 have h1:=blk_br h
 have:=sumN_mem (List.mem_map_of_mem (f:=blk) hx)
 have e:blkL b.2=(b.2.map blk).sum:=rfl
 omega
theorem blkL_len (l:List Tm):l.length<=blkL l:=sumN_len blk blk_pos l
theorem blkS_len (l:List (List C × List Tm)):l.length<=blkS l:=sumN_len _ (fun _=>by omega) l
theorem blk_lens (t:Tm):t.r.length<blk t/\t.name.size<blk t/\t.kids.length<blk t/\t.sys.length<blk t:=by
 rw [blk_eq];have:=blkL_len t.kids;have:=blkS_len t.sys;omega
theorem blk_pts {t:Tm} {p:Tm × Nat × Nat} (h:p∈t.pts):blk p.1<blk t:=by
 rcases mem_pts h with ⟨i,h1,_⟩|⟨b,h1,h2,_⟩
 ·exact blk_kid (List.mem_of_getElem? h1)
 ·exact blk_sub h1 h2
theorem blkL_step {l:List Tm} {k:Nat} {x:Tm} (h:l[k]? = some x):blkL (l.take (k+1))=blkL (l.take k) + blk x:=by
 unfold blkL;rw [List.take_add_one,h];simp
theorem blkS_step {l:List (List C × List Tm)} {k:Nat} {x:List C × List Tm} (h:l[k]? = some x):blkS (l.take (k+1))=blkS (l.take k) + (1+x.1.length+blkL x.2):=by
 unfold blkS;rw [List.take_add_one,h];simp
theorem blkL_take (l:List Tm) (k:Nat):blkL (l.take k)<=blkL l:=by unfold blkL;rw [List.map_take];exact sumN_take _ k
theorem blkS_take (l:List (List C × List Tm)) (k:Nat):blkS (l.take k)<=blkS l:=by unfold blkS;rw [List.map_take];exact sumN_take _ k
theorem szL_step {l:List Tm} {k:Nat} {x:Tm} (h:l[k]? = some x):szL (l.take (k+1))=szL (l.take k) + sizeT x:=by
 unfold szL;rw [List.take_add_one,h];simp
theorem szS_step {l:List (List C × List Tm)} {k:Nat} {x:List C × List Tm} (h:l[k]? = some x):szS (l.take (k+1))=szS (l.take k) + szL x.2:=by
 unfold szS;rw [List.take_add_one,h];simp
theorem dpL_step {l:List Tm} {k:Nat} {x:Tm} (h:l[k]? = some x):dpL (l.take (k+1))=max (dpL (l.take k)) (depthT x):=by
 unfold dpL;rw [List.take_add_one,h];simp [maxL_append];simp [maxL]
theorem dpS_step {l:List (List C × List Tm)} {k:Nat} {x:List C × List Tm} (h:l[k]? = some x):dpS (l.take (k+1))=max (dpS (l.take k)) (dpL x.2):=by
 unfold dpS;rw [List.take_add_one,h];simp [maxL_append];simp [maxL]
theorem size_blk:∀ t:Tm,sizeT t<=blk t:=Tm.ind fun k n s r kids sys h1 h2=>by
 rw [size_eq,blk_eq]
 have e1:szL kids<=blkL kids:=sumN_le h1
 have e2:szS sys<=blkS sys:=sumN_le fun b hb=>by
  have:szL b.2<=blkL b.2:=sumN_le (h2 b hb)
  omega
 simp only;omega
theorem depth_size:∀ t:Tm,depthT t<=sizeT t:=Tm.ind fun k n s r kids sys h1 h2=>by
 rw [size_eq,depth_eq]
 have e1:dpL kids<=szL kids:=maxL_le fun x hx=>by
  obtain⟨y,hy,rfl⟩:=List.mem_map.1 hx
  exact Nat.le_trans (h1 y hy) (sumN_mem (List.mem_map_of_mem hy))
 have e2:dpS sys<=szS sys:=maxL_le fun x hx=>by
  obtain⟨b,hb,rfl⟩:=List.mem_map.1 hx
  have:dpL b.2<=szL b.2:=maxL_le fun x hx=>by
   obtain⟨y,hy,rfl⟩:=List.mem_map.1 hx
   exact Nat.le_trans (h2 b hb y hy) (sumN_mem (List.mem_map_of_mem hy))
  exact Nat.le_trans this (sumN_mem (List.mem_map_of_mem (f:=fun b:List C × List Tm=>szL b.2) hb))
 simp only;omega
def letterU (c:UInt8):Bool:=(97<=c.toNat && c.toNat<=122) || (65<=c.toNat && c.toNat<=90) || c.toNat == 95
def digitU (c:UInt8):Bool:=48<=c.toNat && c.toNat<=57
def nmTo (s:ByteArray) (k:Nat):Prop:=∀ (j:Nat) (h:j<s.size),j<k->(letterU s[j] || (decide (0<j) && digitU s[j]))=true
def nmB (s:ByteArray):Bool:=decide (0<s.size) && (List.range s.size).all fun j=>if h:j<s.size then letterU s[j] || (decide (0<j) && digitU s[j]) else true
theorem nmB_iff (s:ByteArray):nmB s=true↔0<s.size/\nmTo s s.size:=by
 unfold nmB nmTo
 rw [Bool.and_eq_true,List.all_eq_true,decide_eq_true_eq]
 constructor
 ·rintro⟨h1,h2⟩
  exact⟨h1,fun j hj _=>by have:=h2 j (by simpa using hj);rwa [dif_pos hj] at this⟩
 ·rintro⟨h1,h2⟩
  refine⟨h1,fun j hj=>?_⟩
  rw [List.mem_range] at hj
  rw [dif_pos hj];exact h2 j hj hj
theorem nmB_true {s:ByteArray} (h0:0<s.size) (h:nmTo s s.size):nmB s=true:=(nmB_iff s).2 ⟨h0,h⟩
theorem nmB_zero {s:ByteArray} (h0:s.size=0):nmB s=false:=by unfold nmB;simp [h0]
theorem nmB_bad {s:ByteArray} (j:Nat) (h:j<s.size) (hb:(letterU s[j] || (decide (0<j) && digitU s[j]))=false):nmB s=false:=by
 rw [Bool.eq_false_iff]
 intro h1
 have:=((nmB_iff s).1 h1).2 j h h
 rw [hb] at this;cases this
theorem nmTo_zero (s:ByteArray):nmTo s 0:=fun j h hj=>by omega
theorem nmTo_step {s:ByteArray} {k:Nat} (h:nmTo s k) (hk:k<s.size) (hb:(letterU s[k] || (decide (0<k) && digitU s[k]))=true):nmTo s (k+1):=fun j hj hjk=>by
 rcases Nat.lt_or_ge j k with h1|h1
 ·exact h j hj h1
 ·obtain rfl:j=k:=by omega
  exact hb
def numB (o:Bool) (V:Int) (bv:Nat) (k n:Int):Bool:=if k=1 then decide (0<=n) && (o || decide (n - bv<V)) else decide (n=0)
def nameB (k:Int) (s:ByteArray):Bool:=if k=2 then nmB s else decide (s.size=0)
def reachB (o:Bool) (e:Nat) (r:List C):Bool:=o || decide (dimsN r / 2 ^ e=0)
def rowB (o:Bool) (e:Nat) (k:Int) (r:List C):Bool :=
 if k=13\/k=21\/k=26 then rightF r && reachB o e r else if k=14 then rightA r && reachB o e r else decide (r.length=0)
def brB (o:Bool) (e:Nat) (k:Int) (b:List C × Nat):Bool:=!decide (partsK k=0) && decide ((b.2:Int)=partsK k) && rightA b.1 && reachB o e b.1
def nodeB (o:Bool) (V:Int) (D:Nat) (k n:Int) (s:ByteArray) (r:List C) (nk:Nat) (sys:List (List C × Nat)) (bv bd:Nat):Bool :=
 (o || decide (bd+D<=24)) && decide ((nk:Int)=kidsK k) && numB o V bv k n && nameB k s && rowB o (D+bd) k r && sys.all (brB o (D+bd) k)
def okT (o:Bool) (V:Int) (D:Nat):Tm->Nat->Nat->Bool :=
 Tm.fold fun k n s r ks sys bv bd=>nodeB o V D k n s r ks.length (sys.map fun b=>(b.1,b.2.length)) bv bd && (ptsG k ks sys).all fun p=>p.1 (bv+p.2.1) (bd+p.2.2)
def Tm.node (o:Bool) (V:Int) (D:Nat) (t:Tm) (bv bd:Nat):Bool:=nodeB o V D t.kind t.n t.name t.r t.kids.length (t.sys.map fun b=>(b.1,b.2.length)) bv bd
theorem ok_eq (o:Bool) (V:Int) (D:Nat) (t:Tm) (bv bd:Nat):okT o V D t bv bd=(t.node o V D bv bd && t.pts.all fun p=>okT o V D p.1 (bv+p.2.1) (bd+p.2.2)):=by
 unfold okT
 rw [fold_mk]
 simp only [List.length_map,List.map_map,Function.comp_def]
 rw [ptsG_map,List.all_map]
 rfl
def usT (n:Int):Tm->Nat->Bool:=Tm.fold fun k m _ _ ks sys bv=>(decide (k=1) && decide (0<=n) && decide (m=n+bv)) || (ptsG k ks sys).any fun p=>p.1 (bv+p.2.1)
def orL (l:List Nat):Nat:=l.foldl (· ||| ·) 0
def dmT:Tm->Nat->Nat:=Tm.fold fun k _ _ r ks sys bd=>((dimsN r ||| orL (sys.map fun b=>dimsN b.1)) >>> bd) ||| orL ((ptsG k ks sys).map fun p=>p.1 (bd+p.2.2))
def Tm.own (t:Tm):Nat:=dimsN t.r ||| orL (t.sys.map fun b=>dimsN b.1)
end Go.Proofs.YtblbhmnahoiecaaGreat
