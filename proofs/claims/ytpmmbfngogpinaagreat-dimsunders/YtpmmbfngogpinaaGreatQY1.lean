/- The plain mathematics of layer 10: terms of any kinds, their nodes, which of them may be, what they use. Terms in memory; worlds in which some blocks are as they were. Two terms that are the same: the code's Same. What lies in memory lies in blocks that there are. -/
import Derived.Test.YtpmmbfngogpinaaGreatQMA
import Derived.WalkKit
import Derived.Below
import Derived.Test.YtpmmbfngogpinaaGreatProg
import Derived.Deep.QuietTactic
import Derived.BigQuiet
import Derived.WalkSmall
import Derived.Test.YtpmmbfngogpinaaGreatQFB
set_option linter.unusedVariables false
set_option linter.unusedSimpArgs false
namespace Go.Proofs.YtpmmbfngogpinaaGreat
structure Tm where
 mk ::
 kind:Int
 n:Int
 name:ByteArray
 r:List C
 kids:List Tm
 sys:List (List C × List Tm)
theorem Tm.ind {P:Tm→Prop} (h:∀ k n s r kids sys,(∀ x∈kids,P x)→(∀ b∈sys,∀ x∈b.2,P x)→P (.mk k n s r kids sys)):∀ t,P t
 | .mk k n s r kids sys=>h k n s r kids sys (fun x hx=>Tm.ind h x) (fun b hb x hx=>Tm.ind h x)
termination_by t=>SizeOf.sizeOf t
decreasing_by
 ·have:=List.sizeOf_lt_of_mem hx;simp;omega
 ·have h1:=List.sizeOf_lt_of_mem hb;have h2:=List.sizeOf_lt_of_mem hx;obtain⟨a,c⟩:=b;simp at *; omega
def Tm.fold {α:Type} (f:Int→Int→ByteArray→List C→List α→List (List C × List α)→α):Tm→α
 | .mk k n s r kids sys=>f k n s r (kids.attach.map fun x=>Tm.fold f x.1) (sys.attach.map fun b=>(b.1.1,b.1.2.attach.map fun x=>Tm.fold f x.1))
termination_by t=>SizeOf.sizeOf t
decreasing_by
 ·have:=List.sizeOf_lt_of_mem x.2;simp;omega
 ·have h1:=List.sizeOf_lt_of_mem b.2;have h2:=List.sizeOf_lt_of_mem x.2;obtain⟨⟨a,c⟩,hb⟩:=b;simp at *; omega
theorem fold_mk {α:Type} (f:Int→Int→ByteArray→List C→List α→List (List C × List α)→α) (t:Tm) :
  Tm.fold f t=f t.kind t.n t.name t.r (t.kids.map (Tm.fold f)) (t.sys.map fun b=>(b.1,b.2.map (Tm.fold f))):=by
 obtain⟨k,n,s,r,kids,sys⟩:=t
 rw [Tm.fold]
 congr 1
 ·rw [List.attach_map_val (l:=kids) (f:=Tm.fold f)]
 ·have e:(fun b:{ x // x∈sys }=>(b.1.1,b.1.2.attach.map fun x=>Tm.fold f x.1))=fun b:{ x // x∈sys }=>(fun b:List C × List Tm=>(b.1,b.2.map (Tm.fold f))) b.1:=by
   funext b
   rw [List.attach_map_val (l:=b.1.2) (f:=Tm.fold f)]
  rw [e,List.attach_map_val (l:=sys) (f:=fun b:List C × List Tm=>(b.1,b.2.map (Tm.fold f)))]
def kidsK (k:Int):Int :=
 if k=1∨k=2∨k=3∨k=19∨k=20∨k=21∨k=24∨k=25 then 0
 else if k=5∨k=9∨k=10∨k=12∨k=16∨k=17∨k=18∨k=23∨k=26 then 1
 else if k=4∨k=6∨k=7∨k=8∨k=14∨k=15∨k=28 then 2
 else if k=11∨k=13 then 3
 else if k=22 then 4
 else if k=27 then 5
 else -1
def bvK (k:Int) (i:Nat):Nat:=if ((k=4∨k=7)∧i=1)∨((k=5∨k=22∨k=27)∧i=0) then 1 else 0
def bdK (k:Int) (i:Nat):Nat:=if (k=11∨k=12∨k=14)∧i=0 then 1 else 0
def bvI (k i:Int):Int:=if ((k=4∨k=7)∧i=1)∨((k=5∨k=22∨k=27)∧i=0) then 1 else 0
def bdI (k i:Int):Int:=if (k=11∨k=12∨k=14)∧i=0 then 1 else 0
theorem bvI_nat (k:Int) (i:Nat):bvI k (i:Int)=(bvK k i:Int):=by
 have h1:((i:Int)=1)↔i=1:=by omega
 have h0:((i:Int)=0)↔i=0:=by omega
 unfold bvI bvK;simp only [h1,h0];split <;> rfl
theorem bdI_nat (k:Int) (i:Nat):bdI k (i:Int)=(bdK k i:Int):=by
 have h0:((i:Int)=0)↔i=0:=by omega
 unfold bdI bdK;simp only [h0];split <;> rfl
theorem bvK_le (k:Int) (i:Nat):bvK k i≤1:=by unfold bvK;split <;> omega
theorem bdK_le (k:Int) (i:Nat):bdK k i≤1:=by unfold bdK;split <;> omega
def partsK (k:Int):Int:=if k=16 then 2 else if k=15∨k=17∨k=18 then 1 else 0
def moreK (k:Int):Nat:=if k=15 then 1 else 0
theorem moreK_le (k:Int):moreK k≤1:=by unfold moreK;split <;> omega
def ptsG {α:Type} (k:Int) (ks:List α) (sys:List (List C × List α)):List (α × Nat × Nat) :=
 (ks.zipIdx.map fun p=>(p.1,bvK k p.2,bdK k p.2)) ++ sys.flatMap fun b=>b.2.map fun x=>(x,0,moreK k)
theorem ptsG_map {α β:Type} (f:α→β) (k:Int) (ks:List α) (sys:List (List C × List α)) :
  ptsG k (ks.map f) (sys.map fun b=>(b.1,b.2.map f))=(ptsG k ks sys).map fun p=>(f p.1,p.2):=by
 unfold ptsG
 rw [List.map_append,List.map_map,List.zipIdx_map,List.map_map,List.map_flatMap,List.flatMap_map]
 congr 1
 congr 1
 funext b
 simp [List.map_map,Function.comp_def]
def Tm.pts (t:Tm):List (Tm × Nat × Nat):=ptsG t.kind t.kids t.sys
theorem pts_kid {t:Tm} {i:Nat} {x:Tm} (h:t.kids[i]? = some x):(x,bvK t.kind i,bdK t.kind i)∈t.pts:=by
 unfold Tm.pts ptsG
 rw [List.mem_append]
 left
 rw [List.mem_map]
 exact⟨(x,i),by rw [List.mem_zipIdx_iff_getElem?];exact h,rfl⟩
theorem pts_sys {t:Tm} {b:List C × List Tm} {x:Tm} (hb:b∈t.sys) (hx:x∈b.2):(x,0,moreK t.kind)∈t.pts:=by
 unfold Tm.pts ptsG
 rw [List.mem_append]
 right
 rw [List.mem_flatMap]
 exact⟨b,hb,List.mem_map.2 ⟨x,hx,rfl⟩⟩
theorem mem_pts {t:Tm} {p:Tm × Nat × Nat} (h:p∈t.pts):(∃ i,t.kids[i]? = some p.1∧p.2=(bvK t.kind i,bdK t.kind i))∨∃ b∈t.sys,p.1∈b.2∧p.2=(0,moreK t.kind):=by
 unfold Tm.pts ptsG at h
 rw [List.mem_append] at h
 rcases h with h|h
 ·obtain⟨q,hq,rfl⟩:=List.mem_map.1 h
  exact .inl ⟨q.2,List.mem_zipIdx_iff_getElem?.1 hq,rfl⟩
 ·obtain⟨b,hb,h⟩:=List.mem_flatMap.1 h
  obtain⟨x,hx,rfl⟩:=List.mem_map.1 h
  exact .inr ⟨b,hb,hx,rfl⟩
theorem pts_le {t:Tm} {p:Tm × Nat × Nat} (h:p∈t.pts):p.2.1≤1∧p.2.2≤1:=by
 rcases mem_pts h with ⟨i,_,e⟩|⟨b,_,_,e⟩ <;> rw [e]
 ·exact⟨bvK_le _ _,bdK_le _ _⟩
 ·exact⟨by omega,moreK_le _⟩
def maxL (l:List Nat):Nat:=l.foldr max 0
theorem maxL_mem {l:List Nat} {x:Nat} (h:x∈l):x≤maxL l:=by
 induction l with
 | nil=>cases h
 | cons a l ih =>
  show x≤max a (maxL l)
  rcases List.mem_cons.1 h with rfl|h
  ·omega
  ·have:=ih h;omega
theorem maxL_append (l m:List Nat):maxL (l++m)=max (maxL l) (maxL m):=by
 induction l with
 | nil=>simp [maxL]
 | cons a l ih=>show max a (maxL (l++m))=max (max a (maxL l)) _;rw [ih];omega
theorem maxL_le {l:List Nat} {b:Nat} (h:∀ x∈l,x≤b):maxL l≤b:=by
 induction l with
 | nil=>simp [maxL]
 | cons a l ih =>
  show max a (maxL l)≤b
  have h1:=h a (by simp)
  have h2:=ih fun x hx=>h x (by simp [hx])
  omega
def sizeT:Tm→Nat:=Tm.fold fun _ _ _ _ ks sys=>1+(ks.sum+(sys.map fun b=>b.2.sum).sum)
def depthT:Tm→Nat:=Tm.fold fun _ _ _ _ ks sys=>1+max (maxL ks) (maxL (sys.map fun b=>maxL b.2))
def blk:Tm→Nat:=Tm.fold fun _ _ s r ks sys=>1+r.length+s.size+ks.sum+(sys.map fun b=>1+b.1.length+b.2.sum).sum
def szL (l:List Tm):Nat:=(l.map sizeT).sum
def szS (l:List (List C × List Tm)):Nat:=(l.map fun b=>szL b.2).sum
def dpL (l:List Tm):Nat:=maxL (l.map depthT)
def dpS (l:List (List C × List Tm)):Nat:=maxL (l.map fun b=>dpL b.2)
def blkL (l:List Tm):Nat:=(l.map blk).sum
def blkS (l:List (List C × List Tm)):Nat:=(l.map fun b=>1+b.1.length+blkL b.2).sum
theorem size_eq (t:Tm):sizeT t=1+(szL t.kids+szS t.sys):=by
 unfold sizeT;rw [fold_mk];simp only [List.map_map,Function.comp_def];rfl
theorem depth_eq (t:Tm):depthT t=1+max (dpL t.kids) (dpS t.sys):=by
 unfold depthT;rw [fold_mk];simp only [List.map_map,Function.comp_def];rfl
theorem blk_eq (t:Tm):blk t=1+t.r.length+t.name.size+blkL t.kids+blkS t.sys:=by
 unfold blk;rw [fold_mk];simp only [List.map_map,Function.comp_def];rfl
theorem sumN_mem {l:List Nat} {x:Nat} (h:x∈l):x≤l.sum:=by
 induction l with
 | nil=>cases h
 | cons a l ih =>
  rw [List.sum_cons]
  rcases List.mem_cons.1 h with rfl|h
  ·omega
  ·have:=ih h;omega
theorem sumN_take (l:List Nat) (k:Nat):(l.take k).sum≤l.sum:=by
 induction l generalizing k with
 | nil=>simp
 | cons a l ih =>
  cases k with
  | zero=>simp
  | succ k=>have:=ih k;simp;omega
theorem sumN_le {α:Type} {f g:α→Nat} {l:List α} (h:∀ x∈l,f x≤g x):(l.map f).sum≤(l.map g).sum:=by
 induction l with
 | nil=>simp
 | cons a l ih =>
  have h1:=h a (by simp)
  have h2:=ih fun x hx=>h x (by simp [hx])
  simp;omega
theorem sumN_len {α:Type} (f:α→Nat) (hf:∀ a,1≤f a) (l:List α):l.length≤(l.map f).sum:=by
 induction l with
 | nil=>simp
 | cons a l ih=>have:=hf a;simp;omega
theorem blk_pos (t:Tm):1≤blk t:=by rw [blk_eq];omega
theorem size_pos (t:Tm):1≤sizeT t:=by rw [size_eq];omega
theorem depth_pos (t:Tm):1≤depthT t:=by rw [depth_eq];omega
theorem blk_kid {t x:Tm} (h:x∈t.kids):blk x<blk t:=by
 rw [blk_eq t]
 have:=sumN_mem (List.mem_map_of_mem (f:=blk) h)
 have e:blkL t.kids=(t.kids.map blk).sum:=rfl
 omega
theorem blk_br {t:Tm} {b:List C × List Tm} (h:b∈t.sys):1+b.1.length+blkL b.2<blk t:=by
 rw [blk_eq t]
 have:=sumN_mem (List.mem_map_of_mem (f:=fun b:List C × List Tm=>1+b.1.length+blkL b.2) h)
 have e:blkS t.sys=(t.sys.map fun b=>1+b.1.length+blkL b.2).sum:=rfl
 omega
theorem blk_sub {t x:Tm} {b:List C × List Tm} (h:b∈t.sys) (hx:x∈b.2):blk x<blk t:=by
 have h1:=blk_br h
 have:=sumN_mem (List.mem_map_of_mem (f:=blk) hx)
 have e:blkL b.2=(b.2.map blk).sum:=rfl
 omega
theorem blkL_len (l:List Tm):l.length≤blkL l:=sumN_len blk blk_pos l
theorem blkS_len (l:List (List C × List Tm)):l.length≤blkS l:=sumN_len _ (fun _=>by omega) l
theorem blk_lens (t:Tm):t.r.length<blk t∧t.name.size<blk t∧t.kids.length<blk t∧t.sys.length<blk t:=by
 rw [blk_eq];have:=blkL_len t.kids;have:=blkS_len t.sys;omega
theorem blk_pts {t:Tm} {p:Tm × Nat × Nat} (h:p∈t.pts):blk p.1<blk t:=by
 rcases mem_pts h with ⟨i,h1,_⟩|⟨b,h1,h2,_⟩
 ·exact blk_kid (List.mem_of_getElem? h1)
 ·exact blk_sub h1 h2
theorem blkL_step {l:List Tm} {k:Nat} {x:Tm} (h:l[k]? = some x):blkL (l.take (k+1))=blkL (l.take k) + blk x:=by
 unfold blkL;rw [List.take_add_one,h];simp
theorem blkS_step {l:List (List C × List Tm)} {k:Nat} {x:List C × List Tm} (h:l[k]? = some x):blkS (l.take (k+1))=blkS (l.take k) + (1+x.1.length+blkL x.2):=by
 unfold blkS;rw [List.take_add_one,h];simp
theorem blkL_take (l:List Tm) (k:Nat):blkL (l.take k)≤blkL l:=by unfold blkL;rw [List.map_take];exact sumN_take _ k
theorem blkS_take (l:List (List C × List Tm)) (k:Nat):blkS (l.take k)≤blkS l:=by unfold blkS;rw [List.map_take];exact sumN_take _ k
theorem szL_step {l:List Tm} {k:Nat} {x:Tm} (h:l[k]? = some x):szL (l.take (k+1))=szL (l.take k) + sizeT x:=by
 unfold szL;rw [List.take_add_one,h];simp
theorem szS_step {l:List (List C × List Tm)} {k:Nat} {x:List C × List Tm} (h:l[k]? = some x):szS (l.take (k+1))=szS (l.take k) + szL x.2:=by
 unfold szS;rw [List.take_add_one,h];simp
theorem dpL_step {l:List Tm} {k:Nat} {x:Tm} (h:l[k]? = some x):dpL (l.take (k+1))=max (dpL (l.take k)) (depthT x):=by
 unfold dpL;rw [List.take_add_one,h];simp [maxL_append];simp [maxL]
theorem dpS_step {l:List (List C × List Tm)} {k:Nat} {x:List C × List Tm} (h:l[k]? = some x):dpS (l.take (k+1))=max (dpS (l.take k)) (dpL x.2):=by
 unfold dpS;rw [List.take_add_one,h];simp [maxL_append];simp [maxL]
theorem size_blk:∀ t:Tm,sizeT t≤blk t:=Tm.ind fun k n s r kids sys h1 h2=>by
 rw [size_eq,blk_eq]
 have e1:szL kids≤blkL kids:=sumN_le h1
 have e2:szS sys≤blkS sys:=sumN_le fun b hb=>by
  have:szL b.2≤blkL b.2:=sumN_le (h2 b hb)
  omega
 simp only;omega
theorem depth_size:∀ t:Tm,depthT t≤sizeT t:=Tm.ind fun k n s r kids sys h1 h2=>by
 rw [size_eq,depth_eq]
 have e1:dpL kids≤szL kids:=maxL_le fun x hx=>by
  obtain⟨y,hy,rfl⟩:=List.mem_map.1 hx
  exact Nat.le_trans (h1 y hy) (sumN_mem (List.mem_map_of_mem hy))
 have e2:dpS sys≤szS sys:=maxL_le fun x hx=>by
  obtain⟨b,hb,rfl⟩:=List.mem_map.1 hx
  have:dpL b.2≤szL b.2:=maxL_le fun x hx=>by
   obtain⟨y,hy,rfl⟩:=List.mem_map.1 hx
   exact Nat.le_trans (h2 b hb y hy) (sumN_mem (List.mem_map_of_mem hy))
  exact Nat.le_trans this (sumN_mem (List.mem_map_of_mem (f:=fun b:List C × List Tm=>szL b.2) hb))
 simp only;omega
def letterU (c:UInt8):Bool:=(97≤c.toNat && c.toNat≤122) || (65≤c.toNat && c.toNat≤90) || c.toNat == 95
def digitU (c:UInt8):Bool:=48≤c.toNat && c.toNat≤57
def nmTo (s:ByteArray) (k:Nat):Prop:=∀ (j:Nat) (h:j<s.size),j<k→(letterU s[j] || (decide (0<j) && digitU s[j]))=true
def nmB (s:ByteArray):Bool:=decide (0<s.size) && (List.range s.size).all fun j=>if h:j<s.size then letterU s[j] || (decide (0<j) && digitU s[j]) else true
theorem nmB_iff (s:ByteArray):nmB s=true↔0<s.size∧nmTo s s.size:=by
 unfold nmB nmTo
 rw [Bool.and_eq_true,List.all_eq_true,decide_eq_true_eq]
 constructor
 ·rintro⟨h1,h2⟩
  exact⟨h1,fun j hj _=>by have:=h2 j (by simpa using hj);rwa [dif_pos hj] at this⟩
 ·rintro⟨h1,h2⟩
  refine⟨h1,fun j hj=>?_⟩
  rw [List.mem_range] at hj
  rw [dif_pos hj];exact h2 j hj hj
theorem nmB_true {s:ByteArray} (h0:0<s.size) (h:nmTo s s.size):nmB s=true:=(nmB_iff s).2 ⟨h0,h⟩
theorem nmB_zero {s:ByteArray} (h0:s.size=0):nmB s=false:=by unfold nmB;simp [h0]
theorem nmB_bad {s:ByteArray} (j:Nat) (h:j<s.size) (hb:(letterU s[j] || (decide (0<j) && digitU s[j]))=false):nmB s=false:=by
 rw [Bool.eq_false_iff]
 intro h1
 have:=((nmB_iff s).1 h1).2 j h h
 rw [hb] at this;cases this
theorem nmTo_zero (s:ByteArray):nmTo s 0:=fun j h hj=>by omega
theorem nmTo_step {s:ByteArray} {k:Nat} (h:nmTo s k) (hk:k<s.size) (hb:(letterU s[k] || (decide (0<k) && digitU s[k]))=true):nmTo s (k+1):=fun j hj hjk=>by
 rcases Nat.lt_or_ge j k with h1|h1
 ·exact h j hj h1
 ·obtain rfl:j=k:=by omega
  exact hb
def numB (o:Bool) (V:Int) (bv:Nat) (k n:Int):Bool:=if k=1 then decide (0≤n) && (o || decide (n - bv<V)) else decide (n=0)
def nameB (k:Int) (s:ByteArray):Bool:=if k=2 then nmB s else decide (s.size=0)
def reachB (o:Bool) (e:Nat) (r:List C):Bool:=o || decide (dimsN r / 2 ^ e=0)
def rowB (o:Bool) (e:Nat) (k:Int) (r:List C):Bool :=
 if k=13∨k=21∨k=26 then rightF r && reachB o e r else if k=14 then rightA r && reachB o e r else decide (r.length=0)
def brB (o:Bool) (e:Nat) (k:Int) (b:List C × Nat):Bool:=!decide (partsK k=0) && decide ((b.2:Int)=partsK k) && rightA b.1 && reachB o e b.1
def nodeB (o:Bool) (V:Int) (D:Nat) (k n:Int) (s:ByteArray) (r:List C) (nk:Nat) (sys:List (List C × Nat)) (bv bd:Nat):Bool :=
 (o || decide (bd+D≤24)) && decide ((nk:Int)=kidsK k) && numB o V bv k n && nameB k s && rowB o (D+bd) k r && sys.all (brB o (D+bd) k)
def okT (o:Bool) (V:Int) (D:Nat):Tm→Nat→Nat→Bool :=
 Tm.fold fun k n s r ks sys bv bd=>nodeB o V D k n s r ks.length (sys.map fun b=>(b.1,b.2.length)) bv bd && (ptsG k ks sys).all fun p=>p.1 (bv+p.2.1) (bd+p.2.2)
def Tm.node (o:Bool) (V:Int) (D:Nat) (t:Tm) (bv bd:Nat):Bool:=nodeB o V D t.kind t.n t.name t.r t.kids.length (t.sys.map fun b=>(b.1,b.2.length)) bv bd
theorem ok_eq (o:Bool) (V:Int) (D:Nat) (t:Tm) (bv bd:Nat):okT o V D t bv bd=(t.node o V D bv bd && t.pts.all fun p=>okT o V D p.1 (bv+p.2.1) (bd+p.2.2)):=by
 unfold okT
 rw [fold_mk]
 simp only [List.length_map,List.map_map,Function.comp_def]
 rw [ptsG_map,List.all_map]
 rfl
def usT (n:Int):Tm→Nat→Bool:=Tm.fold fun k m _ _ ks sys bv=>(decide (k=1) && decide (0≤n) && decide (m=n+bv)) || (ptsG k ks sys).any fun p=>p.1 (bv+p.2.1)
def orL (l:List Nat):Nat:=l.foldl (· ||| ·) 0
def dmT:Tm→Nat→Nat:=Tm.fold fun k _ _ r ks sys bd=>((dimsN r ||| orL (sys.map fun b=>dimsN b.1)) >>> bd) ||| orL ((ptsG k ks sys).map fun p=>p.1 (bd+p.2.2))
def Tm.own (t:Tm):Nat:=dimsN t.r ||| orL (t.sys.map fun b=>dimsN b.1)
end Go.Proofs.YtpmmbfngogpinaaGreat

set_option linter.unusedVariables false
set_option linter.unusedSimpArgs false
namespace Go.Proofs.YtpmmbfngogpinaaGreat
open Go.RowKit
theorem belowA (w:World) (o:Obj):Below w.heap.size w (w.alloc o):=(Below.refl _ _).alloc (Nat.le_refl _) _
theorem bchain {a b c:World} (h1:Below a.heap.size a b) (h2:Below b.heap.size b c):Below a.heap.size a c:=h1.trans (h2.mono h1.size)
theorem heapNew (w:World) (o:Obj):(w.alloc o).heap[w.heap.size]? = some o:=by show (w.heap.push o)[w.heap.size]? = some o;simp
structure Kn (No:Nat→Prop) (w w':World):Prop where
 os:w'.os=w.os
 tape:w'.tape=w.tape
 output:w'.output=w.output
 size:w.heap.size≤w'.heap.size
 block:∀ k,No k→k<w.heap.size→w'.heap[k]? = w.heap[k]?
theorem Kn.refl (No:Nat→Prop) (w:World):Kn No w w:=⟨rfl,rfl,rfl,Nat.le_refl _,fun _ _ _=>rfl⟩
theorem Kn.trans {No:Nat→Prop} {w1 w2 w3:World} (h:Kn No w1 w2) (k:Kn No w2 w3):Kn No w1 w3 :=
 ⟨k.os.trans h.os,k.tape.trans h.tape,k.output.trans h.output,Nat.le_trans h.size k.size,fun i hi hb=>(k.block i hi (Nat.lt_of_lt_of_le hb h.size)).trans (h.block i hi hb)⟩
theorem Kn.sub {No No':Nat→Prop} {w w':World} (h:Kn No w w') (hs:∀ g,No' g→No g):Kn No' w w':=⟨h.os,h.tape,h.output,h.size,fun k hk hb=>h.block k (hs k hk) hb⟩
theorem Kn.of_below {No:Nat→Prop} {w w':World} (h:Below w.heap.size w w'):Kn No w w':=⟨h.os,h.tape,h.output,h.size,fun k _ hb=>h.block k hb⟩
theorem Kn.below {No:Nat→Prop} {n:Nat} {w w':World} (h:Kn No w w') (hn:∀ g,g<n→No g) (hs:n≤w.heap.size):Below n w w':=⟨h.os,h.tape,h.output,h.size,fun k hk=>h.block k (hn k hk) (Nat.lt_of_lt_of_le hk hs)⟩
theorem Kn.cell {No:Nat→Prop} {w w':World} (h:Kn No w w') {p:Addr} (hp:No p.block) (hs:p.block<w.heap.size):w'.cell? p=w.cell? p:=World.cell?_of_block (w:=w) (h.block p.block hp hs)
theorem Kn.frozen {No:Nat→Prop} {w w':World} (h:Kn No w w') {p:Addr} (hp:No p.block) (hs:p.block<w.heap.size):w'.frozen? p=w.frozen? p:=World.frozen?_of_block (w:=w) (h.block p.block hp hs)
theorem Kn.drew {No:Nat→Prop} {w w':World} (h:Kn No w w'):Kn No w w'.drew:=⟨h.os,h.tape,h.output,h.size,h.block⟩
theorem Kn.alloc {No:Nat→Prop} {w w':World} (h:Kn No w w') (o:Obj):Kn No w (w'.alloc o):=h.trans (Kn.of_below (belowA w' o))
theorem Kn.setCell {No:Nat→Prop} {w w':World} (h:Kn No w w') {p:Addr} (hp:¬ No p.block∨w.heap.size≤p.block) (u:Value):Kn No w (w'.setCell p u):=by
 refine⟨h.os,h.tape,h.output,by simpa [World.setCell] using h.size,fun k hk hb=>(Below.heap_setCell _ _ _ _ ?_).trans (h.block k hk hb)⟩
 rcases hp with hp|hp
 ·intro e
  subst e
  exact hp hk
 ·omega
def I64 (n:Int):Prop:=-9223372036854775808≤n∧n≤9223372036854775807
def ClRow (ok:Nat→Prop) (w:World) (l:List C) (v:Value):Prop :=
 ∃ a cap,v=.slice a l.length cap∧l.length≤cap∧∀ (j:Nat) (c:C),l[j]? = some c→∃ g off,a=some ⟨g,off,none⟩∧ok g∧g<w.heap.size∧w.cell? ⟨g,off+j*2,none⟩=some (.int .u32 (c.1.val:Int))∧w.cell? ⟨g,off+j*2+1,none⟩=some (.int .u32 (c.2.val:Int))
def KdT (ok:Nat→Prop) (w:World) (P:Tm→Value→Prop) (l:List Tm) (v:Value):Prop :=
 ∃ a cap,v=.slice a l.length cap∧l.length≤cap∧∀ (j:Nat) (x:Tm),l[j]? = some x→∃ g off u0 u1 u2 u3 u4 u5,a=some ⟨g,off,none⟩∧ok g∧g<w.heap.size∧P x (.agg #[u0,u1,u2,u3,u4,u5]) ∧
  w.cell? ⟨g,off+j*6,none⟩=some u0∧w.cell? ⟨g,off+j*6+1,none⟩=some u1∧w.cell? ⟨g,off+j*6+2,none⟩=some u2∧w.cell? ⟨g,off+j*6+3,none⟩=some u3∧w.cell? ⟨g,off+j*6+4,none⟩=some u4∧w.cell? ⟨g,off+j*6+5,none⟩=some u5
def SyT (ok:Nat→Prop) (w:World) (P:Tm→Value→Prop) (l:List (List C × List Tm)) (v:Value):Prop :=
 ∃ a cap,v=.slice a l.length cap∧l.length≤cap∧∀ (j:Nat) (x:List C × List Tm),l[j]? = some x→∃ g off vf vk,a=some ⟨g,off,none⟩∧ok g∧g<w.heap.size∧ClRow ok w x.1 vf∧KdT ok w P x.2 vk∧w.cell? ⟨g,off+j*2,none⟩=some vf∧w.cell? ⟨g,off+j*2+1,none⟩=some vk
def TmCl (ok:Nat→Prop) (w:World) (P:Tm→Value→Prop):Prop :=
 ∀ (k n:Int) (nm:ByteArray) (r:List C) (kids:List Tm) (sys:List (List C × List Tm)) (vr vk vs:Value),I64 k→I64 n→ClRow ok w r vr→KdT ok w P kids vk→SyT ok w P sys vs→P (.mk k n nm r kids sys) (.agg #[.int .i64 k,.int .i64 n,.string nm,vr,vk,vs])
def TmIn (ok:Nat→Prop) (w:World) (t:Tm) (v:Value):Prop:=∀ P:Tm→Value→Prop,TmCl ok w P→P t v
theorem KdT.mono {ok:Nat→Prop} {w:World} {P Q:Tm→Value→Prop} {l:List Tm} {v:Value} (h:KdT ok w P l v) (hq:∀ x v,P x v→Q x v):KdT ok w Q l v:=by
 obtain⟨a,cap,h1,h2,h3⟩:=h
 refine⟨a,cap,h1,h2,fun j x hx=>?_⟩
 obtain⟨g,off,u0,u1,u2,u3,u4,u5,a1,a2,a3,a4,a5⟩:=h3 j x hx
 exact⟨g,off,u0,u1,u2,u3,u4,u5,a1,a2,a3,hq _ _ a4,a5⟩
theorem SyT.mono {ok:Nat→Prop} {w:World} {P Q:Tm→Value→Prop} {l:List (List C × List Tm)} {v:Value} (h:SyT ok w P l v) (hq:∀ x v,P x v→Q x v):SyT ok w Q l v:=by
 obtain⟨a,cap,h1,h2,h3⟩:=h
 refine⟨a,cap,h1,h2,fun j x hx=>?_⟩
 obtain⟨g,off,vf,vk,a1,a2,a3,a4,a5,a6⟩:=h3 j x hx
 exact⟨g,off,vf,vk,a1,a2,a3,a4,a5.mono hq,a6⟩
theorem TmIn.mk {ok:Nat→Prop} {w:World} (k n:Int) (nm:ByteArray) (r:List C) (kids:List Tm) (sys:List (List C × List Tm)) (vr vk vs:Value) (hk:I64 k) (hn:I64 n) (h1:ClRow ok w r vr) (h2:KdT ok w (TmIn ok w) kids vk) (h3:SyT ok w (TmIn ok w) sys vs) :
  TmIn ok w (.mk k n nm r kids sys) (.agg #[.int .i64 k,.int .i64 n,.string nm,vr,vk,vs]) :=
 fun P h=>h k n nm r kids sys vr vk vs hk hn h1 (h2.mono fun _ _ hx=>hx P h) (h3.mono fun _ _ hx=>hx P h)
structure TmTop (ok:Nat→Prop) (w:World) (t:Tm) (ra:Option Addr) (rc:Nat) (ka:Option Addr) (kc:Nat) (sa:Option Addr) (sc:Nat):Prop where
 ik:I64 t.kind
 inn:I64 t.n
 row:ClRow ok w t.r (.slice ra t.r.length rc)
 kids:KdT ok w (TmIn ok w) t.kids (.slice ka t.kids.length kc)
 sys:SyT ok w (TmIn ok w) t.sys (.slice sa t.sys.length sc)
theorem TmTop.value {ok:Nat→Prop} {w:World} {t:Tm} {ra rc ka kc sa sc} (h:TmTop ok w t ra rc ka kc sa sc):TmIn ok w t (.agg #[.int .i64 t.kind,.int .i64 t.n,.string t.name,.slice ra t.r.length rc,.slice ka t.kids.length kc,.slice sa t.sys.length sc]):=by
 obtain⟨k,n,s,r,kids,sys⟩:=t
 exact .mk _ _ _ _ _ _ _ _ _ h.ik h.inn h.row h.kids h.sys
theorem TmIn.form {ok:Nat→Prop} {w:World} {t:Tm} {v:Value} (h:TmIn ok w t v):∃ ra rc ka kc sa sc,v=.agg #[.int .i64 t.kind,.int .i64 t.n,.string t.name,.slice ra t.r.length rc,.slice ka t.kids.length kc,.slice sa t.sys.length sc]∧TmTop ok w t ra rc ka kc sa sc:=by
 have h2:=h (fun t v=>TmIn ok w t v∧∃ ra rc ka kc sa sc,v=.agg #[.int .i64 t.kind,.int .i64 t.n,.string t.name,.slice ra t.r.length rc,.slice ka t.kids.length kc,.slice sa t.sys.length sc]∧TmTop ok w t ra rc ka kc sa sc) (fun k n nm r kids sys vr vk vs hk hn h1 h2 h3=>by
  refine⟨.mk k n nm r kids sys vr vk vs hk hn h1 (h2.mono fun _ _ h=>h.1) (h3.mono fun _ _ h=>h.1),?_⟩
  have e2:=h2.mono (Q:=TmIn ok w) fun _ _ h=>h.1
  have e3:=h3.mono (Q:=TmIn ok w) fun _ _ h=>h.1
  obtain⟨ra,rc,rfl,_⟩:=id h1
  obtain⟨ka,kc,rfl,_⟩:=id h2
  obtain⟨sa,sc,rfl,_⟩:=id h3
  exact⟨ra,rc,ka,kc,sa,sc,rfl,hk,hn,h1,e2,e3⟩)
 exact h2.2
theorem ClRow.keep {ok ok':Nat→Prop} {w w':World} {l:List C} {v:Value} (h:ClRow ok w l v) (hs:w.heap.size≤w'.heap.size) (ho:∀ g,ok g→ok' g) (hb:∀ g,ok g→g<w.heap.size→w'.heap[g]? = w.heap[g]?):ClRow ok' w' l v:=by
 obtain⟨a,cap,h1,h2,h3⟩:=h
 refine⟨a,cap,h1,h2,fun j x hx=>?_⟩
 obtain⟨g,off,a1,a2,a3,a4,a5⟩:=h3 j x hx
 exact⟨g,off,a1,ho g a2,Nat.lt_of_lt_of_le a3 hs,(World.cell?_of_block (w:=w) (a:=⟨g,off+j*2,none⟩) (hb g a2 a3)).trans a4,(World.cell?_of_block (w:=w) (a:=⟨g,off+j*2+1,none⟩) (hb g a2 a3)).trans a5⟩
theorem KdT.keep {ok ok':Nat→Prop} {w w':World} {P:Tm→Value→Prop} {l:List Tm} {v:Value} (h:KdT ok w P l v) (hs:w.heap.size≤w'.heap.size) (ho:∀ g,ok g→ok' g) (hb:∀ g,ok g→g<w.heap.size→w'.heap[g]? = w.heap[g]?):KdT ok' w' P l v:=by
 obtain⟨a,cap,h1,h2,h3⟩:=h
 refine⟨a,cap,h1,h2,fun j x hx=>?_⟩
 obtain⟨g,off,u0,u1,u2,u3,u4,u5,a1,a2,a3,a4,c0,c1,c2,c3,c4,c5⟩:=h3 j x hx
 have c:=fun i=>World.cell?_of_block (w:=w) (w':=w') (a:=⟨g,i,none⟩) (hb g a2 a3)
 exact⟨g,off,u0,u1,u2,u3,u4,u5,a1,ho g a2,Nat.lt_of_lt_of_le a3 hs,a4,(c _).trans c0,(c _).trans c1,(c _).trans c2,(c _).trans c3,(c _).trans c4,(c _).trans c5⟩
theorem SyT.keep {ok ok':Nat→Prop} {w w':World} {P:Tm→Value→Prop} {l:List (List C × List Tm)} {v:Value} (h:SyT ok w P l v) (hs:w.heap.size≤w'.heap.size) (ho:∀ g,ok g→ok' g) (hb:∀ g,ok g→g<w.heap.size→w'.heap[g]? = w.heap[g]?):SyT ok' w' P l v:=by
 obtain⟨a,cap,e1,e2,e3⟩:=h
 refine⟨a,cap,e1,e2,fun j x hx=>?_⟩
 obtain⟨g,off,vf,vk,a1,a2,a3,a4,a5,c0,c1⟩:=e3 j x hx
 have c:=fun i=>World.cell?_of_block (w:=w) (w':=w') (a:=⟨g,i,none⟩) (hb g a2 a3)
 exact⟨g,off,vf,vk,a1,ho g a2,Nat.lt_of_lt_of_le a3 hs,a4.keep hs ho hb,a5.keep hs ho hb,(c _).trans c0,(c _).trans c1⟩
theorem TmIn.keep {ok ok':Nat→Prop} {w w':World} {t:Tm} {v:Value} (h:TmIn ok w t v) (hs:w.heap.size≤w'.heap.size) (ho:∀ g,ok g→ok' g) (hb:∀ g,ok g→g<w.heap.size→w'.heap[g]? = w.heap[g]?):TmIn ok' w' t v :=
 h (TmIn ok' w') fun k n nm r kids sys vr vk vs hk hn h1 h2 h3=>.mk k n nm r kids sys vr vk vs hk hn (h1.keep hs ho hb) (h2.keep hs ho hb) (h3.keep hs ho hb)
theorem TmTop.keep {ok ok':Nat→Prop} {w w':World} {t:Tm} {ra rc ka kc sa sc} (h:TmTop ok w t ra rc ka kc sa sc) (hs:w.heap.size≤w'.heap.size) (ho:∀ g,ok g→ok' g) (hb:∀ g,ok g→g<w.heap.size→w'.heap[g]? = w.heap[g]?):TmTop ok' w' t ra rc ka kc sa sc :=
 ⟨h.ik,h.inn,h.row.keep hs ho hb,(h.kids.keep hs ho hb).mono fun _ _ hx=>hx.keep hs ho hb,(h.sys.keep hs ho hb).mono fun _ _ hx=>hx.keep hs ho hb⟩
theorem KdT.all {ok ok':Nat→Prop} {w w':World} {l:List Tm} {v:Value} (h:KdT ok w (TmIn ok w) l v) (hs:w.heap.size≤w'.heap.size) (ho:∀ g,ok g→ok' g) (hb:∀ g,ok g→g<w.heap.size→w'.heap[g]? = w.heap[g]?):KdT ok' w' (TmIn ok' w') l v :=
 (h.keep hs ho hb).mono fun _ _ hx=>hx.keep hs ho hb
theorem SyT.all {ok ok':Nat→Prop} {w w':World} {l:List (List C × List Tm)} {v:Value} (h:SyT ok w (TmIn ok w) l v) (hs:w.heap.size≤w'.heap.size) (ho:∀ g,ok g→ok' g) (hb:∀ g,ok g→g<w.heap.size→w'.heap[g]? = w.heap[g]?):SyT ok' w' (TmIn ok' w') l v :=
 (h.keep hs ho hb).mono fun _ _ hx=>hx.keep hs ho hb
theorem TmIn.blw {ok:Nat→Prop} {w w':World} {t:Tm} {v:Value} (h:TmIn ok w t v) (hb:Below w.heap.size w w'):TmIn ok w' t v:=h.keep hb.size (fun _ h=>h) (fun g _ hg=>hb.block g hg)
theorem TmTop.blw {ok:Nat→Prop} {w w':World} {t:Tm} {ra rc ka kc sa sc} (h:TmTop ok w t ra rc ka kc sa sc) (hb:Below w.heap.size w w'):TmTop ok w' t ra rc ka kc sa sc:=h.keep hb.size (fun _ h=>h) (fun g _ hg=>hb.block g hg)
theorem KdT.blw {ok:Nat→Prop} {w w':World} {l:List Tm} {v:Value} (h:KdT ok w (TmIn ok w) l v) (hb:Below w.heap.size w w'):KdT ok w' (TmIn ok w') l v:=h.all hb.size (fun _ h=>h) (fun g _ hg=>hb.block g hg)
theorem SyT.blw {ok:Nat→Prop} {w w':World} {l:List (List C × List Tm)} {v:Value} (h:SyT ok w (TmIn ok w) l v) (hb:Below w.heap.size w w'):SyT ok w' (TmIn ok w') l v:=h.all hb.size (fun _ h=>h) (fun g _ hg=>hb.block g hg)
theorem ClRow.blw {ok:Nat→Prop} {w w':World} {l:List C} {v:Value} (h:ClRow ok w l v) (hb:Below w.heap.size w w'):ClRow ok w' l v:=h.keep hb.size (fun _ h=>h) (fun g _ hg=>hb.block g hg)
theorem TmTop.kn {ok No:Nat→Prop} {w w':World} {t:Tm} {ra rc ka kc sa sc} (h:TmTop ok w t ra rc ka kc sa sc) (hk:Kn No w w') (ho:∀ g,ok g→No g):TmTop ok w' t ra rc ka kc sa sc:=h.keep hk.size (fun _ h=>h) (fun g h1 h2=>hk.block g (ho g h1) h2)
theorem KdT.kn {ok No:Nat→Prop} {w w':World} {l:List Tm} {v:Value} (h:KdT ok w (TmIn ok w) l v) (hk:Kn No w w') (ho:∀ g,ok g→No g):KdT ok w' (TmIn ok w') l v:=h.all hk.size (fun _ h=>h) (fun g h1 h2=>hk.block g (ho g h1) h2)
theorem SyT.kn {ok No:Nat→Prop} {w w':World} {l:List (List C × List Tm)} {v:Value} (h:SyT ok w (TmIn ok w) l v) (hk:Kn No w w') (ho:∀ g,ok g→No g):SyT ok w' (TmIn ok w') l v:=h.all hk.size (fun _ h=>h) (fun g h1 h2=>hk.block g (ho g h1) h2)
theorem TmIn.kn {ok No:Nat→Prop} {w w':World} {t:Tm} {v:Value} (h:TmIn ok w t v) (hk:Kn No w w') (ho:∀ g,ok g→No g):TmIn ok w' t v:=h.keep hk.size (fun _ h=>h) (fun g h1 h2=>hk.block g (ho g h1) h2)
theorem TmIn.up {ok ok':Nat→Prop} {w:World} {t:Tm} {v:Value} (h:TmIn ok w t v) (ho:∀ g,ok g→ok' g):TmIn ok' w t v:=h.keep (Nat.le_refl _) ho (fun _ _ _=>rfl)
theorem TmTop.up {ok ok':Nat→Prop} {w:World} {t:Tm} {ra rc ka kc sa sc} (h:TmTop ok w t ra rc ka kc sa sc) (ho:∀ g,ok g→ok' g):TmTop ok' w t ra rc ka kc sa sc:=h.keep (Nat.le_refl _) ho (fun _ _ _=>rfl)
theorem cl_nil (ok:Nat→Prop) (w:World):ClRow ok w [] (.slice none 0 0):=⟨none,0,rfl,Nat.le_refl _,fun j x hx=>by simp at hx⟩
theorem kt_nil (ok:Nat→Prop) (w:World) (P:Tm→Value→Prop):KdT ok w P [] (.slice none 0 0):=⟨none,0,rfl,Nat.le_refl _,fun j x hx=>by simp at hx⟩
theorem sy_nil (ok:Nat→Prop) (w:World) (P:Tm→Value→Prop):SyT ok w P [] (.slice none 0 0):=⟨none,0,rfl,Nat.le_refl _,fun j x hx=>by simp at hx⟩
structure Cs6 (w:World) (g off:Nat) (t:Tm) (ra:Option Addr) (rc:Nat) (ka:Option Addr) (kc:Nat) (sa:Option Addr) (sc:Nat):Prop where
 lt:g<w.heap.size
 c0:w.cell? ⟨g,off,none⟩=some (.int .i64 t.kind)
 c1:w.cell? ⟨g,off+1,none⟩=some (.int .i64 t.n)
 c2:w.cell? ⟨g,off+2,none⟩=some (.string t.name)
 c3:w.cell? ⟨g,off+3,none⟩=some (.slice ra t.r.length rc)
 c4:w.cell? ⟨g,off+4,none⟩=some (.slice ka t.kids.length kc)
 c5:w.cell? ⟨g,off+5,none⟩=some (.slice sa t.sys.length sc)
theorem Cs6.keep {w w':World} {g off:Nat} {t:Tm} {ra rc ka kc sa sc} (h:Cs6 w g off t ra rc ka kc sa sc) (hs:w.heap.size≤w'.heap.size) (hb:w'.heap[g]? = w.heap[g]?):Cs6 w' g off t ra rc ka kc sa sc:=by
 have c:=fun i=>World.cell?_of_block (w:=w) (w':=w') (a:=⟨g,i,none⟩) hb
 exact⟨Nat.lt_of_lt_of_le h.lt hs,(c _).trans h.c0,(c _).trans h.c1,(c _).trans h.c2,(c _).trans h.c3,(c _).trans h.c4,(c _).trans h.c5⟩
theorem Cs6.blw {w w':World} {g off:Nat} {t:Tm} {ra rc ka kc sa sc} (h:Cs6 w g off t ra rc ka kc sa sc) (hb:Below w.heap.size w w'):Cs6 w' g off t ra rc ka kc sa sc:=h.keep hb.size (hb.block g h.lt)
theorem Cs6.kn {No:Nat→Prop} {w w':World} {g off:Nat} {t:Tm} {ra rc ka kc sa sc} (h:Cs6 w g off t ra rc ka kc sa sc) (hk:Kn No w w') (hg:No g):Cs6 w' g off t ra rc ka kc sa sc:=h.keep hk.size (hk.block g hg h.lt)
theorem KdT.at {ok:Nat→Prop} {w:World} {l:List Tm} {a:Option Addr} {n cap:Nat} (h:KdT ok w (TmIn ok w) l (.slice a n cap)) {j:Nat} {x:Tm} (hx:l[j]? = some x) :
  ∃ g off ra rc ka kc sa sc,a=some ⟨g,off,none⟩∧ok g∧Cs6 w g (off+j*6) x ra rc ka kc sa sc∧TmTop ok w x ra rc ka kc sa sc:=by
 obtain⟨a',cap',e,_,h3⟩:=h
 cases e
 obtain⟨g,off,u0,u1,u2,u3,u4,u5,a1,a2,a3,a4,c0,c1,c2,c3,c4,c5⟩:=h3 j x hx
 obtain⟨ra,rc,ka,kc,sa,sc,e,ht⟩:=a4.form
 injection e with e
 simp only [Array.mk.injEq,List.cons.injEq,and_true] at e
 obtain⟨rfl,rfl,rfl,rfl,rfl,rfl⟩:=e
 exact⟨g,off,ra,rc,ka,kc,sa,sc,a1,a2,⟨a3,c0,c1,c2,c3,c4,c5⟩,ht⟩
structure Cs2 (w:World) (g off:Nat) (b:List C × List Tm) (fa:Option Addr) (fc:Nat) (ka:Option Addr) (kc:Nat):Prop where
 lt:g<w.heap.size
 c0:w.cell? ⟨g,off,none⟩=some (.slice fa b.1.length fc)
 c1:w.cell? ⟨g,off+1,none⟩=some (.slice ka b.2.length kc)
theorem Cs2.keep {w w':World} {g off:Nat} {b:List C × List Tm} {fa fc ka kc} (h:Cs2 w g off b fa fc ka kc) (hs:w.heap.size≤w'.heap.size) (hb:w'.heap[g]? = w.heap[g]?):Cs2 w' g off b fa fc ka kc:=by
 have c:=fun i=>World.cell?_of_block (w:=w) (w':=w') (a:=⟨g,i,none⟩) hb
 exact⟨Nat.lt_of_lt_of_le h.lt hs,(c _).trans h.c0,(c _).trans h.c1⟩
theorem Cs2.blw {w w':World} {g off:Nat} {b:List C × List Tm} {fa fc ka kc} (h:Cs2 w g off b fa fc ka kc) (hb:Below w.heap.size w w'):Cs2 w' g off b fa fc ka kc:=h.keep hb.size (hb.block g h.lt)
theorem SyT.at {ok:Nat→Prop} {w:World} {l:List (List C × List Tm)} {a:Option Addr} {n cap:Nat} (h:SyT ok w (TmIn ok w) l (.slice a n cap)) {j:Nat} {x:List C × List Tm} (hx:l[j]? = some x) :
  ∃ g off fa fc ka kc,a=some ⟨g,off,none⟩∧ok g∧Cs2 w g (off+j*2) x fa fc ka kc∧ClRow ok w x.1 (.slice fa x.1.length fc)∧KdT ok w (TmIn ok w) x.2 (.slice ka x.2.length kc):=by
 obtain⟨a',cap',e,_,h3⟩:=h
 cases e
 obtain⟨g,off,vf,vk,a1,a2,a3,a4,a5,c0,c1⟩:=h3 j x hx
 obtain⟨fa,fc,rfl,_⟩:=id a4
 obtain⟨ka,kc,rfl,_⟩:=id a5
 exact⟨g,off,fa,fc,ka,kc,a1,a2,⟨a3,c0,c1⟩,a4,a5⟩
theorem ClRow.cap {ok:Nat→Prop} {w:World} {l:List C} {a:Option Addr} {n cap:Nat} (h:ClRow ok w l (.slice a n cap)):l.length≤cap:=by
 obtain⟨a',cap',e,h2,_⟩:=h;cases e;exact h2
theorem KdT.cap {ok:Nat→Prop} {w:World} {P} {l:List Tm} {a:Option Addr} {n cap:Nat} (h:KdT ok w P l (.slice a n cap)):l.length≤cap:=by
 obtain⟨a',cap',e,h2,_⟩:=h;cases e;exact h2
theorem SyT.cap {ok:Nat→Prop} {w:World} {P} {l:List (List C × List Tm)} {a:Option Addr} {n cap:Nat} (h:SyT ok w P l (.slice a n cap)):l.length≤cap:=by
 obtain⟨a',cap',e,h2,_⟩:=h;cases e;exact h2
theorem cs6_of {w:World} {x:Nat} {t:Tm} {ra:Option Addr} {rc:Nat} {ka:Option Addr} {kc:Nat} {sa:Option Addr} {sc:Nat} {ty:TypeId} {f:Nat × Nat} (h:w.heap[x]? = some (.cells #[.int .i64 t.kind,.int .i64 t.n,.string t.name,.slice ra t.r.length rc,.slice ka t.kids.length kc,.slice sa t.sys.length sc] ty f)):Cs6 w x 0 t ra rc ka kc sa sc:=by
 refine⟨(Array.getElem?_eq_some_iff.1 h).1,?_,?_,?_,?_,?_,?_⟩ <;> simp [World.cell?,h]
theorem cs6_new (w:World) (t:Tm) (ra:Option Addr) (rc:Nat) (ka:Option Addr) (kc:Nat) (sa:Option Addr) (sc:Nat):Cs6 (w.alloc (.cells #[.int .i64 t.kind,.int .i64 t.n,.string t.name,.slice ra t.r.length rc,.slice ka t.kids.length kc,.slice sa t.sys.length sc] 26)) w.heap.size 0 t ra rc ka kc sa sc:=cs6_of (heapNew w _)
theorem cs2_of {w:World} {x:Nat} {b:List C × List Tm} {fa:Option Addr} {fc:Nat} {ka:Option Addr} {kc:Nat} {ty:TypeId} {f:Nat × Nat} (h:w.heap[x]? = some (.cells #[.slice fa b.1.length fc,.slice ka b.2.length kc] ty f)):Cs2 w x 0 b fa fc ka kc:=by
 refine⟨(Array.getElem?_eq_some_iff.1 h).1,?_,?_⟩ <;> simp [World.cell?,h]
theorem cs2_new (w:World) (b:List C × List Tm) (fa:Option Addr) (fc:Nat) (ka:Option Addr) (kc:Nat):Cs2 (w.alloc (.cells #[.slice fa b.1.length fc,.slice ka b.2.length kc] 40)) w.heap.size 0 b fa fc ka kc:=cs2_of (heapNew w _)
theorem someL {α:Type} {l:List α} {k:Nat} (h:k<l.length):∃ c,l[k]? = some c:=⟨l[k],List.getElem?_eq_getElem h⟩
theorem some_lt {α:Type} {l:List α} {k:Nat} {x:α} (h:l[k]? = some x):k<l.length:=(List.getElem?_eq_some_iff.1 h).1
end Go.Proofs.YtpmmbfngogpinaaGreat

set_option linter.unusedVariables false
set_option linter.unusedSimpArgs false
namespace Go.Proofs.YtpmmbfngogpinaaGreat
open Go.RowKit
theorem ClRow.row {ok:Nat→Prop} {w:World} {l:List C} {v:Value} (h:ClRow ok w l v):CRow w v l:=by
 obtain⟨a,cap,rfl,h2,h3⟩:=h
 by_cases hz:l=[]
 ·subst hz;exact .inl ⟨_,_,rfl,rfl⟩
 ·obtain⟨c,hc⟩:=someL (l:=l) (k:=0) (List.length_pos_iff.2 hz)
  obtain⟨g,off,rfl,_,hg,_⟩:=h3 0 c hc
  refine .inr ⟨g,off,cap,rfl,hg,fun j c hj=>?_⟩
  obtain⟨g',off',e,_,_,c0,c1⟩:=h3 j c hj
  cases e
  exact⟨c0,c1⟩
theorem ClRow.frow {ok:Nat→Prop} {w:World} {l:List C} {v:Value} (h:ClRow ok w l v):FRow w v l :=
 ⟨h.row,by obtain⟨a,cap,rfl,h2,h3⟩:=h;exact⟨_,_,_,rfl,h2⟩⟩
def Cw (w:World):Type:={ w':World // Below w.heap.size w w' }
theorem cw_any (w:World):Nonempty (Cw w):=⟨⟨w,Below.refl _ _⟩⟩
theorem wp_region_cw {id:Nat} {Q:Exit→Act→World→Prop} {a:Act} {w:World} {l:List Oper} (hm:Tryz.prog.follows .mixedOrders=true) (hB:Region.lexB .any l.toArray=true)
  (h:wpQuiet Tryz.prog l.toArray (fun w'=>∃ u:Cw w,w'=u.1) (fun a'=>∀ w',(∃ u:Cw w,w'=u.1)→Q .normal a' w') l a):(Code.region id l.toArray true).wp Tryz.prog Q a w :=
 wp_region_quiet (C:=fun w'=>∃ u:Cw w,w'=u.1) hm hB ⟨⟨_,Below.drew (Below.refl _ _)⟩,rfl⟩ (by simpa using h)
theorem cw_call {w:World} {f:FuncId} {args:Array Value} {v:Value} (u:Cw w) (h:Calls Tryz.prog f args u.1 fun e w'=>e=.returned v∧Below u.1.heap.size u.1 w'):Calls Tryz.prog f args u.1 fun e w'=>e=.returned v∧∃ u':Cw w,w'=u'.1 :=
 h.mono fun e w' ⟨he,hb⟩=>⟨he,⟨w',bchain u.2 hb⟩,rfl⟩
abbrev Tt:Nat→Prop:=fun _=>True
theorem TmTop.tt {ok:Nat→Prop} {w:World} {t:Tm} {ra rc ka kc sa sc} (h:TmTop ok w t ra rc ka kc sa sc):TmTop Tt w t ra rc ka kc sa sc:=h.up fun _ _=>trivial
theorem bool_of (p:Prop):∃ b:Bool,(b=true↔p):=⟨@decide p (Classical.propDecidable p),by simp⟩
theorem Tm.eq_iff (t u:Tm):t=u↔t.kind=u.kind∧t.n=u.n∧t.name=u.name∧t.r=u.r∧t.kids=u.kids∧t.sys=u.sys:=by
 obtain⟨a,b,c,d,e,f⟩:=t
 obtain⟨a',b',c',d',e',f'⟩:=u
 simp
end Go.Proofs.YtpmmbfngogpinaaGreat

set_option linter.unusedVariables false
set_option linter.unusedSimpArgs false
namespace Go.Proofs.YtpmmbfngogpinaaGreat
open Go.RowKit
theorem ClRow.lo {w:World} {l:List C} {v:Value} (h:ClRow Tt w l v):ClRow (fun q=>q<w.heap.size) w l v:=by
 obtain⟨a,cap,h1,h2,h3⟩:=h
 refine⟨a,cap,h1,h2,fun j x hx=>?_⟩
 obtain⟨g,off,a1,_,a3,a4⟩:=h3 j x hx
 exact⟨g,off,a1,a3,a3,a4⟩
theorem KdT.lo {w:World} {P:Tm→Value→Prop} {l:List Tm} {v:Value} (h:KdT Tt w P l v):KdT (fun q=>q<w.heap.size) w P l v:=by
 obtain⟨a,cap,h1,h2,h3⟩:=h
 refine⟨a,cap,h1,h2,fun j x hx=>?_⟩
 obtain⟨g,off,u0,u1,u2,u3,u4,u5,a1,_,a3,a4⟩:=h3 j x hx
 exact⟨g,off,u0,u1,u2,u3,u4,u5,a1,a3,a3,a4⟩
theorem SyT.lo {w:World} {P:Tm→Value→Prop} {l:List (List C × List Tm)} {v:Value} (h:SyT Tt w P l v):SyT (fun q=>q<w.heap.size) w P l v:=by
 obtain⟨a,cap,h1,h2,h3⟩:=h
 refine⟨a,cap,h1,h2,fun j x hx=>?_⟩
 obtain⟨g,off,vf,vk,a1,_,a3,a4,a5,a6⟩:=h3 j x hx
 exact⟨g,off,vf,vk,a1,a3,a3,a4.lo,a5.lo,a6⟩
theorem TmIn.lo {w:World} {t:Tm} {v:Value} (h:TmIn Tt w t v):TmIn (fun q=>q<w.heap.size) w t v :=
 h _ fun k n nm r kids sys vr vk vs hk hn h1 h2 h3=>.mk k n nm r kids sys vr vk vs hk hn h1.lo h2.lo h3.lo
theorem TmTop.lo {w:World} {t:Tm} {ra rc ka kc sa sc} (h:TmTop Tt w t ra rc ka kc sa sc):TmTop (fun q=>q<w.heap.size) w t ra rc ka kc sa sc :=
 ⟨h.ik,h.inn,h.row.lo,h.kids.lo.mono fun _ _ hx=>hx.lo,h.sys.lo.mono fun _ _ hx=>hx.lo⟩
end Go.Proofs.YtpmmbfngogpinaaGreat

