/- Math, MathB, CMath, CLst, FMathA, FMathB, FMathC, in one text. Plain mathematics for the layer mask: a set of dimensions as a number, its list of dimensions, sums and joins of powers of two. Nothing of the program is imported. More plain mathematics for the layer mask: what lifting and dropping do to the list of dimensions. Plain mathematics for the layer clause: a clause as two numbers of 32 bits, the order, being below, and the least rows. Nothing of the program is imported. Plain mathematics: what is told of a row of clauses, and what the least row covers. Nothing of the program is imported. Plain mathematics for the layer formula: the least row as a function, formulas that may be, what two make. Nothing of the program is imported. Plain mathematics for the layer formula: the laws of joining and meeting, and the opposite. Nothing of the program is imported. Plain mathematics for the layer formula: putting a formula in a dimension's place, and a formula's dimensions. Nothing of the program is imported. What the small functions of the layer mask, and those of the document's answer that call few others, hand back; they leave the world as it is. What mask.Right and the document's power, Right and Has hand back; they leave the world as it is. What the small functions of the layer clause hand back; each lays blocks of its own at most. Cmp: -1, 0 or 1 by the order; blocks of its own are laid at most. Rows of clauses in memory: owned, and read. The document's answer: Same tells whether two rows are alike; nothing that lay before the call turns. -/
import Derived.Laws.BitsLemmas
import Derived.WalkKit
import Derived.Test.YtahnbigkdfmpbaaGreatDoorProg
import Derived.Sort.Grow
import Derived.Deep.Draws
import Derived.Deep.RegionHeld3
import Derived.Lib.QuietBelow
import Derived.Laws.OwnMore
import Derived.OwnWalk
import Derived.Deep.Onto
import Derived.Deep.QuietTactic
import Derived.BigQuiet
import Derived.WalkSmall
set_option linter.unusedVariables false
set_option linter.unusedSimpArgs false
namespace Go.Proofs.YtahnbigkdfmpbaaGreatDoor.F
def dimsOf (s:Nat):List Nat:=(List.range 24).filter (fun k=>s.testBit k)
theorem mem_dimsOf {s k:Nat}:k∈dimsOf s↔k<24∧s.testBit k=true:=by simp [dimsOf]
theorem dimsOf_lt {s:Nat}:∀ k∈dimsOf s,k<24:=fun _ h=>(mem_dimsOf.1 h).1
theorem dimsOf_length_le (s:Nat):(dimsOf s).length≤24:=by
 have:=List.length_filter_le (fun k=>s.testBit k) (List.range 24)
 simpa [dimsOf] using this
theorem testBit_low (s k:Nat):(s &&& 16777215).testBit k=(decide (k<24) && s.testBit k):=by
 have e:(16777215:Nat)=2 ^ 24 - 1:=by decide
 rw [e,Nat.and_two_pow_sub_one_eq_mod,Nat.testBit_mod_two_pow]
theorem low_lt (s:Nat):s &&& 16777215<16777216:=by
 have e:(16777215:Nat)=2 ^ 24 - 1:=by decide
 rw [e,Nat.and_two_pow_sub_one_eq_mod];exact Nat.mod_lt _ (by decide)
def andNot32 (a b:Nat):Nat:=(BitVec.ofNat 32 a &&& ~~~ BitVec.ofNat 32 b).toNat
theorem andNot32_lt (a b:Nat):andNot32 a b<4294967296:=(BitVec.ofNat 32 a &&& ~~~ BitVec.ofNat 32 b).isLt
theorem testBit_andNot32 (a b k:Nat) (ha:a<4294967296):(andNot32 a b).testBit k=(a.testBit k && !b.testBit k):=by
 have h:(andNot32 a b).testBit k=(BitVec.ofNat 32 a &&& ~~~ BitVec.ofNat 32 b).getLsbD k:=rfl
 rw [h,BitVec.getLsbD_and,BitVec.getLsbD_not,BitVec.getLsbD_ofNat,BitVec.getLsbD_ofNat]
 by_cases hk:k<32
 ·simp [hk]
 ·have hp:2 ^ 32≤2 ^ k:=Nat.pow_le_pow_right (by decide) (by omega)
  have:a.testBit k=false:=Nat.testBit_lt_two_pow (Nat.lt_of_lt_of_le ha hp)
  simp [this]
theorem wraps_u32 (n:Int) (h₀:0≤n) (h₁:n<2 ^ 32):IntKind.u32.wrap n=n:=by rw [IntKind.wrap_u32];omega
theorem bits_and32 (a b:Nat) (ha:a<4294967296) (hb:b<4294967296):bits .and .u32 a b=((a &&& b:Nat):Int) :=
 (bits_nat .u32 32 (by decide) wraps_u32 a b (by omega) (by omega)).1
theorem bits_or32 (a b:Nat) (ha:a<4294967296) (hb:b<4294967296):bits .or .u32 a b=((a ||| b:Nat):Int) :=
 (bits_nat .u32 32 (by decide) wraps_u32 a b (by omega) (by omega)).2
theorem bits_andNot32 (a b:Nat):bits .andNot .u32 a b=((andNot32 a b:Nat):Int):=by
 show IntKind.u32.wrap ((BitVec.ofInt 32 (a:Int) &&& ~~~ BitVec.ofInt 32 (b:Int)).toNat:Int)=_
 rw [BitVec.ofInt_natCast,BitVec.ofInt_natCast]
 exact wraps_u32 _ (Int.natCast_nonneg _) (by have:=andNot32_lt a b;unfold andNot32 at this;omega)
theorem pow_mod32 (i:Nat) (hi:i<24):((2:Int) ^ i % 4294967296)=((2 ^ i:Nat):Int):=by
 have:(2:Nat) ^ i<2 ^ 24:=Nat.pow_lt_pow_right (by decide) hi
 have e:((2:Int) ^ i)=((2 ^ i:Nat):Int):=by simp
 rw [e]
 generalize (2:Nat) ^ i=x at *
 omega
theorem pow_lt (i:Nat) (hi:i<24):2 ^ i<4294967296:=by
 have:(2:Nat) ^ i<2 ^ 24:=Nat.pow_lt_pow_right (by decide) hi
 omega
def rightB (s:Nat):Bool:=decide (s<16777216)
def isDimB (i:Int):Bool:=decide (0≤i) && decide (i<24)
def hasB (s:Nat) (i:Int):Bool:=isDimB i && s.testBit i.toNat
def withN (s:Nat) (i:Int):Nat:=if isDimB i then (s &&& 16777215) ||| 2 ^ i.toNat else s &&& 16777215
def withoutN (s:Nat) (i:Int):Nat:=if isDimB i then andNot32 (s &&& 16777215) (2 ^ i.toNat) else s &&& 16777215
theorem isDimB_yes {i:Int} (h0:0≤i) (h1:i<24):isDimB i=true:=by simp [isDimB,h0,h1]
theorem isDimB_nat {k:Nat} (h:k<24):isDimB (k:Int)=true:=isDimB_yes (by omega) (by omega)
theorem hasB_nat {s k:Nat} (h:k<24):hasB s (k:Int)=s.testBit k:=by simp [hasB,isDimB_nat h]
theorem hasB_no {s:Nat} {i:Int} (h:isDimB i=false):hasB s i=false:=by simp [hasB,h]
theorem testBit_withoutN_nat (s i k:Nat) (hi:i<24):(withoutN s (i:Int)).testBit k=((decide (k<24) && s.testBit k) && !decide (i=k)):=by
 unfold withoutN
 rw [isDimB_nat hi]
 simp only [if_true,Int.toNat_natCast]
 rw [testBit_andNot32 _ _ _ (by have:=low_lt s;omega),testBit_low,Nat.testBit_two_pow]
theorem withoutN_lt (s:Nat) (i:Int):withoutN s i<16777216:=by
 unfold withoutN
 split
 ·rename_i h
  have h':0≤i∧i<24:=by simpa [isDimB] using h
  exact Nat.lt_pow_two_of_testBit (n:=24) _ (fun k hk=>by
   rw [testBit_andNot32 _ _ _ (by have:=low_lt s;omega),testBit_low]
   have:¬ k<24:=by omega
   simp [this])
 ·exact low_lt s
theorem withN_no {s:Nat} {i:Int} (h:isDimB i=false):withN s i=s &&& 16777215:=by simp [withN,h]
end Go.Proofs.YtahnbigkdfmpbaaGreatDoor.F
namespace Go.Proofs.YtahnbigkdfmpbaaGreatDoor.F
end Go.Proofs.YtahnbigkdfmpbaaGreatDoor.F
namespace Go.Proofs.YtahnbigkdfmpbaaGreatDoor.F
abbrev C:=Fin 4294967296 × Fin 4294967296
def top0:C:=(0,0)
def rightC (c:C):Bool:=rightB c.1.val && rightB c.2.val
def meetP (a b:C):Nat:=(a.1.val ||| b.1.val) &&& 16777215
def meetN (a b:C):Nat:=(a.2.val ||| b.2.val) &&& 16777215
theorem meetP_lt (a b:C):meetP a b<4294967296:=Nat.lt_trans (low_lt _) (by decide)
theorem meetN_lt (a b:C):meetN a b<4294967296:=Nat.lt_trans (low_lt _) (by decide)
def meetC (a b:C):C:=(⟨meetP a b,meetP_lt a b⟩,⟨meetN a b,meetN_lt a b⟩)
def sub24 (y x:Nat):Bool:=decide (andNot32 y x &&& 16777215=0)
def belP (a b:C):Bool:=sub24 b.1.val a.1.val
def belN (a b:C):Bool:=sub24 b.2.val a.2.val
def belC (a b:C):Bool:=belP a b && belN a b
def cmpN (x y:Nat):Int:=if x<y then -1 else if y<x then 1 else 0
def cmpC (a b:C):Int:=if cmpN a.1.val b.1.val≠0 then cmpN a.1.val b.1.val else cmpN a.2.val b.2.val
def ltC (a b:C):Bool:=decide (a.1.val<b.1.val) || (decide (a.1.val=b.1.val) && decide (a.2.val<b.2.val))
theorem c_ext {a b:C} (h1:a.1.val=b.1.val) (h2:a.2.val=b.2.val):a=b:=Prod.ext (Fin.ext h1) (Fin.ext h2)
theorem ltC_irrefl (a:C):ltC a a=false:=by simp [ltC]
theorem ltC_trans {a b c:C} (h1:ltC a b=true) (h2:ltC b c=true):ltC a c=true:=by
 simp only [ltC,Bool.or_eq_true,Bool.and_eq_true,decide_eq_true_eq] at *; omega
theorem ltC_total {a b:C} (h1:ltC a b=false) (h2:ltC b a=false):a=b:=by
 simp only [ltC,Bool.or_eq_false_iff,Bool.and_eq_false_iff,decide_eq_false_iff_not] at *
 exact c_ext (by omega) (by omega)
theorem ltC_asymm {a b:C} (h1:ltC a b=true):ltC b a=false:=by
 cases h:ltC b a
 ·rfl
 ·have:=ltC_trans h1 h;rw [ltC_irrefl] at this;exact absurd this (by simp)
theorem ltC_ne {a b:C} (h1:ltC a b=true):a≠b:=by rintro rfl;rw [ltC_irrefl] at h1;exact absurd h1 (by simp)
theorem cmpN_cases (x y:Nat):(x<y∧cmpN x y = -1)∨(y<x∧cmpN x y=1)∨(x=y∧cmpN x y=0):=by
 unfold cmpN
 by_cases h:x<y
 ·exact .inl ⟨h,by simp [h]⟩
 ·by_cases h2:y<x
  ·exact .inr (.inl ⟨h2,by simp [h,h2]⟩)
  ·exact .inr (.inr ⟨by omega,by simp [h,h2]⟩)
theorem cmpC_cases (a b:C):(ltC a b=true∧cmpC a b = -1)∨(ltC b a=true∧cmpC a b=1)∨(a=b∧cmpC a b=0):=by
 unfold cmpC
 rcases cmpN_cases a.1.val b.1.val with ⟨h,e⟩|⟨h,e⟩|⟨h,e⟩
 ·exact .inl ⟨by simp [ltC,h],by simp [e]⟩
 ·exact .inr (.inl ⟨by simp [ltC,h],by simp [e]⟩)
 ·rcases cmpN_cases a.2.val b.2.val with ⟨h2,e2⟩|⟨h2,e2⟩|⟨h2,e2⟩
  ·exact .inl ⟨by simp [ltC,h,h2],by simp [e,e2]⟩
  ·exact .inr (.inl ⟨by simp [ltC,h,h2],by simp [e,e2]⟩)
  ·exact .inr (.inr ⟨c_ext h h2,by simp [e,e2]⟩)
theorem cmpC_lt (a b:C):decide (cmpC a b<0)=ltC a b:=by
 rcases cmpC_cases a b with ⟨h,e⟩|⟨h,e⟩|⟨h,e⟩
 ·rw [h,e];rfl
 ·rw [ltC_asymm h,e];rfl
 ·subst h;rw [ltC_irrefl,e];rfl
theorem sub24_iff {y x:Nat} (hy:y<4294967296):sub24 y x=true↔∀ k,k<24→y.testBit k=true→x.testBit k=true:=by
 unfold sub24
 rw [decide_eq_true_eq]
 constructor
 ·intro h k hk hb
  have h2:(andNot32 y x &&& 16777215).testBit k=false:=by rw [h];simp
  rw [testBit_low,testBit_andNot32 _ _ _ hy] at h2
  simp [hk,hb] at h2
  exact h2
 ·intro h
  apply Nat.eq_of_testBit_eq
  intro k
  rw [testBit_low,testBit_andNot32 _ _ _ hy,Nat.zero_testBit]
  by_cases hk:k<24
  ·cases hb:y.testBit k
   ·simp
   ·simp [h k hk hb]
  ·simp [hk]
theorem belC_iff {a b:C}:belC a b=true↔(∀ k,k<24→b.1.val.testBit k=true→a.1.val.testBit k=true)∧(∀ k,k<24→b.2.val.testBit k=true→a.2.val.testBit k=true):=by
 unfold belC belP belN
 rw [Bool.and_eq_true,sub24_iff b.1.isLt,sub24_iff b.2.isLt]
theorem belC_refl (a:C):belC a a=true:=belC_iff.2 ⟨fun _ _ h=>h,fun _ _ h=>h⟩
theorem belC_trans {a b c:C} (h1:belC a b=true) (h2:belC b c=true):belC a c=true:=by
 rw [belC_iff] at *
 exact⟨fun k hk h=>h1.1 k hk (h2.1 k hk h),fun k hk h=>h1.2 k hk (h2.2 k hk h)⟩
theorem rightC_iff {c:C}:rightC c=true↔c.1.val<16777216∧c.2.val<16777216:=by simp [rightC,rightB]
theorem bit_lt24 {x k:Nat} (h:x<16777216) (hb:x.testBit k=true):k<24:=by
 rcases Nat.lt_or_ge k 24 with h1|h1
 ·exact h1
 ·have:x<2 ^ k:=Nat.lt_of_lt_of_le h (Nat.pow_le_pow_right (n:=2) (by decide) h1)
  rw [Nat.testBit_lt_two_pow this] at hb
  exact absurd hb (by simp)
theorem sub_or {x y:Nat} (hy:y<16777216) (h:∀ k,k<24→y.testBit k=true→x.testBit k=true):x ||| y=x:=by
 apply Nat.eq_of_testBit_eq
 intro k
 rw [Nat.testBit_or]
 cases hb:y.testBit k
 ·simp
 ·simp [h k (bit_lt24 hy hb) hb]
theorem sub_le {x y:Nat} (hy:y<16777216) (h:∀ k,k<24→y.testBit k=true→x.testBit k=true):y≤x:=by
 rw [← sub_or hy h];exact Nat.right_le_or
theorem bel_lt {a b:C} (hb:rightC b=true) (h:belC a b=true) (hne:a≠b):ltC b a=true:=by
 have hb:=rightC_iff.1 hb
 rw [belC_iff] at h
 have h1:=sub_le hb.1 h.1
 have h2:=sub_le hb.2 h.2
 simp only [ltC,Bool.or_eq_true,Bool.and_eq_true,decide_eq_true_eq]
 rcases Nat.lt_or_eq_of_le h1 with h3|h3
 ·exact .inl h3
 ·rcases Nat.lt_or_eq_of_le h2 with h4|h4
  ·exact .inr ⟨h3,h4⟩
  ·exact absurd (c_ext h3.symm h4.symm) hne
def risesC (l:List C):Prop:=l.Pairwise (fun a b=>ltC a b=true)
theorem rises_ext:∀ {l m:List C},risesC l→risesC m→(∀ k,k∈l↔k∈m)→l=m
 | [],[],_,_,_=>rfl
 | [],b :: m,_,_,h=>absurd ((h b).2 (by simp)) (by simp)
 | a :: l,[],_,_,h=>absurd ((h a).1 (by simp)) (by simp)
 | a :: l,b :: m,hl,hm,h=>by
  have hl':=List.pairwise_cons.1 hl
  have hm':=List.pairwise_cons.1 hm
  have hab:a=b:=by
   rcases List.mem_cons.1 ((h a).1 (by simp)) with e|e
   ·exact e
   ·rcases List.mem_cons.1 ((h b).2 (by simp)) with f|f
    ·exact f.symm
    ·have x:=hm'.1 a e;have y:=hl'.1 b f;rw [ltC_asymm x] at y;exact absurd y (by simp)
  subst hab
  congr 1
  refine rises_ext hl'.2 hm'.2 (fun k=>⟨fun hk=>?_,fun hk=>?_⟩)
  ·rcases List.mem_cons.1 ((h k).1 (List.mem_cons_of_mem _ hk)) with e|e
   ·exact absurd e.symm (ltC_ne (hl'.1 k hk))
   ·exact e
  ·rcases List.mem_cons.1 ((h k).2 (List.mem_cons_of_mem _ hk)) with e|e
   ·exact absurd e.symm (ltC_ne (hm'.1 k hk))
   ·exact e
def neededB (l:List C) (c:C):Bool:=l.all (fun d=>decide (d=c) || !belC c d)
theorem needed_iff {l:List C} {c:C}:neededB l c=true↔∀ d∈l,belC c d=true→d=c:=by
 simp only [neededB,List.all_eq_true,Bool.or_eq_true,decide_eq_true_eq,Bool.not_eq_true']
 exact⟨fun h d hd hb=>(h d hd).resolve_right (by simp [hb]),fun h d hd=>by
  cases hb:belC c d
  ·exact .inr rfl
  ·exact .inl (h d hd hb)⟩
structure IsLeast (l M:List C):Prop where
 rises:risesC M
 mem:∀ c,c∈M↔c∈l∧neededB l c=true
theorem IsLeast.unique {l M N:List C} (h1:IsLeast l M) (h2:IsLeast l N):M=N :=
 rises_ext h1.rises h2.rises (fun k=>by rw [h1.mem,h2.mem])
theorem snoc_ind {α:Type} {motive:List α→Prop} (nil:motive []) (snoc:∀ (o:List α) (c:α),motive o→motive (o ++ [c])) (l:List α):motive l:=by
 have h:∀ r:List α,motive r.reverse:=fun r=>by
  induction r with
  | nil=>exact nil
  | cons c r ih=>rw [List.reverse_cons];exact snoc _ _ ih
 have:=h l.reverse
 rwa [List.reverse_reverse] at this
def keep (acc:List C) (c:C):List C:=if acc.any (fun b=>belC c b) then acc else acc ++ [c]
def keepAll (o:List C):List C:=o.foldl keep []
theorem keepAll_snoc (o:List C) (c:C):keepAll (o ++ [c])=keep (keepAll o) c:=by simp [keepAll]
theorem keep_sub {acc:List C} {c x:C} (h:x∈acc):x∈keep acc c:=by unfold keep;split <;> simp [h]
theorem keepAll_mem_of {o:List C}:∀ x∈keepAll o,x∈o:=by
 induction o using snoc_ind with
 | nil=>intro x h;simp [keepAll] at h
 | snoc o c ih =>
  intro x h
  rw [keepAll_snoc] at h
  unfold keep at h
  split at h
  ·exact List.mem_append_left _ (ih x h)
  ·rcases List.mem_append.1 h with h|h
   ·exact List.mem_append_left _ (ih x h)
   ·exact List.mem_append_right _ h
theorem keepAll_covers {o:List C}:∀ x∈o,∃ d∈keepAll o,belC x d=true:=by
 induction o using snoc_ind with
 | nil=>intro x h;simp at h
 | snoc o c ih =>
  intro x h
  rw [keepAll_snoc]
  rcases List.mem_append.1 h with h|h
  ·obtain⟨d,hd,hb⟩:=ih x h
   exact⟨d,keep_sub hd,hb⟩
  ·obtain rfl:x=c:=by simpa using h
   unfold keep
   split
   ·rename_i ha
    obtain⟨d,hd,hb⟩:=List.any_eq_true.1 ha
    exact⟨d,hd,hb⟩
   ·exact⟨x,by simp,belC_refl x⟩
theorem keepAll_sublist {o:List C}:(keepAll o).Sublist o:=by
 induction o using snoc_ind with
 | nil=>simp [keepAll]
 | snoc o c ih =>
  rw [keepAll_snoc]
  unfold keep
  split
  ·exact ih.trans (List.sublist_append_left _ _)
  ·exact ih.append (List.Sublist.refl _)
theorem keepAll_length_mono (o r:List C):(keepAll o).length≤(keepAll (o++r)).length:=by
 induction r generalizing o with
 | nil=>simp
 | cons c r ih =>
  have e:o++c :: r=(o ++ [c]) ++ r:=by simp
  rw [e]
  refine Nat.le_trans ?_ (ih (o ++ [c]))
  rw [keepAll_snoc]
  unfold keep
  split <;> simp
theorem keepAll_needed {o:List C} (hr:∀ c∈o,rightC c=true) (hs:risesC o):∀ x,x∈keepAll o↔x∈o∧neededB o x=true:=by
 induction o using snoc_ind with
 | nil=>intro x;simp [keepAll]
 | snoc o c ih =>
  have hro:∀ c∈o,rightC c=true:=fun x hx=>hr x (List.mem_append_left _ hx)
  have hso:risesC o:=(List.pairwise_append.1 hs).1
  have hlt:∀ d∈o,ltC d c=true:=fun d hd=>(List.pairwise_append.1 hs).2.2 d hd c (by simp)
  have hrc:rightC c=true:=hr c (by simp)
  intro x
  rw [keepAll_snoc]
  have hold:∀ x∈o,neededB (o ++ [c]) x=neededB o x:=fun x hx=>by
   rw [Bool.eq_iff_iff,needed_iff,needed_iff]
   constructor
   ·intro h d hd;exact h d (List.mem_append_left _ hd)
   ·intro h d hd hb
    rcases List.mem_append.1 hd with hd|hd
    ·exact h d hd hb
    ·obtain rfl:d=c:=by simpa using hd
     have h1:=hlt x hx
     by_cases e:x=d
     ·exact e.symm
     ·have:=bel_lt hrc hb e
      rw [ltC_asymm h1] at this;exact absurd this (by simp)
  have hnew:neededB (o ++ [c]) c=true↔(keepAll o).any (fun b=>belC c b)=false:=by
   rw [needed_iff,List.any_eq_false]
   constructor
   ·intro h d hd hb
    have hdo:=keepAll_mem_of d hd
    have:=h d (List.mem_append_left _ hdo) (by simpa using hb)
    exact absurd this (ltC_ne (hlt d hdo))
   ·intro h d hd hb
    rcases List.mem_append.1 hd with hd|hd
    ·obtain⟨d2,hd2,hb2⟩:=keepAll_covers d hd
     exact absurd (belC_trans hb hb2) (by simpa using h d2 hd2)
    ·simpa using hd
  have hcn:c ∉ o:=fun h=>absurd (hlt c h) (by rw [ltC_irrefl];simp)
  unfold keep
  split
  ·rename_i ha
   rw [ih hro hso x]
   constructor
   ·rintro⟨h1,h2⟩;exact⟨List.mem_append_left _ h1,by rw [hold x h1];exact h2⟩
   ·rintro⟨h1,h2⟩
    rcases List.mem_append.1 h1 with h1|h1
    ·exact⟨h1,by rw [hold x h1] at h2;exact h2⟩
    ·obtain rfl:x=c:=by simpa using h1
     rw [hnew.1 h2] at ha;exact absurd ha (by simp)
  ·rename_i ha
   have ha:(keepAll o).any (fun b=>belC c b)=false:=by simpa using ha
   rw [List.mem_append,ih hro hso x]
   constructor
   ·rintro (⟨h1,h2⟩ | h1)
    ·exact⟨List.mem_append_left _ h1,by rw [hold x h1];exact h2⟩
    ·obtain rfl:x=c:=by simpa using h1
     exact⟨by simp,hnew.2 ha⟩
   ·rintro⟨h1,h2⟩
    rcases List.mem_append.1 h1 with h1|h1
    ·exact .inl ⟨h1,by rw [hold x h1] at h2;exact h2⟩
    ·exact .inr h1
theorem needed_congr {l m:List C} (h:∀ c,c∈l↔c∈m) (c:C):neededB l c=neededB m c:=by
 rw [Bool.eq_iff_iff,needed_iff,needed_iff]
 exact⟨fun hh d hd=>hh d ((h d).2 hd),fun hh d hd=>hh d ((h d).1 hd)⟩
theorem isLeast_keepAll {l o:List C} (hr:∀ c∈l,rightC c=true) (hs:risesC o) (hm:∀ c,c∈o↔c∈l):IsLeast l (keepAll o) where
 rises:=hs.sublist keepAll_sublist
 mem c:=by
  rw [keepAll_needed (fun c hc=>hr c ((hm c).1 hc)) hs c,hm c,needed_congr hm c]
end Go.Proofs.YtahnbigkdfmpbaaGreatDoor.F
namespace Go.Proofs.YtahnbigkdfmpbaaGreatDoor.F
def LeastIs (l M:List C) (er:Int):Prop :=
 (l.all rightC=false∧M=[]∧er=2)∨(l.all rightC=true∧∃ N,IsLeast l N∧((N.length≤64∧M=N∧er=0)∨(64<N.length∧M=[]∧er=3)))
theorem LeastIs.unique {l M M':List C} {er er':Int} (h:LeastIs l M er) (h':LeastIs l M' er'):M=M'∧er=er':=by
 rcases h with ⟨a,rfl,rfl⟩|⟨a,N,hN,hh⟩
 ·rcases h' with ⟨_,rfl,rfl⟩|⟨b,_⟩
  ·exact⟨rfl,rfl⟩
  ·rw [a] at b;exact absurd b (by simp)
 ·rcases h' with ⟨b,_⟩|⟨_,N',hN',hh'⟩
  ·rw [a] at b;exact absurd b (by simp)
  ·have e:=hN.unique hN'
   subst e
   rcases hh with ⟨b,rfl,rfl⟩|⟨b,rfl,rfl⟩
   ·rcases hh' with ⟨_,rfl,rfl⟩|⟨d,_⟩
    ·exact⟨rfl,rfl⟩
    ·omega
   ·rcases hh' with ⟨d,_⟩|⟨_,rfl,rfl⟩
    ·omega
    ·exact⟨rfl,rfl⟩
theorem LeastIs.length_le {l M:List C} {er:Int} (h:LeastIs l M er):M.length≤64:=by
 rcases h with ⟨_,rfl,_⟩|⟨_,N,_,⟨h,rfl,_⟩|⟨_,rfl,_⟩⟩
 ·simp
 ·exact h
 ·simp
theorem meet_right (a b:C):rightC (meetC a b)=true:=rightC_iff.2 ⟨low_lt _,low_lt _⟩
end Go.Proofs.YtahnbigkdfmpbaaGreatDoor.F
namespace Go.Proofs.YtahnbigkdfmpbaaGreatDoor.F
def insC (c:C):List C→List C
 | []=>[c]
 | d :: l=>if ltC c d then c :: d :: l else if c=d then d :: l else d :: insC c l
theorem mem_insC {c x:C}:∀ {l:List C},x∈insC c l↔x=c∨x∈l
 | []=>by simp [insC]
 | d :: l=>by
  unfold insC
  split
  ·simp
  ·split
   ·rename_i h;subst h;simp
   ·rw [List.mem_cons,mem_insC (l:=l),List.mem_cons]
    exact⟨fun h=>h.elim (fun h=>.inr (.inl h)) (fun h=>h.elim .inl (fun h=>.inr (.inr h))),fun h=>h.elim (fun h=>.inr (.inl h)) (fun h=>h.elim .inl (fun h=>.inr (.inr h)))⟩
theorem rises_insC {c:C}:∀ {l:List C},risesC l→risesC (insC c l)
 | [],_=>by simp [insC,risesC]
 | d :: l,h=>by
  have h':=List.pairwise_cons.1 h
  unfold insC
  split
  ·rename_i hlt
   refine List.pairwise_cons.2 ⟨fun x hx=>?_,h⟩
   rcases List.mem_cons.1 hx with rfl|hx
   ·exact hlt
   ·exact ltC_trans hlt (h'.1 x hx)
  ·rename_i hlt
   split
   ·exact h
   ·rename_i hne
    refine List.pairwise_cons.2 ⟨fun x hx=>?_,rises_insC h'.2⟩
    rcases mem_insC.1 hx with rfl|hx
    ·cases hdc:ltC d x
     ·exact absurd (ltC_total (by simpa using hlt) hdc) hne
     ·rfl
    ·exact h'.1 x hx
def ordC (l:List C):List C:=l.foldr insC []
theorem mem_ordC {x:C}:∀ {l:List C},x∈ordC l↔x∈l
 | []=>by simp [ordC]
 | c :: l=>by
  show x∈insC c (ordC l)↔_
  rw [mem_insC,mem_ordC (l:=l),List.mem_cons]
theorem rises_ordC:∀ (l:List C),risesC (ordC l)
 | []=>List.Pairwise.nil
 | c :: l=>rises_insC (rises_ordC l)
def lstN (l:List C):List C:=keepAll (ordC l)
theorem lstN_is {l:List C} (hr:l.all rightC=true):IsLeast l (lstN l) :=
 isLeast_keepAll (fun c hc=>List.all_eq_true.1 hr c hc) (rises_ordC l) (fun _=>mem_ordC)
def leastF (l:List C):List C × Int:=if l.all rightC then (if (lstN l).length≤64 then (lstN l,0) else ([],3)) else ([],2)
theorem leastF_of {l M:List C} {er:Int} (h:LeastIs l M er):leastF l=(M,er):=by
 unfold leastF
 rcases h with ⟨a,rfl,rfl⟩|⟨a,N,hN,hh⟩
 ·rw [a];rfl
 ·have e:=hN.unique (lstN_is a)
  subst e
  rw [a]
  rcases hh with ⟨b,rfl,rfl⟩|⟨b,rfl,rfl⟩
  ·simp [b]
  ·simp [Nat.not_le.2 b]
theorem leastF_is (l:List C):LeastIs l (leastF l).1 (leastF l).2:=by
 unfold leastF
 cases h:l.all rightC
 ·exact .inl ⟨h,rfl,rfl⟩
 ·refine .inr ⟨h,_,lstN_is h,?_⟩
  by_cases h2:(lstN l).length≤64
  ·simp [h2]
  ·simp [h2];omega
theorem leastF_cases {l:List C} (hr:l.all rightC=true):((leastF l).2=0∧(leastF l).1=lstN l∧(lstN l).length≤64)∨leastF l=([],3):=by
 unfold leastF
 rw [hr]
 by_cases h2:(lstN l).length≤64
 ·left;simp [h2]
 ·right;simp [h2]
def rightF (f:List C):Bool:=decide (leastF f=(f,0))
structure PreOk (f:List C):Prop where
 right:f.all rightC=true
 rises:risesC f
 need:∀ c∈f,neededB f c=true
theorem PreOk.least {f:List C} (h:PreOk f):IsLeast f f:=⟨h.rises,fun c=>⟨fun hc=>⟨hc,h.need c hc⟩,fun hc=>hc.1⟩⟩
theorem PreOk.lst {f:List C} (h:PreOk f):lstN f=f:=(lstN_is h.right).unique h.least
theorem rightF_iff {f:List C}:rightF f=true↔PreOk f∧f.length≤64:=by
 unfold rightF
 rw [decide_eq_true_eq]
 constructor
 ·intro h
  have hi:=leastF_is f
  rw [h] at hi
  rcases hi with ⟨_,_,h0⟩|⟨a,N,hN,⟨b,e,_⟩|⟨_,_,h0⟩⟩
  ·exact absurd (show (0:Int)=2 from h0) (by decide)
  ·have e:f=N:=e
   subst e
   exact⟨⟨a,hN.rises,fun c hc=>((hN.mem c).1 hc).2⟩,b⟩
  ·exact absurd (show (0:Int)=3 from h0) (by decide)
 ·rintro⟨h,hl⟩
  unfold leastF
  rw [h.right,h.lst]
  simp [hl]
theorem rightF_eq {f:List C} (h:rightF f=true):leastF f=(f,0):=by simpa [rightF] using h
theorem PreOk.nil:PreOk []:=⟨rfl,List.Pairwise.nil,fun c hc=>by simp at hc⟩
theorem PreOk.snoc {f:List C} {c:C}:PreOk (f ++ [c])↔PreOk f∧rightC c=true∧(∀ d,f.getLast? = some d→ltC d c=true)∧f.any (fun b=>belC c b)=false:=by
 constructor
 ·intro h
  have hr:=List.all_eq_true.1 h.right
  have hp:=List.pairwise_append.1 h.rises
  have hlt:∀ d∈f,ltC d c=true:=fun d hd=>hp.2.2 d hd c (by simp)
  refine⟨⟨List.all_eq_true.2 (fun x hx=>hr x (by simp [hx])),hp.1,fun x hx=>?_⟩,hr c (by simp),fun d hd=>hlt d (List.mem_of_getLast? hd),?_⟩
  ·have:=needed_iff.1 (h.need x (by simp [hx]))
   exact needed_iff.2 (fun d hd hb=>this d (by simp [hd]) hb)
  ·rw [List.any_eq_false]
   intro b hb hbel
   have:=needed_iff.1 (h.need c (by simp)) b (by simp [hb]) (by simpa using hbel)
   exact absurd this (ltC_ne (hlt b hb))
 ·rintro⟨h,hc,hl,ha⟩
  have hlt:∀ d∈f,ltC d c=true:=by
   intro d hd
   rcases List.eq_nil_or_concat f with rfl|⟨g,x,rfl⟩
   ·simp at hd
   ·simp only [List.concat_eq_append] at *
    have hx:=hl x (by simp)
    rcases List.mem_append.1 hd with hd|hd
    ·exact ltC_trans ((List.pairwise_append.1 h.rises).2.2 d hd x (by simp)) hx
    ·obtain rfl:d=x:=by simpa using hd
     exact hx
  rw [List.any_eq_false] at ha
  refine⟨?_,?_,?_⟩
  ·rw [List.all_append,h.right];simp [hc]
  ·refine List.pairwise_append.2 ⟨h.rises,List.pairwise_singleton _ _,fun a ha2 b hb=>?_⟩
   rw [List.mem_singleton.1 hb]
   exact hlt a ha2
  ·intro x hx
   rw [needed_iff]
   intro d hd hb
   rcases List.mem_append.1 hx with hx|hx
   ·rcases List.mem_append.1 hd with hd|hd
    ·exact needed_iff.1 (h.need x hx) d hd hb
    ·rw [List.mem_singleton.1 hd] at hb ⊢
     by_cases e:x=c
     ·exact e.symm
     ·have:=bel_lt hc hb e
      rw [ltC_asymm (hlt x hx)] at this
      exact absurd this (by simp)
   ·rw [List.mem_singleton.1 hx] at hb ⊢
    rcases List.mem_append.1 hd with hd|hd
    ·exact absurd hb (ha d hd)
    ·exact List.mem_singleton.1 hd
theorem PreOk.take {f:List C} (h:PreOk f) (k:Nat):PreOk (f.take k) :=
 ⟨List.all_eq_true.2 (fun x hx=>List.all_eq_true.1 h.right x (List.mem_of_mem_take hx)),h.rises.sublist (List.take_sublist _ _),fun x hx=>needed_iff.2 (fun d hd hb=>needed_iff.1 (h.need x (List.mem_of_mem_take hx)) d (List.mem_of_mem_take hd) hb)⟩
theorem PreOk.of_least {l M:List C} (hr:l.all rightC=true) (h:IsLeast l M):PreOk M :=
 ⟨List.all_eq_true.2 (fun x hx=>List.all_eq_true.1 hr x ((h.mem x).1 hx).1),h.rises,fun x hx=>needed_iff.2 (fun d hd hb=>needed_iff.1 ((h.mem x).1 hx).2 d ((h.mem d).1 hd).1 hb)⟩
theorem rightF_nil:rightF []=true:=rightF_iff.2 ⟨PreOk.nil,by simp⟩
theorem rightF_all {f:List C} (h:rightF f=true):f.all rightC=true:=(rightF_iff.1 h).1.right
theorem rightF_len {f:List C} (h:rightF f=true):f.length≤64:=(rightF_iff.1 h).2
theorem leastF_right (l:List C):rightF (leastF l).1=true:=by
 cases h:l.all rightC
 ·have:leastF l=([],2):=by unfold leastF;rw [h];rfl
  rw [this];exact rightF_nil
 ·rcases leastF_cases h with ⟨_,e,hl⟩|e
  ·rw [e];exact rightF_iff.2 ⟨PreOk.of_least h (lstN_is h),hl⟩
  ·rw [e];exact rightF_nil
theorem lstN_sub {l:List C}:∀ c∈lstN l,c∈l:=fun c hc=>mem_ordC.1 (keepAll_mem_of c hc)
theorem leastF_sub {l:List C}:∀ c∈(leastF l).1,c∈l:=fun c hc=>by
 unfold leastF at hc
 split at hc
 ·split at hc
  ·exact lstN_sub c hc
  ·simp at hc
 ·simp at hc
theorem insC_length (c:C):∀ l:List C,(insC c l).length≤l.length+1
 | []=>by simp [insC]
 | d :: l=>by
  unfold insC
  split
  ·simp
  ·split
   ·simp
   ·have:=insC_length c l;simp;omega
theorem ordC_length:∀ l:List C,(ordC l).length≤l.length
 | []=>by simp [ordC]
 | c :: l=>by
  have h1:=ordC_length l
  have h2:=insC_length c (ordC l)
  show (insC c (ordC l)).length≤l.length+1
  omega
theorem lstN_length (l:List C):(lstN l).length≤l.length :=
 Nat.le_trans (keepAll_sublist.length_le) (ordC_length l)
theorem leastF_small {l:List C} (hr:l.all rightC=true) (h:l.length≤64):leastF l=(lstN l,0):=by
 have:=lstN_length l
 unfold leastF
 rw [hr]
 simp [show (lstN l).length≤64 by omega]
theorem leastF_one {c:C} (h:rightC c=true):leastF [c]=([c],0):=by
 have:rightF [c]=true:=rightF_iff.2 ⟨(PreOk.snoc (f:=[])).2 ⟨PreOk.nil,h,fun d hd=>by simp at hd,rfl⟩,by simp⟩
 exact rightF_eq this
theorem top_right:rightC top0=true:=by decide
theorem rightF_one {c:C} (h:rightC c=true):rightF [c]=true:=by
 unfold rightF;rw [leastF_one h];simp
def pairsC (f g:List C):List C:=f.flatMap (fun a=>g.map (meetC a))
theorem pairs_right (f g:List C):(pairsC f g).all rightC=true:=by
 rw [List.all_eq_true]
 intro x hx
 obtain⟨a,_,ha⟩:=List.mem_flatMap.1 hx
 obtain⟨b,_,rfl⟩:=List.mem_map.1 ha
 exact meet_right a b
theorem pairs_length (f g:List C):(pairsC f g).length=f.length*g.length:=by
 induction f with
 | nil=>simp [pairsC]
 | cons a f ih =>
  have e:pairsC (a :: f) g=g.map (meetC a) ++ pairsC f g:=rfl
  rw [e,List.length_append,ih,List.length_map,List.length_cons,Nat.succ_mul,Nat.add_comm]
def joinR (f g:List C):List C × Int:=leastF (f++g)
def meetR (f g:List C):List C × Int:=leastF (pairsC f g)
theorem append_right {f g:List C} (hf:rightF f=true) (hg:rightF g=true):(f++g).all rightC=true:=by
 rw [List.all_append,rightF_all hf,rightF_all hg];rfl
end Go.Proofs.YtahnbigkdfmpbaaGreatDoor.F
namespace Go.Proofs.YtahnbigkdfmpbaaGreatDoor.F
def bitF (k:Nat):Fin 4294967296:=if h:k<24 then ⟨2 ^ k,pow_lt k h⟩ else 0
theorem bitF_val {k:Nat} (h:k<24):(bitF k).val=2 ^ k:=by simp [bitF,h]
theorem bitF_lt (k:Nat):(bitF k).val<16777216:=by
 unfold bitF
 split
 ·rename_i h
  exact Nat.lt_of_le_of_lt (Nat.pow_le_pow_right (by decide) (by omega:k≤23)) (by decide)
 ·decide
def negB (k:Nat):C:=(0,bitF k)
def posB (k:Nat):C:=(bitF k,0)
theorem negB_right (k:Nat):rightC (negB k)=true:=rightC_iff.2 ⟨(show (0:Nat) < 16777216 by decide),bitF_lt k⟩
theorem posB_right (k:Nat):rightC (posB k)=true:=rightC_iff.2 ⟨bitF_lt k,(show (0:Nat) < 16777216 by decide)⟩
def oppC (c:C):List C:=(dimsOf c.1.val).map negB++(dimsOf c.2.val).map posB
theorem opp_right (c:C):(oppC c).all rightC=true:=by
 rw [List.all_eq_true]
 intro x hx
 rcases List.mem_append.1 hx with hx|hx
 ·obtain⟨k,_,rfl⟩:=List.mem_map.1 hx;exact negB_right k
 ·obtain⟨k,_,rfl⟩:=List.mem_map.1 hx;exact posB_right k
theorem opp_length (c:C):(oppC c).length≤48:=by
 have h1:=dimsOf_length_le c.1.val
 have h2:=dimsOf_length_le c.2.val
 simp [oppC];omega
def turnF (c:C):List C:=(leastF (oppC c)).1
theorem turn_told (c:C):leastF (oppC c)=(turnF c,0):=by
 have h:=leastF_small (opp_right c) (by have:=opp_length c;omega)
 unfold turnF;rw [h]
theorem turn_right (c:C):rightF (turnF c)=true:=leastF_right _
theorem turn_len (c:C):(turnF c).length≤64:=rightF_len (turn_right c)
theorem bit_testBit {k j:Nat} (hk:k<24):(bitF k).val.testBit j=decide (k=j):=by rw [bitF_val hk,Nat.testBit_two_pow]
def stepN (a:List C × Int) (c:C):List C × Int:=if a.2=0 then meetR a.1 (turnF c) else a
def notR (f:List C):List C × Int:=f.foldl stepN ([top0],0)
def notF (f:List C):List C × Int:=if rightF f then notR f else ([],2)
theorem notR_snoc (f:List C) (c:C):notR (f ++ [c])=stepN (notR f) c:=by simp [notR]
theorem notR_cases (f:List C):((notR f).2=0∧rightF (notR f).1=true)∨notR f=([],3):=by
 induction f using snoc_ind with
 | nil=>exact .inl ⟨rfl,rightF_one top_right⟩
 | snoc f c ih =>
  rw [notR_snoc]
  unfold stepN
  rcases ih with ⟨h,_⟩|h
  ·rw [if_pos h]
   rcases leastF_cases (pairs_right (notR f).1 (turnF c)) with ⟨h1,_⟩|h1
   ·exact .inl ⟨h1,leastF_right _⟩
   ·exact .inr h1
  ·rw [if_neg (by rw [h];simp)]
   exact .inr h
theorem notR_right (f:List C):rightF (notR f).1=true:=by
 rcases notR_cases f with h|h
 ·exact h.2
 ·rw [h];exact rightF_nil
theorem notR_len (f:List C):(notR f).1.length≤64:=rightF_len (notR_right f)
theorem full_bit (k:Nat):(16777215:Nat).testBit k=decide (k<24):=by
 have e:(16777215:Nat)=2 ^ 24 - 1:=by decide
 rw [e,Nat.testBit_two_pow_sub_one]
end Go.Proofs.YtahnbigkdfmpbaaGreatDoor.F
namespace Go.Proofs.YtahnbigkdfmpbaaGreatDoor.F
theorem withoutN_lt32 (s:Nat) (i:Int):withoutN s i<4294967296:=Nat.lt_trans (withoutN_lt s i) (by decide)
def outC (c:C) (i:Int):C:=(⟨withoutN c.1.val i,withoutN_lt32 _ _⟩,⟨withoutN c.2.val i,withoutN_lt32 _ _⟩)
theorem out_right (c:C) (i:Int):rightC (outC c i)=true:=rightC_iff.2 ⟨withoutN_lt _ _,withoutN_lt _ _⟩
def partA (c:C) (i:Int) (r:List C):List C × Int:=if hasB c.1.val i then meetR [outC c i] r else ([outC c i],0)
def partF (c:C) (i:Int) (r:List C) (s:List C × Int):List C × Int :=
 if (partA c i r).2=0 then (if hasB c.2.val i then (if s.2=0 then meetR (partA c i r).1 s.1 else ([],s.2)) else partA c i r) else partA c i r
def stepP (i:Int) (r:List C) (s:List C × Int) (a:List C × Int) (c:C):List C × Int :=
 if a.2=0 then (if (partF c i r s).2=0 then joinR a.1 (partF c i r s).1 else ([],(partF c i r s).2)) else a
def putS (f:List C) (i:Int) (r:List C) (s:List C × Int):List C × Int:=f.foldl (stepP i r s) ([],0)
theorem putS_snoc (f:List C) (c:C) (i:Int) (r:List C) (s:List C × Int):putS (f ++ [c]) i r s=stepP i r s (putS f i r s) c:=by simp [putS]
def Told (a:List C × Int):Prop:=(a.2=0∧rightF a.1=true)∨a=([],3)
theorem Told.right {a:List C × Int} (h:Told a):rightF a.1=true:=by
 rcases h with h|h
 ·exact h.2
 ·rw [h];exact rightF_nil
theorem Told.len {a:List C × Int} (h:Told a):a.1.length≤64:=rightF_len h.right
theorem Told.no {a:List C × Int} (h:Told a) (h2:a.2≠0):a=([],3):=h.resolve_left (fun x=>h2 x.1)
theorem Told.least {l:List C} (h:l.all rightC=true):Told (leastF l):=by
 rcases leastF_cases h with ⟨h1,_⟩|h1
 ·exact .inl ⟨h1,leastF_right _⟩
 ·exact .inr h1
theorem Told.meet (f g:List C):Told (meetR f g):=Told.least (pairs_right f g)
theorem Told.join {f g:List C} (hf:rightF f=true) (hg:rightF g=true):Told (joinR f g):=Told.least (append_right hf hg)
theorem Told.one {c:C} (h:rightC c=true):Told ([c],0):=.inl ⟨rfl,rightF_one h⟩
theorem Told.not (f:List C):Told (notR f):=notR_cases f
theorem Told.ite {p:Prop} [Decidable p] {a b:List C × Int} (ha:Told a) (hb:Told b):Told (if p then a else b):=by split <;> assumption
theorem Told.partA (c:C) (i:Int) (r:List C):Told (partA c i r):=by
 unfold Proofs.YtahnbigkdfmpbaaGreatDoor.F.partA
 exact Told.ite (Told.meet _ _) (Told.one (out_right c i))
theorem Told.part (c:C) (i:Int) (r:List C) {s:List C × Int} (hs:Told s):Told (partF c i r s):=by
 unfold partF
 refine Told.ite (Told.ite ?_ (Told.partA c i r)) (Told.partA c i r)
 by_cases h:s.2=0
 ·rw [if_pos h];exact Told.meet _ _
 ·rw [if_neg h,hs.no h];exact .inr rfl
theorem Told.step (i:Int) (r:List C) {s a:List C × Int} (hs:Told s) (ha:Told a) (c:C):Told (stepP i r s a c):=by
 unfold stepP
 refine Told.ite ?_ ha
 have hp:=Told.part c i r hs
 by_cases h:(partF c i r s).2=0
 ·rw [if_pos h];exact Told.join ha.right hp.right
 ·rw [if_neg h,hp.no h];exact .inr rfl
theorem Told.put (f:List C) (i:Int) (r:List C) {s:List C × Int} (hs:Told s):Told (putS f i r s):=by
 induction f using snoc_ind with
 | nil=>exact .inl ⟨rfl,rightF_nil⟩
 | snoc f c ih=>rw [putS_snoc];exact Told.step i r hs ih c
theorem meet_bits (a b:C) (k:Nat):(meetC a b).1.val.testBit k=(decide (k<24) && (a.1.val.testBit k || b.1.val.testBit k))∧(meetC a b).2.val.testBit k=(decide (k<24) && (a.2.val.testBit k || b.2.val.testBit k)):=by
 constructor
 ·show (meetP a b).testBit k=_
  unfold meetP;rw [testBit_low,Nat.testBit_or]
 ·show (meetN a b).testBit k=_
  unfold meetN;rw [testBit_low,Nat.testBit_or]
theorem out_bits (c:C) (i k:Nat) (hi:i<24):(outC c (i:Int)).1.val.testBit k=((decide (k<24) && c.1.val.testBit k) && !decide (i=k))∧(outC c (i:Int)).2.val.testBit k=((decide (k<24) && c.2.val.testBit k) && !decide (i=k)) :=
 ⟨testBit_withoutN_nat _ _ _ hi,testBit_withoutN_nat _ _ _ hi⟩
theorem posB_bits (i k:Nat) (hi:i<24):(posB i).1.val.testBit k=decide (i=k)∧(posB i).2.val.testBit k=false:=⟨bit_testBit hi,by show (0:Nat).testBit k=false;simp⟩
theorem negB_bits (i k:Nat) (hi:i<24):(negB i).1.val.testBit k=false∧(negB i).2.val.testBit k=decide (i=k):=⟨by show (0:Nat).testBit k=false;simp,bit_testBit hi⟩
def freeC (k:Nat) (c:C):Prop:=c.1.val.testBit k=false∧c.2.val.testBit k=false
def freeL (k:Nat) (l:List C):Prop:=∀ c∈l,freeC k c
theorem freeL.least {k:Nat} {l:List C} (h:freeL k l):freeL k (leastF l).1:=fun c hc=>h c (leastF_sub c hc)
theorem freeL.pairs {k:Nat} {f g:List C} (hf:freeL k f) (hg:freeL k g):freeL k (pairsC f g):=fun c hc=>by
 obtain⟨a,ha,hx⟩:=List.mem_flatMap.1 hc
 obtain⟨b,hb,rfl⟩:=List.mem_map.1 hx
 have h1:=hf a ha
 have h2:=hg b hb
 exact⟨by rw [(meet_bits a b k).1,h1.1,h2.1];simp,by rw [(meet_bits a b k).2,h1.2,h2.2];simp⟩
theorem freeL.append {k:Nat} {f g:List C} (hf:freeL k f) (hg:freeL k g):freeL k (f++g):=fun c hc=>(List.mem_append.1 hc).elim (hf c) (hg c)
theorem freeL.nil (k:Nat):freeL k []:=fun c hc=>by simp at hc
theorem freeL.opp {k:Nat} {d:C} (h:freeC k d):freeL k (oppC d):=fun c hc=>by
 rcases List.mem_append.1 hc with hc|hc
 ·obtain⟨j,hj,rfl⟩:=List.mem_map.1 hc
  obtain⟨h1,h2⟩:=mem_dimsOf.1 hj
  have hne:j≠k:=by rintro rfl;rw [h.1] at h2;simp at h2
  exact⟨(negB_bits j k h1).1,by rw [(negB_bits j k h1).2];simp [hne]⟩
 ·obtain⟨j,hj,rfl⟩:=List.mem_map.1 hc
  obtain⟨h1,h2⟩:=mem_dimsOf.1 hj
  have hne:j≠k:=by rintro rfl;rw [h.2] at h2;simp at h2
  exact⟨by rw [(posB_bits j k h1).1];simp [hne],(posB_bits j k h1).2⟩
theorem freeL.not {k:Nat} {r:List C} (h:freeL k r):freeL k (notR r).1:=by
  induction r using snoc_ind with
  | nil => intro c hc; obtain rfl : c = top0 := by simpa [notR] using hc
           exact⟨by simp [top0],by simp [top0]⟩
  | snoc r c ih =>
    rw [notR_snoc]
    have h1:=ih (fun x hx=>h x (by simp [hx]))
    unfold stepN
    split
    · exact ((freeL.pairs h1 (freeL.opp (h c (by simp))).least)).least
    · exact h1
theorem out_free {c:C} {i:Nat} (hi:i<24):freeL i [outC c (i:Int)]:=fun x hx=>by
 rw [List.mem_singleton.1 hx]
 exact⟨by rw [(out_bits c i i hi).1];simp,by rw [(out_bits c i i hi).2];simp⟩
theorem freeL.partA {i:Nat} (hi:i<24) {c:C} {r:List C} (h:freeL i r):freeL i (partA c (i:Int) r).1:=by
 unfold Proofs.YtahnbigkdfmpbaaGreatDoor.F.partA
 split
 ·exact (freeL.pairs (out_free hi) h).least
 ·exact out_free hi
theorem freeL.part {i:Nat} (hi:i<24) {c:C} {r:List C} {s:List C × Int} (h:freeL i r) (hs:freeL i s.1):freeL i (partF c (i:Int) r s).1:=by
 unfold partF
 split
 ·split
  ·split
   ·exact (freeL.pairs (freeL.partA hi h) hs).least
   ·exact freeL.nil i
  ·exact freeL.partA hi h
 ·exact freeL.partA hi h
theorem freeL.put {i:Nat} (hi:i<24) {f r:List C} {s:List C × Int} (h:freeL i r) (hs:freeL i s.1):freeL i (putS f (i:Int) r s).1:=by
 induction f using snoc_ind with
 | nil=>exact freeL.nil i
 | snoc f c ih =>
  rw [putS_snoc]
  unfold stepP
  split
  ·split
   ·exact (freeL.append ih (freeL.part hi h hs)).least
   ·exact freeL.nil i
  ·exact ih
def stepD (a:Nat) (c:C):Nat:=a ||| ((c.1.val ||| c.2.val) &&& 16777215)
end Go.Proofs.YtahnbigkdfmpbaaGreatDoor.F
namespace Go.Proofs.YtahnbigkdfmpbaaGreatDoor.F
open Go.RowKit
theorem ret_bool {a b:Bool} (h:a=b):Ending.returned (.bool a)=.returned (.bool b):=by rw [h]
theorem ret_int {k:IntKind} {a b:Int} (h:a=b):Ending.returned (.int k a)=.returned (.int k b):=by rw [h]
set_option maxHeartbeats 400000 in
theorem isDim_any (i:Int) (w:World) :
  Calls Tryz.prog 130 #[.int .i64 i] w fun e w'=>e=.returned (.bool (isDimB i))∧w'=w:=by
 by_cases h0:0≤i
 ·by_cases h1:i<24
  ·go_enter Tryz.func130,Tryz.ntmps130
   go_wp2
   go_ret
   exact⟨ret_bool (by simp [isDimB,h0,h1]),rfl⟩
  ·go_enter Tryz.func130,Tryz.ntmps130
   go_wp2
   go_ret
   exact⟨ret_bool (by simp [isDimB,h1]),rfl⟩
 ·go_enter Tryz.func130,Tryz.ntmps130
  go_wp2
  go_ret
  exact⟨ret_bool (by simp [isDimB];omega),rfl⟩
theorem has_bits (s i:Nat) (hs:s<4294967296):(bits BinOp.and IntKind.u32 ((s:Int) / 2 ^ i) 1 == 1)=s.testBit i:=by
 have e:((s:Int) / 2 ^ i)=((s / 2 ^ i:Nat):Int):=by simp
 have h2:s / 2 ^ i<4294967296:=Nat.lt_of_le_of_lt (Nat.div_le_self _ _) hs
 have h3:=bits_and32 (s / 2 ^ i) 1 h2 (by omega)
 rw [e]
 have h4:bits BinOp.and IntKind.u32 (((s / 2 ^ i:Nat)):Int) 1=((s / 2 ^ i &&& 1:Nat):Int):=h3
 rw [h4,Nat.testBit_eq_decide_div_mod_eq,Nat.and_one_is_mod,Bool.eq_iff_iff]
 simp only [beq_iff_eq,decide_eq_true_eq]
 omega
set_option maxHeartbeats 400000 in
theorem has_any (s:Nat) (i:Int) (w:World) (hs:s<4294967296) :
  Calls Tryz.prog 115 #[.int .u32 s,.int .i64 i] w fun e w'=>e=.returned (.bool (hasB s i))∧w'=w:=by
 by_cases hd:isDimB i=true
 ·have h':0≤i∧i<24:=by simpa [isDimB] using hd
  obtain⟨j,rfl⟩:=Int.eq_ofNat_of_zero_le h'.1
  have hj:j<24:=by omega
  have hb:=has_bits s j hs
  have H:Hid (hasB s (j:Int)=s.testBit j):=hasB_nat hj
  clear h'
  go_enter Tryz.func115,Tryz.ntmps115
  go_wp2_with (go_at_call 130;refine (isDim_any _ _).mono ?_;rintro e w' ⟨rfl,rfl⟩;rw [hd])
  go_ret
  exact⟨ret_bool (by rw [H.out,← hb]),rfl⟩
 ·have hd:isDimB i=false:=by simpa using hd
  have H:Hid (hasB s i=false):=hasB_no hd
  go_enter Tryz.func115,Tryz.ntmps115
  go_wp2_with (go_at_call 130;refine (isDim_any _ _).mono ?_;rintro e w' ⟨rfl,rfl⟩;rw [hd])
  go_ret
  exact⟨ret_bool (by rw [H.out]),rfl⟩
theorem and_low (s:Nat) (hs:s<4294967296):bits BinOp.and IntKind.u32 (s:Int) 16777215=((s &&& 16777215:Nat):Int):=bits_and32 s 16777215 hs (by decide)
theorem with_bits (s j:Nat) (hs:s<4294967296) (hj:j<24):bits BinOp.or IntKind.u32 (bits BinOp.and IntKind.u32 (s:Int) 16777215) (2 ^ j % 4294967296)=((withN s (j:Int):Nat):Int):=by
 rw [and_low s hs,pow_mod32 j hj,bits_or32 _ _ (by have:=low_lt s;omega) (pow_lt j hj),withN,isDimB_nat hj]
 simp
set_option maxHeartbeats 400000 in
theorem with_any (s:Nat) (i:Int) (w:World) (hs:s<4294967296) :
  Calls Tryz.prog 116 #[.int .u32 s,.int .i64 i] w fun e w'=>e=.returned (.int .u32 (withN s i:Nat))∧w'=w:=by
 by_cases hd:isDimB i=true
 ·have h':0≤i∧i<24:=by simpa [isDimB] using hd
  obtain⟨j,rfl⟩:=Int.eq_ofNat_of_zero_le h'.1
  have hj:j<24:=by omega
  have H:Hid (bits BinOp.or IntKind.u32 (bits BinOp.and IntKind.u32 (s:Int) 16777215) (2 ^ j % 4294967296)=((withN s (j:Int):Nat):Int)):=with_bits s j hs hj
  clear h'
  go_enter Tryz.func116,Tryz.ntmps116
  go_wp2_with (go_at_call 130;refine (isDim_any _ _).mono ?_;rintro e w' ⟨rfl,rfl⟩;rw [hd])
  go_ret
  exact⟨ret_int H.out,rfl⟩
 ·have hd:isDimB i=false:=by simpa using hd
  have H:Hid (bits BinOp.and IntKind.u32 (s:Int) 16777215=((withN s i:Nat):Int)):=(and_low s hs).trans (by rw [withN_no hd])
  go_enter Tryz.func116,Tryz.ntmps116
  go_wp2_with (go_at_call 130;refine (isDim_any _ _).mono ?_;rintro e w' ⟨rfl,rfl⟩;rw [hd])
  go_ret
  exact⟨ret_int H.out,rfl⟩
end Go.Proofs.YtahnbigkdfmpbaaGreatDoor.F
namespace Go.Proofs.YtahnbigkdfmpbaaGreatDoor.F
open Go.RowKit
theorem right_bits (s:Nat) (hs:s<4294967296):(bits BinOp.andNot IntKind.u32 (s:Int) 16777215 == 0)=rightB s:=by
 have h:=bits_andNot32 s 16777215
 have h':bits BinOp.andNot IntKind.u32 (s:Int) 16777215=((andNot32 s 16777215:Nat):Int):=h
 rw [h',rightB,Bool.eq_iff_iff]
 simp only [beq_iff_eq,decide_eq_true_eq]
 have e:(16777215:Nat)=2 ^ 24 - 1:=by decide
 constructor
 ·intro hz
  have hz':andNot32 s 16777215=0:=by omega
  exact Nat.lt_pow_two_of_testBit (n:=24) _ (fun k hk=>by
   have:=testBit_andNot32 s 16777215 k hs
   rw [hz',Nat.zero_testBit,e,Nat.testBit_two_pow_sub_one] at this
   have hk':¬ k<24:=by omega
   simp [hk'] at this
   exact this)
 ·intro hlt
  have:andNot32 s 16777215=0:=by
   apply Nat.eq_of_testBit_eq
   intro k
   rw [testBit_andNot32 s 16777215 k hs,Nat.zero_testBit,e,Nat.testBit_two_pow_sub_one]
   by_cases hk:k<24
   ·simp [hk]
   ·have hp:2 ^ 24≤2 ^ k:=Nat.pow_le_pow_right (by decide) (by omega)
    have:s.testBit k=false:=Nat.testBit_lt_two_pow (Nat.lt_of_lt_of_le hlt hp)
    simp [this]
  omega
set_option maxHeartbeats 400000 in
theorem right_any (s:Nat) (w:World) (hs:s<4294967296) :
  Calls Tryz.prog 142 #[.int .u32 s] w fun e w'=>e=.returned (.bool (rightB s))∧w'=w:=by
 have H:Hid ((bits BinOp.andNot IntKind.u32 (s:Int) 16777215 == 0)=rightB s):=right_bits s hs
 go_enter Tryz.func142,Tryz.ntmps142
 go_wp2
 go_ret
 exact⟨ret_bool H.out,rfl⟩
end Go.Proofs.YtahnbigkdfmpbaaGreatDoor.F
namespace Go.Proofs.YtahnbigkdfmpbaaGreatDoor.F
open Go.RowKit Go.Sort
def Grew (w w':World):Prop:=∃ q os,w'=grow (w.drewN q) os
theorem Grew.refl (w:World):Grew w w:=⟨0,#[],by rw [grow_empty];rfl⟩
theorem Grew.alloc {w w':World} (h:Grew w w') (o:Obj):Grew w (w'.alloc o):=by
 obtain⟨q,os,rfl⟩:=h
 exact⟨q,os ++ #[o],by rw [alloc_eq_grow,grow_grow]⟩
theorem Grew.below {w w':World} (h:Grew w w'):Below w.heap.size w w':=by
 obtain⟨q,os,rfl⟩:=h
 exact⟨rfl,rfl,rfl,by simp [grow],fun k hk=>by simp [grow,Array.getElem?_append,hk]⟩
theorem Grew.trans {a b c:World} (h1:Grew a b) (h2:Grew b c):Grew a c:=by
 obtain⟨q,os,rfl⟩:=h1
 obtain⟨r,os',rfl⟩:=h2
 exact⟨q+r,os++os',by show grow (grow ((a.drewN q).drewN r) os) os'=_;rw [grow_grow,World.drewN_drewN]⟩
theorem Grew.drew {a b:World} (h1:Grew a b):Grew a b.drew:=h1.trans ⟨1,#[],by rw [grow_empty];rfl⟩
set_option maxHeartbeats 400000 in
theorem cright_nat (p n:Nat) (w:World) (hp:p<4294967296) (hn:n<4294967296) :
  Calls Tryz.prog 131 #[.agg #[.int .u32 p,.int .u32 n]] w fun e w'=>e=.returned (.bool (rightB p && rightB n))∧Grew w w':=by
 cases h:rightB p
 all_goals
  go_enter Tryz.func131,Tryz.ntmps131
  go_wp2_with (go_at_call 142;refine (right_any _ _ (by assumption)).mono ?_;rintro e w' ⟨rfl,rfl⟩;try rw [h])
  go_ret
  exact⟨rfl,(Grew.refl w).alloc _⟩
abbrev clV (c:C):Value:=.agg #[.int .u32 (c.1.val:Int),.int .u32 (c.2.val:Int)]
theorem cright_any (c:C) (w:World):Calls Tryz.prog 131 #[clV c] w fun e w'=>e=.returned (.bool (rightC c))∧Grew w w' :=
 cright_nat c.1.val c.2.val w c.1.isLt c.2.isLt
theorem low32 (s:Nat) (hs:s<4294967296):bits BinOp.and IntKind.u32 (s:Int) 16777215=((s &&& 16777215:Nat):Int):=bits_and32 s 16777215 hs (by decide)
theorem or_lt32 {a b:Nat} (ha:a<4294967296) (hb:b<4294967296):a ||| b<4294967296:=Nat.or_lt_two_pow (n:=32) ha hb
theorem or_low (a b:Nat) (ha:a<4294967296) (hb:b<4294967296):bits BinOp.and IntKind.u32 (bits BinOp.or IntKind.u32 (a:Int) (b:Int)) 16777215=(((a ||| b) &&& 16777215:Nat):Int):=by
 rw [bits_or32 a b ha hb,low32 _ (or_lt32 ha hb)]
set_option maxHeartbeats 400000 in
theorem meet_nat (p n q m:Nat) (w:World) (hp:p<4294967296) (hn:n<4294967296) (hq:q<4294967296) (hm:m<4294967296) :
  Calls Tryz.prog 138 #[.agg #[.int .u32 p,.int .u32 n],.agg #[.int .u32 q,.int .u32 m]] w fun e w'=>e=.returned (.agg #[.int .u32 ((p ||| q) &&& 16777215:Nat),.int .u32 ((n ||| m) &&& 16777215:Nat)])∧Grew w w':=by
 have h1:Hid (_=_):=or_low p q hp hq
 have h2:Hid (_=_):=or_low n m hn hm
 go_enter Tryz.func138,Tryz.ntmps138
 go_wp2
 exact bodyPost_ret (v:=.agg #[.int .u32 (bits BinOp.and IntKind.u32 (bits BinOp.or IntKind.u32 (p:Int) (q:Int)) 16777215),.int .u32 (bits BinOp.and IntKind.u32 (bits BinOp.or IntKind.u32 (n:Int) (m:Int)) 16777215)]) (by simp [results,Tryz.results138,go_sem]) rfl ⟨by rw [h1.out,h2.out],(((Grew.refl w).alloc _).alloc _).alloc _⟩
theorem meet_any (a b:C) (w:World):Calls Tryz.prog 138 #[clV a,clV b] w fun e w'=>e=.returned (clV (meetC a b))∧Grew w w' :=
 meet_nat a.1.val a.2.val b.1.val b.2.val w a.1.isLt a.2.isLt b.1.isLt b.2.isLt
theorem sub_bits (y x:Nat) (hy:y<4294967296):(bits BinOp.and IntKind.u32 (bits BinOp.andNot IntKind.u32 (y:Int) (x:Int)) 16777215 == 0)=sub24 y x:=by
 rw [bits_andNot32,low32 _ (andNot32_lt _ _),Bool.eq_iff_iff,sub24]
 simp
set_option maxHeartbeats 400000 in
theorem bel_nat (p n q m:Nat) (w:World) (hq:q<4294967296) (hm:m<4294967296) :
  Calls Tryz.prog 146 #[.agg #[.int .u32 p,.int .u32 n],.agg #[.int .u32 q,.int .u32 m]] w fun e w'=>e=.returned (.bool (sub24 q p && sub24 m n))∧Grew w w':=by
 have h1:=sub_bits q p hq
 have h2:=sub_bits m n hm
 cases h:sub24 q p
 all_goals
  rw [h] at h1
  go_enter Tryz.func146,Tryz.ntmps146
  go_wp2
  go_ret
  exact⟨by simp [h2],((Grew.refl w).alloc _).alloc _⟩
theorem bel_any (a b:C) (w:World):Calls Tryz.prog 146 #[clV a,clV b] w fun e w'=>e=.returned (.bool (belC a b))∧Grew w w' :=
 bel_nat a.1.val a.2.val b.1.val b.2.val w b.1.isLt b.2.isLt
set_option maxHeartbeats 400000 in
theorem compare_any (x y:Nat) (w:World) :
  Calls Tryz.prog 144 #[.int .u32 x,.int .u32 y] w fun e w'=>e=.returned (.int .i64 (cmpN x y))∧w'=w:=by
 rcases cmpN_cases x y with ⟨h,e⟩|⟨h,e⟩|⟨h,e⟩
 ·rw [e]
  clear e
  go_enter Tryz.func144,Tryz.ntmps144
  go_wp2
  go_ret
  exact⟨rfl,rfl⟩
 ·rw [e]
  clear e
  have h':¬ x<y:=by omega
  go_enter Tryz.func144,Tryz.ntmps144
  go_wp2
  go_ret
  exact⟨rfl,rfl⟩
 ·rw [e]
  clear e
  subst h
  go_enter Tryz.func144,Tryz.ntmps144
  go_wp2
  go_ret
  exact⟨rfl,rfl⟩
end Go.Proofs.YtahnbigkdfmpbaaGreatDoor.F
namespace Go.Proofs.YtahnbigkdfmpbaaGreatDoor.F
open Go.RowKit Go.Sort
def orI (x y:Int):Int:=if x≠0 then x else y
set_option maxHeartbeats 400000 in
theorem or_any (x y:Int) (g:Nat) (w:World) (h0:w.cell? ⟨g,0,none⟩=some (.int .i64 x)) (h1:w.cell? ⟨g,1,none⟩=some (.int .i64 y)) :
  Calls Tryz.prog 143 #[.slice (some ⟨g,0,none⟩) 2 2] w fun e w'=>e=.returned (.int .i64 (orI x y))∧w'=w:=by
 go_enter Tryz.func143,Tryz.ntmps143
 go_wp2
 go_loop [8] (fun i=>∃ k:Nat,k≤2∧i=.int .i64 k∧(1≤k→x=0)∧(2≤k→y=0)) (fun i=>2 - (intOf i).toNat)
 case atStart=>exact⟨0,by omega,rfl,fun h=>absurd h (by omega),fun h=>absurd h (by omega)⟩
 case round =>
  obtain⟨k,hk,rfl,hx,hy⟩:=hrel
  match k,hk,hx,hy with
  | 0,_,_,_ =>
   by_cases e:x=0
   ·subst e
    go_wp2
    go_round
    case rel=>exact⟨1,by omega,by go_num,by simp,fun h=>absurd h (by omega)⟩
    case measure=>simp [intOf]
   ·go_wp2
    go_ret
    exact⟨ret_int (by simp [orI,e]),rfl⟩
  | 1,_,hx,_ =>
   have hx:=hx (by omega)
   subst hx
   by_cases e:y=0
   ·subst e
    go_wp2
    go_round
    case rel=>exact⟨2,by omega,by go_num,by simp,by simp⟩
    case measure=>simp [intOf]
   ·go_wp2
    go_ret
    exact⟨ret_int (by simp [orI]),rfl⟩
  | 2,_,hx,hy =>
   have hx:=hx (by omega)
   have hy:=hy (by omega)
   subst hx hy
   go_wp2
   go_ret
   exact⟨ret_int (by simp [orI]),rfl⟩
set_option maxHeartbeats 1000000 in
theorem cmp_nat (p n q m:Nat) (w:World) :
  Calls Tryz.prog 132 #[.agg #[.int .u32 p,.int .u32 n],.agg #[.int .u32 q,.int .u32 m]] w fun e w'=>e=.returned (.int .i64 (orI (cmpN p q) (cmpN n m)))∧Grew w w':=by
 go_enter Tryz.func132,Tryz.ntmps132
 go_wp2
 go_region_held3 (fun w'=>w'.cell? ⟨w.heap.size,0,none⟩=some (.int .u32 p)∧w'.cell? ⟨w.heap.size,1,none⟩=some (.int .u32 n)∧w'.cell? ⟨w.heap.size+1,0,none⟩=some (.int .u32 q)∧w'.cell? ⟨w.heap.size+1,1,none⟩=some (.int .u32 m)) (go_keep)
  (first
   | (go_at_call 144;refine (compare_any _ _ _).mono ?_;rintro e w' ⟨rfl,rfl⟩)
   | (go_at_call 143;refine (or_any (cmpN p q) (cmpN n m) _ _ (by simp [go_sem]) (by simp [go_sem])).mono ?_;rintro e w' ⟨rfl,rfl⟩))
 go_wp2
 go_ret
 exact⟨rfl,((((Grew.refl w).alloc _).alloc _).alloc _).drew⟩
theorem cmp_any (a b:C) (w:World):Calls Tryz.prog 132 #[clV a,clV b] w fun e w'=>e=.returned (.int .i64 (cmpC a b))∧Grew w w' :=
 cmp_nat a.1.val a.2.val b.1.val b.2.val w
end Go.Proofs.YtahnbigkdfmpbaaGreatDoor.F
namespace Go.Proofs.YtahnbigkdfmpbaaGreatDoor.F
open Go.RowKit
theorem Tryz.infoC:(Tryz.prog.info? 49).map (fun i=>(i.zero,i.size,i.bytes))=some (some (.agg #[.int .u32 0,.int .u32 0]),2,8):=by kernel_rfl
def encC (c:C):List Value:=[.int .u32 (c.1.val:Int),.int .u32 (c.2.val:Int)]
def flat (l:List C):List Value:=l.flatMap encC
theorem flat_append (l m:List C):flat (l++m)=flat l++flat m:=by simp [flat]
theorem flat_one (c:C):flat [c]=encC c:=by simp [flat]
theorem flat_length (l:List C):(flat l).length=l.length*2:=by
 induction l with
 | nil=>rfl
 | cons c l ih =>
  have e:flat (c :: l)=encC c++flat l:=rfl
  rw [e,List.length_append,ih]
  simp [encC]
  omega
theorem flat_get0 (l:List C) (j:Nat):(flat l)[j*2]? = l[j]?.map (fun c=>.int .u32 (c.1.val:Int)):=by
 induction l generalizing j with
 | nil=>simp [flat]
 | cons c l ih =>
  have e:flat (c :: l)=.int .u32 (c.1.val:Int) :: .int .u32 (c.2.val:Int) :: flat l:=rfl
  rw [e]
  cases j with
  | zero=>rfl
  | succ j =>
   have e2:(j+1) * 2=j*2+1+1:=by omega
   rw [e2,List.getElem?_cons_succ,List.getElem?_cons_succ,ih,List.getElem?_cons_succ]
theorem flat_get1 (l:List C) (j:Nat):(flat l)[j*2+1]? = l[j]?.map (fun c=>.int .u32 (c.2.val:Int)):=by
 induction l generalizing j with
 | nil=>simp [flat]
 | cons c l ih =>
  have e:flat (c :: l)=.int .u32 (c.1.val:Int) :: .int .u32 (c.2.val:Int) :: flat l:=rfl
  rw [e]
  cases j with
  | zero=>rfl
  | succ j =>
   have e2:(j+1) * 2+1=j*2+1+1+1:=by omega
   rw [e2,List.getElem?_cons_succ,List.getElem?_cons_succ,ih,List.getElem?_cons_succ]
theorem flat_oneCell (l:List C):∀ u∈flat l,u.oneCell'=true:=by
 intro u hu
 obtain⟨c,_,hc⟩:=List.mem_flatMap.1 hu
 simp [encC] at hc
 rcases hc with rfl|rfl <;> rfl
def OwnsC (w:World) (base:Nat) (v:Value) (l:List C):Prop:=w.ownsRow base 49 2 v l.length (flat l)
def CellsC (w:World) (g off:Nat) (l:List C):Prop :=
 ∀ j c,l[j]? = some c→w.cell? ⟨g,off+j*2,none⟩=some (.int .u32 (c.1.val:Int))∧w.cell? ⟨g,off+j*2+1,none⟩=some (.int .u32 (c.2.val:Int))
def CRow (w:World) (v:Value) (l:List C):Prop :=
 (∃ a cap,v=.slice a 0 cap∧l=[])∨∃ g off cap,v=.slice (some ⟨g,off,none⟩) l.length cap∧g<w.heap.size∧CellsC w g off l
theorem CellsC.below {w w':World} {B g off:Nat} {l:List C} (h:CellsC w g off l) (hb:Below B w w') (hg:g<B):CellsC w' g off l :=
 fun j c hj=>⟨(hb.cell (p:=⟨g,off+j*2,none⟩) hg).trans (h j c hj).1,(hb.cell (p:=⟨g,off+j*2+1,none⟩) hg).trans (h j c hj).2⟩
theorem OwnsC.cells {w:World} {base g cap:Nat} {l:List C} (h:OwnsC w base (.slice (some ⟨g,0,none⟩) l.length cap) l):CellsC w g 0 l:=by
 intro j c hj
 have hlt:j<l.length:=by
  rcases Nat.lt_or_ge j l.length with h1|h1
  ·exact h1
  ·rw [List.getElem?_eq_none h1] at hj;exact absurd hj (by simp)
 have e1:=World.ownsRow.cellAt h (j*2) (by omega)
 have e2:=World.ownsRow.cellAt h (j*2+1) (by omega)
 rw [flat_get0,hj] at e1
 rw [flat_get1,hj] at e2
 rw [Nat.zero_add]
 exact⟨e1,e2⟩
theorem OwnsC.form {w:World} {base:Nat} {v:Value} {l:List C} (h:OwnsC w base v l):(v=.slice none 0 0∧l=[])∨∃ g cap,v=.slice (some ⟨g,0,none⟩) l.length cap∧base≤g∧g<w.heap.size∧CellsC w g 0 l:=by
 have h0:=h
 obtain⟨h1,h2 | ⟨g,cap,cur,rfl,hg,hh,hn,hc,hs,ht⟩⟩:=h
 ·exact .inl ⟨h2.1,List.length_eq_zero_iff.1 h2.2⟩
 ·exact .inr ⟨g,cap,rfl,hg,(World.ownsRow.lt h0 g rfl).2,OwnsC.cells h0⟩
theorem OwnsC.row {w:World} {base:Nat} {v:Value} {l:List C} (h:OwnsC w base v l):CRow w v l:=by
 rcases h.form with ⟨rfl,rfl⟩|⟨g,cap,rfl,hb,hg,hc⟩
 ·exact .inl ⟨_,_,rfl,rfl⟩
 ·exact .inr ⟨g,0,cap,rfl,hg,hc⟩
theorem CRow.below {w w':World} {v:Value} {l:List C} (h:CRow w v l) (hb:Below w.heap.size w w'):CRow w' v l:=by
 rcases h with h|⟨g,off,cap,rfl,hg,hc⟩
 ·exact .inl h
 ·exact .inr ⟨g,off,cap,rfl,Nat.lt_of_lt_of_le hg hb.size,hc.below hb hg⟩
theorem chain {a b c:World} (h1:Below a.heap.size a b) (h2:Below b.heap.size b c):Below a.heap.size a c:=h1.trans (h2.mono h1.size)
theorem below_alloc (w:World) (o:Obj):Below w.heap.size w (w.alloc o):=(Below.refl _ _).alloc (Nat.le_refl _) _
theorem OwnsC.mono {w:World} {base base':Nat} {v:Value} {l:List C} (h:OwnsC w base v l) (hb:base'≤base):OwnsC w base' v l:=World.ownsRow.mono h hb
end Go.Proofs.YtahnbigkdfmpbaaGreatDoor.F
namespace Go.Proofs.YtahnbigkdfmpbaaGreatDoor.F
open Go.RowKit
theorem CRow.len {w:World} {v:Value} {l:List C} (h:CRow w v l):∃ a cap,v=.slice a l.length cap:=by
 rcases h with ⟨a,cap,rfl,rfl⟩|⟨g,off,cap,rfl,_,_⟩
 ·exact⟨_,_,rfl⟩
 ·exact⟨_,_,rfl⟩
theorem CRow.cons {w:World} {v:Value} {l:List C} (h:CRow w v l) (hl:l≠[]):∃ g off cap,v=.slice (some ⟨g,off,none⟩) l.length cap∧g<w.heap.size∧CellsC w g off l:=by
 rcases h with ⟨a,cap,rfl,rfl⟩|h
 ·exact absurd rfl hl
 ·exact h
theorem get_some {α:Type} {l:List α} {k:Nat} (h:k<l.length):∃ c,l[k]? = some c:=⟨l[k],List.getElem?_eq_getElem h⟩
theorem take_eq_step {l m:List C} {k:Nat} {c d:C} (h:l.take k=m.take k) (h1:l[k]? = some c) (h2:m[k]? = some d) (e:c=d):l.take (k+1)=m.take (k+1):=by
 rw [List.take_add_one,List.take_add_one,h,h1,h2,e]
set_option maxRecDepth 100000 in
set_option maxHeartbeats 1000000 in
theorem same_any (l m:List C) (a b:Value) (w:World) (ha:CRow w a l) (hb:CRow w b m) (hl:l.length≤100000) :
  Calls Tryz.prog 12 #[a,b] w fun e w'=>e=.returned (.bool (decide (l=m)))∧Below w.heap.size w w':=by
 by_cases hlen:l.length=m.length
 ·by_cases hz:l=[]
  ·subst hz
   have hm:m=[]:=List.length_eq_zero_iff.1 hlen.symm
   subst hm
   obtain⟨p,c,rfl⟩:=ha.len
   obtain⟨q,d,rfl⟩:=hb.len
   clear ha hb
   go_enter Tryz.func12,Tryz.ntmps12
   go_wp2
   go_loop [5] (fun i=>i=.int .i64 0) (fun _=>0)
   case atStart=>rfl
   case round =>
    subst hrel
    go_wp2
    go_ret
    exact⟨rfl,Below.refl _ _⟩
  ·have hzm:m≠[]:=by rintro rfl;exact hz (List.length_eq_zero_iff.1 hlen)
   obtain⟨g,off,cap,rfl,hg,hc⟩:=ha.cons hz
   obtain⟨g2,off2,cap2,rfl,hg2,hc2⟩:=hb.cons hzm
   clear ha hb
   rw [← hlen]
   obtain⟨n,hn⟩:∃ n,n=l.length:=⟨_,rfl⟩
   have Hn:Hid (n=l.length):=hn
   have Hm:Hid (n=m.length):=hn.trans hlen
   rw [← hn] at hl ⊢
   clear hn hlen
   go_enter Tryz.func12,Tryz.ntmps12
   go_wp2
   go_loopw [5] (fun i wr=>∃ k:Nat,k≤n∧i=.int .i64 k∧l.take k=m.take k∧Below w.heap.size w wr) (fun i _=>n - (intOf i).toNat)
   case atStart=>exact⟨0,by omega,rfl,rfl,Below.refl _ _⟩
   case round =>
    obtain⟨k,hk,rfl,htk,hB⟩:=hrel
    have HT:Hid (l.take k=m.take k):=htk
    clear htk
    by_cases hlt:k<n
    ·obtain⟨c,h1⟩:=get_some (l:=l) (k:=k) (by rw [← Hn.out];exact hlt)
     obtain⟨d,h2⟩:=get_some (l:=m) (k:=k) (by rw [← Hm.out];exact hlt)
     have x1:=(hc.below hB hg) k c h1
     have x2:=(hc2.below hB hg2) k d h2
     obtain⟨x1,x1'⟩:=x1
     obtain⟨x2,x2'⟩:=x2
     have H1:Hid (l[k]? = some c):=h1
     have H2:Hid (m[k]? = some d):=h2
     clear h1 h2 hc hc2
     by_cases e1:c.1.val=d.1.val
     ·by_cases e2:c.2.val=d.2.val
      ·go_wp2
       go_quiet (fail)
       go_wp2
       go_roundw
       case rel=>exact⟨k+1,by omega,by go_num,take_eq_step HT.out H1.out H2.out (c_ext e1 e2),below_drewN hB _⟩
       case measure=>simp [intOf];omega
      ·have HN:Hid (l≠m):=fun h=>by
        have:=H2.out
        rw [← h,H1.out] at this
        exact e2 (by rw [Option.some.inj this])
       go_wp2
       go_quiet (fail)
       go_wp2
       go_ret
       exact⟨ret_bool (by simp [HN.out]),below_drewN hB _⟩
     ·have HN:Hid (l≠m):=fun h=>by
       have:=H2.out
       rw [← h,H1.out] at this
       exact e1 (by rw [Option.some.inj this])
      go_wp2
      go_quiet (fail)
      go_wp2
      go_ret
      exact⟨ret_bool (by simp [HN.out]),below_drewN hB _⟩
    ·obtain rfl:k=n:=by omega
     have HE:Hid (l=m):=by
      have h:=HT.out
      rwa [List.take_of_length_le (by rw [← Hn.out];exact Nat.le_refl _),List.take_of_length_le (by rw [← Hm.out];exact Nat.le_refl _)] at h
     go_wp2
     go_ret
     exact⟨ret_bool (by simp [HE.out]),hB⟩
 ·obtain⟨p,c,rfl⟩:=ha.len
  obtain⟨q,d,rfl⟩:=hb.len
  clear ha hb
  have h:l≠m:=by rintro rfl;exact hlen rfl
  go_enter Tryz.func12,Tryz.ntmps12
  go_wp2
  go_ret
  exact⟨by simp [h],Below.refl _ _⟩
end Go.Proofs.YtahnbigkdfmpbaaGreatDoor.F
