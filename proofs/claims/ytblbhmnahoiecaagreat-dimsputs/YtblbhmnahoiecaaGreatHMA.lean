/- A part of the proof. -/
import Derived.Laws.BitsLemmas
set_option linter.unusedVariables false
set_option linter.unusedSimpArgs false
namespace Go.Proofs.YtblbhmnahoiecaaGreat
def dimsOf (s:Nat):List Nat:=(List.range 24).filter (fun k=>s.testBit k)
def orFrom (a:Nat) (l:List Nat):Nat:=l.foldl (fun a k=>a ||| 2 ^ k) a
def orAll (l:List Nat):Nat:=orFrom 0 l
def sumFrom (a:Nat) (l:List Nat):Nat:=l.foldl (fun a k=>a+2 ^ k) a
def sumAll (l:List Nat):Nat:=sumFrom 0 l
theorem testBit_orFrom (l:List Nat):∀ (a k:Nat),(orFrom a l).testBit k=(a.testBit k || decide (k∈l)):=by
 induction l with
 | nil=>intro a k;simp [orFrom]
 | cons x l ih =>
  intro a k
  have h:orFrom a (x :: l)=orFrom (a ||| 2 ^ x) l:=rfl
  rw [h,ih,Nat.testBit_or,Nat.testBit_two_pow]
  by_cases e:x=k
  ·subst e;simp
  ·have e':¬ k=x:=fun h=>e h.symm
   simp [e,e']
theorem testBit_orAll (l:List Nat) (k:Nat):(orAll l).testBit k=decide (k∈l):=by
 rw [orAll,testBit_orFrom];simp
theorem orAll_snoc (l:List Nat) (k:Nat):orAll (l ++ [k])=orAll l ||| 2 ^ k:=by simp [orAll,orFrom]
theorem sumAll_snoc (l:List Nat) (k:Nat):sumAll (l ++ [k])=sumAll l+2 ^ k:=by simp [sumAll,sumFrom]
theorem orAll_lt {l:List Nat} (h:∀ k∈l,k<24):orAll l<16777216:=by
 have:orAll l<2 ^ 24:=Nat.lt_pow_two_of_testBit _ (fun i hi=>by
  rw [testBit_orAll]
  exact decide_eq_false (fun hm=>by have:=h i hm;omega))
 exact this
theorem mem_dimsOf {s k:Nat}:k∈dimsOf s↔k<24/\s.testBit k=true:=by simp [dimsOf]
theorem dimsOf_lt {s:Nat}:∀ k∈dimsOf s,k<24:=fun _ h=>(mem_dimsOf.1 h).1
theorem dimsOf_sorted (s:Nat):(dimsOf s).Pairwise (· < ·):=List.Pairwise.filter _ List.pairwise_lt_range
theorem dimsOf_length_le (s:Nat):(dimsOf s).length<=24:=by
 have:=List.length_filter_le (fun k=>s.testBit k) (List.range 24)
 simpa [dimsOf] using this
theorem sorted_ext:∀ {l m:List Nat},l.Pairwise (· < ·)->m.Pairwise (· < ·)->(∀ k,k∈l↔k∈m)->l=m
  | [],[],_,_,_=>rfl
  | [],b :: m,_,_,h=>absurd ((h b).2 (by simp)) (by simp)
  | a :: l,[],_,_,h=>absurd ((h a).1 (by simp)) (by simp)
  | a :: l,b :: m,hl,hm,h=>by
    have hl':=List.pairwise_cons.1 hl
    have hm':=List.pairwise_cons.1 hm
    have hab:a=b:=by
      rcases List.mem_cons.1 ((h a).1 (by simp)) with e|e
      . exact e
      . rcases List.mem_cons.1 ((h b).2 (by simp)) with f | f
        . exact f.symm
        . have:=hm'.1 a e;have:=hl'.1 b f;omega
    subst hab
    congr 1
    refine sorted_ext hl'.2 hm'.2 (fun k=>⟨fun hk=>?_,fun hk=>?_⟩)
    . rcases List.mem_cons.1 ((h k).1 (List.mem_cons_of_mem _ hk)) with e | e
      . have:=hl'.1 k hk;omega
      . exact e
    . rcases List.mem_cons.1 ((h k).2 (List.mem_cons_of_mem _ hk)) with e | e
      . have:=hm'.1 k hk;omega
      . exact e
theorem dimsOf_of {x:Nat} {l:List Nat} (hs:l.Pairwise (· < ·)) (h24:∀ k∈l,k<24) (hb:∀ k,k<24->x.testBit k=decide (k∈l)):dimsOf x=l:=by
  refine sorted_ext (dimsOf_sorted x) hs (fun k=>?_)
  rw [mem_dimsOf]
  constructor
  . rintro⟨h1,h2⟩;rw [hb k h1] at h2;exact of_decide_eq_true h2
  . intro h;exact⟨h24 k h,by rw [hb k (h24 k h)];exact decide_eq_true h⟩
theorem add_pow_eq_or {a k:Nat} (h:a.testBit k=false):a+2 ^ k=a ||| 2 ^ k:=by
 have hand:a &&& 2 ^ k=0:=by
  apply Nat.eq_of_testBit_eq
  intro i
  rw [Nat.testBit_and,Nat.testBit_two_pow,Nat.zero_testBit]
  by_cases e:k=i
  ·subst e;simp [h]
  ·simp [e]
 obtain⟨n,hlt⟩:∃ n,a+2 ^ k<2 ^ n:=⟨a+2 ^ k,Nat.lt_two_pow_self⟩
 have ha:a<2 ^ n:=Nat.lt_of_le_of_lt (Nat.le_add_right _ _) hlt
 have hb:2 ^ k<2 ^ n:=Nat.lt_of_le_of_lt (Nat.le_add_left _ _) hlt
 have hbv:=BitVec.add_eq_or_of_and_eq_zero (BitVec.ofNat n a) (BitVec.ofNat n (2 ^ k)) (by
  apply BitVec.eq_of_toNat_eq
  rw [BitVec.toNat_and,BitVec.toNat_ofNat,BitVec.toNat_ofNat,Nat.mod_eq_of_lt ha,Nat.mod_eq_of_lt hb,hand];simp)
 have:=congrArg BitVec.toNat hbv
 rw [BitVec.toNat_add,BitVec.toNat_or,BitVec.toNat_ofNat,BitVec.toNat_ofNat,Nat.mod_eq_of_lt ha,Nat.mod_eq_of_lt hb,Nat.mod_eq_of_lt hlt] at this
 exact this
theorem sumFrom_eq:∀ (l:List Nat) (a:Nat),l.Nodup->(∀ k∈l,a.testBit k=false)->sumFrom a l=orFrom a l
 | [],_,_,_=>rfl
 | x :: l,a,hn,h=>by
  have hn':=List.nodup_cons.1 hn
  have e1:sumFrom a (x :: l)=sumFrom (a+2 ^ x) l:=rfl
  have e2:orFrom a (x :: l)=orFrom (a ||| 2 ^ x) l:=rfl
  rw [e1,e2,add_pow_eq_or (h x (by simp))]
  refine sumFrom_eq l _ hn'.2 (fun k hk=>?_)
  rw [Nat.testBit_or,h k (List.mem_cons_of_mem _ hk),Nat.testBit_two_pow]
  simp only [Bool.false_or,decide_eq_false_iff_not]
  rintro rfl;exact hn'.1 hk
theorem sumAll_eq {l:List Nat} (hn:l.Nodup):sumAll l=orAll l:=sumFrom_eq l 0 hn (by simp)
theorem sumFrom_le (l:List Nat) (h:∀ k∈l,k<24):∀ a,sumFrom a l<=a+l.length*16777216:=by
 induction l with
 | nil=>intro a;simp [sumFrom]
 | cons x l ih =>
  intro a
  have e:sumFrom a (x :: l)=sumFrom (a+2 ^ x) l:=rfl
  have hx:=h x (by simp)
  have hp:2 ^ x<=2 ^ 23:=Nat.pow_le_pow_right (by decide) (by omega)
  have:=ih (fun k hk=>h k (List.mem_cons_of_mem _ hk)) (a+2 ^ x)
  rw [e];simp only [List.length_cons];omega
theorem sorted_nodup {l:List Nat} (h:l.Pairwise (· < ·)):l.Nodup:=h.imp (fun h=>Nat.ne_of_lt h)
theorem testBit_low (s k:Nat):(s &&& 16777215).testBit k=(decide (k<24) && s.testBit k):=by
 have e:(16777215:Nat)=2 ^ 24 - 1:=by decide
 rw [e,Nat.and_two_pow_sub_one_eq_mod,Nat.testBit_mod_two_pow]
theorem low_lt (s:Nat):s &&& 16777215<16777216:=by
 have e:(16777215:Nat)=2 ^ 24 - 1:=by decide
 rw [e,Nat.and_two_pow_sub_one_eq_mod];exact Nat.mod_lt _ (by decide)
theorem low_eq (s:Nat):s &&& 16777215=orAll (dimsOf s):=by
 apply Nat.eq_of_testBit_eq
 intro k;rw [testBit_low,testBit_orAll,Bool.eq_iff_iff];simp [mem_dimsOf]
theorem low_of_lt {s:Nat} (h:s<16777216):s &&& 16777215=s:=by
 have e:(16777215:Nat)=2 ^ 24 - 1:=by decide
 rw [e,Nat.and_two_pow_sub_one_eq_mod];exact Nat.mod_eq_of_lt h
def andNot32 (a b:Nat):Nat:=(BitVec.ofNat 32 a &&& ~~~ BitVec.ofNat 32 b).toNat
theorem andNot32_lt (a b:Nat):andNot32 a b<4294967296:=(BitVec.ofNat 32 a &&& ~~~ BitVec.ofNat 32 b).isLt
theorem testBit_andNot32 (a b k:Nat) (ha:a<4294967296):(andNot32 a b).testBit k=(a.testBit k && !b.testBit k):=by
 have h:(andNot32 a b).testBit k=(BitVec.ofNat 32 a &&& ~~~ BitVec.ofNat 32 b).getLsbD k:=rfl
 rw [h,BitVec.getLsbD_and,BitVec.getLsbD_not,BitVec.getLsbD_ofNat,BitVec.getLsbD_ofNat]
 by_cases hk:k<32
 ·simp [hk]
 ·have hp:2 ^ 32<=2 ^ k:=Nat.pow_le_pow_right (by decide) (by omega)
  have:a.testBit k=false:=Nat.testBit_lt_two_pow (Nat.lt_of_lt_of_le ha hp)
  simp [this]
theorem wraps_u32 (n:Int) (h₀:0<=n) (h₁:n<2 ^ 32):IntKind.u32.wrap n=n:=by rw [IntKind.wrap_u32];omega
theorem bits_and32 (a b:Nat) (ha:a<4294967296) (hb:b<4294967296):bits .and .u32 a b=((a &&& b:Nat):Int) :=
 (bits_nat .u32 32 (by decide) wraps_u32 a b (by omega) (by omega)).1
theorem bits_or32 (a b:Nat) (ha:a<4294967296) (hb:b<4294967296):bits .or .u32 a b=((a ||| b:Nat):Int) :=
 (bits_nat .u32 32 (by decide) wraps_u32 a b (by omega) (by omega)).2
theorem bits_andNot32 (a b:Nat):bits .andNot .u32 a b=((andNot32 a b:Nat):Int):=by
 show IntKind.u32.wrap ((BitVec.ofInt 32 (a:Int) &&& ~~~ BitVec.ofInt 32 (b:Int)).toNat:Int)=_
 rw [BitVec.ofInt_natCast,BitVec.ofInt_natCast]
 exact wraps_u32 _ (Int.natCast_nonneg _) (by have:=andNot32_lt a b;unfold andNot32 at this;omega)
theorem pow_mod32 (i:Nat) (hi:i<24):((2:Int) ^ i % 4294967296)=((2 ^ i:Nat):Int):=by
 have:(2:Nat) ^ i<2 ^ 24:=Nat.pow_lt_pow_right (by decide) hi
 have e:((2:Int) ^ i)=((2 ^ i:Nat):Int):=by simp
 rw [e]
 generalize (2:Nat) ^ i=x at *
 omega
theorem pow_lt (i:Nat) (hi:i<24):2 ^ i<4294967296:=by
 have:(2:Nat) ^ i<2 ^ 24:=Nat.pow_lt_pow_right (by decide) hi
 omega
def rightB (s:Nat):Bool:=decide (s<16777216)
def isDimB (i:Int):Bool:=decide (0<=i) && decide (i<24)
def hasB (s:Nat) (i:Int):Bool:=isDimB i && s.testBit i.toNat
def withN (s:Nat) (i:Int):Nat:=if isDimB i then (s &&& 16777215) ||| 2 ^ i.toNat else s &&& 16777215
def withoutN (s:Nat) (i:Int):Nat:=if isDimB i then andNot32 (s &&& 16777215) (2 ^ i.toNat) else s &&& 16777215
def badK (from_ by_:Int) (k:Nat):Bool:=decide (from_<=(k:Int)) && decide (24 - (k:Int)<=by_)
def upK (from_ by_:Int) (k:Nat):Nat:=if (k:Int) < from_ then k else k+by_.toNat
def liftBad (from_ by_:Int) (l:List Nat):Bool:=l.any (badK from_ by_)
def notI (i:Int) (k:Nat):Bool:=decide (i≠(k:Int))
def downK (i k:Nat):Nat:=if k<i then k else k - 1
def argB (from_ by_:Int):Bool:=decide (from_<0) || decide (by_<0)
def liftN (s:Nat) (from_ by_:Int):Nat:=if argB from_ by_ then 0 else if liftBad from_ by_ (dimsOf s) then 0 else orAll ((dimsOf s).map (upK from_ by_))
def liftE (s:Nat) (from_ by_:Int):Int:=if argB from_ by_ then 2 else if liftBad from_ by_ (dimsOf s) then 10 else 0
def dropN (s:Nat) (i:Int):Nat:=if isDimB i then orAll (((dimsOf s).filter (notI i)).map (downK i.toNat)) else s &&& 16777215
theorem isDimB_yes {i:Int} (h0:0<=i) (h1:i<24):isDimB i=true:=by simp [isDimB,h0,h1]
theorem isDimB_nat {k:Nat} (h:k<24):isDimB (k:Int)=true:=isDimB_yes (by omega) (by omega)
theorem isDimB_lo {i:Int} (h0:i<0):isDimB i=false:=by simp [isDimB];omega
theorem isDimB_hi {i:Int} (h0:24<=i):isDimB i=false:=by simp [isDimB];omega
theorem hasB_nat {s k:Nat} (h:k<24):hasB s (k:Int)=s.testBit k:=by simp [hasB,isDimB_nat h]
theorem hasB_no {s:Nat} {i:Int} (h:isDimB i=false):hasB s i=false:=by simp [hasB,h]
theorem testBit_withoutN_nat (s i k:Nat) (hi:i<24):(withoutN s (i:Int)).testBit k=((decide (k<24) && s.testBit k) && !decide (i=k)):=by
 unfold withoutN
 rw [isDimB_nat hi]
 simp only [if_true,Int.toNat_natCast]
 rw [testBit_andNot32 _ _ _ (by have:=low_lt s;omega),testBit_low,Nat.testBit_two_pow]
theorem testBit_withN_nat (s i k:Nat) (hi:i<24):(withN s (i:Int)).testBit k=((decide (k<24) && s.testBit k) || decide (i=k)):=by
 unfold withN
 rw [isDimB_nat hi]
 simp only [if_true,Int.toNat_natCast]
 rw [Nat.testBit_or,testBit_low,Nat.testBit_two_pow]
theorem withoutN_lt (s:Nat) (i:Int):withoutN s i<16777216:=by
 unfold withoutN
 split
 ·rename_i h
  have h':0<=i/\i<24:=by simpa [isDimB] using h
  exact Nat.lt_pow_two_of_testBit (n:=24) _ (fun k hk=>by
   rw [testBit_andNot32 _ _ _ (by have:=low_lt s;omega),testBit_low]
   have:¬ k<24:=by omega
   simp [this])
 ·exact low_lt s
theorem withN_no {s:Nat} {i:Int} (h:isDimB i=false):withN s i=s &&& 16777215:=by simp [withN,h]
theorem withoutN_no {s:Nat} {i:Int} (h:isDimB i=false):withoutN s i=s &&& 16777215:=by simp [withoutN,h]
theorem withN_orAll {l:List Nat} {k:Nat} (h:∀ k∈l,k<24) (hk:k<24):withN (orAll l) (k:Int)=orAll (l ++ [k]):=by
 unfold withN
 rw [isDimB_nat hk]
 simp only [if_true,Int.toNat_natCast]
 rw [orAll_snoc,low_of_lt (orAll_lt h)]
theorem dimsOf_withoutN (s:Nat) (i:Int):dimsOf (withoutN s i)=(dimsOf s).filter (notI i):=by
 refine dimsOf_of (List.Pairwise.filter _ (dimsOf_sorted s)) (fun k hk=>dimsOf_lt k (List.mem_filter.1 hk).1) (fun k hk=>?_)
 by_cases h:isDimB i=true
 ·have h':0<=i/\i<24:=by simpa [isDimB] using h
  obtain⟨j,rfl⟩:=Int.eq_ofNat_of_zero_le h'.1
  have hj:j<24:=by omega
  have e:=testBit_withoutN_nat s j k hj
  rw [e,Bool.eq_iff_iff]
  simp [mem_dimsOf,hk,notI]
  omega
 ·have h:isDimB i=false:=by simpa using h
  have hik:i≠(k:Int):=by rintro rfl;rw [isDimB_nat hk] at h;cases h
  rw [withoutN_no h,testBit_low,Bool.eq_iff_iff]
  simp [mem_dimsOf,hk,hik,notI]
theorem orAll_dims_withoutN (s:Nat) (i:Int):orAll ((dimsOf s).filter (notI i))=withoutN s i:=by
 rw [<- dimsOf_withoutN,<- low_eq,low_of_lt (withoutN_lt s i)]
theorem with_sum (s j:Nat) (hj:j<24):sumAll (dimsOf (withoutN s (j:Int)) ++ [j])=withN s (j:Int):=by
 have hd:=dimsOf_withoutN s (j:Int)
 have hnd:(dimsOf (withoutN s (j:Int)) ++ [j]).Nodup:=by
  rw [List.nodup_append]
  refine⟨sorted_nodup (dimsOf_sorted _),by simp,fun a ha b hb=>?_⟩
  simp at hb;subst hb
  rw [hd] at ha
  have:=(List.mem_filter.1 ha).2
  simp [notI] at this
  omega
 rw [sumAll_eq hnd]
 apply Nat.eq_of_testBit_eq
 intro k
 rw [testBit_orAll,testBit_withN_nat s j k hj,hd,Bool.eq_iff_iff]
 by_cases e:j=k
 ·subst e;simp
 ·have e':¬ k=j:=fun h=>e h.symm
  have e2:¬ (j:Int)=(k:Int):=by omega
  simp [mem_dimsOf,notI,e,e',e2]
theorem upK_lt {from_ by_:Int} (hb:0<=by_) {a b:Nat} (h:a<b):upK from_ by_ a<upK from_ by_ b:=by
 unfold upK;split <;> split <;> omega
theorem up_sorted {from_ by_:Int} (hb:0<=by_) {l:List Nat} (h:l.Pairwise (· < ·)):(l.map (upK from_ by_)).Pairwise (· < ·) :=
  List.pairwise_map.2 (h.imp (fun h=>upK_lt hb h))
theorem upK_bd {from_ by_:Int} (hb:0<=by_) {k:Nat} (hk:k<24) (hn:badK from_ by_ k=false):upK from_ by_ k<24:=by
 simp [badK] at hn
 unfold upK;split <;> omega
theorem up_bd {from_ by_:Int} (hb:0<=by_) {l:List Nat} (h24:∀ k∈l,k<24) (hn:liftBad from_ by_ l=false):∀ k∈l.map (upK from_ by_),k<24:=by
 intro k hk
 obtain⟨x,hx,rfl⟩:=List.mem_map.1 hk
 simp only [liftBad,List.any_eq_false] at hn
 exact upK_bd hb (h24 x hx) (by simpa using hn x hx)
def midL (f:Nat->Nat) (l:List Nat) (k:Nat):List Nat:=(l.take k).map f++l.drop k
theorem midL_zero (f:Nat->Nat) (l:List Nat):midL f l 0=l:=by simp [midL]
theorem midL_end (f:Nat->Nat) (l:List Nat):midL f l l.length=l.map f:=by simp [midL]
theorem midL_at (f:Nat->Nat) (l:List Nat) (k:Nat) (h:k<l.length):(midL f l k)[k]? = some (l[k]?.getD 0):=by
 have h1:((l.take k).map f).length=k:=by simp;omega
 rw [midL,List.getElem?_append_right (by omega),h1,Nat.sub_self,List.getElem?_drop]
 simp [h]
theorem midL_set (f:Nat->Nat) (l:List Nat) (k:Nat) (h:k<l.length):(midL f l k).set k (f (l[k]?.getD 0))=midL f l (k+1):=by
 have e:l[k]?.getD 0=l[k]:=by simp [h]
 rw [e]
 unfold midL
 rw [List.take_succ_eq_append_getElem h,List.drop_eq_getElem_cons h]
 have h1:((l.take k).map f).length=k:=by simp;omega
 rw [List.set_append_right _ _ (by omega),h1]
 simp only [List.map_append,List.map_cons,List.map_nil,List.append_assoc,List.cons_append,List.nil_append,Nat.sub_self,List.set_cons_zero]
theorem midL_same (f:Nat->Nat) (l:List Nat) (k:Nat) (h:k<l.length) (hf:f (l[k]?.getD 0)=l[k]?.getD 0):midL f l (k+1)=midL f l k:=by
 have e:l[k]?.getD 0=l[k]:=by simp [h]
 rw [e] at hf
 unfold midL
 rw [List.take_succ_eq_append_getElem h,List.drop_eq_getElem_cons h]
 simp only [List.map_append,List.map_cons,List.map_nil,List.append_assoc,List.cons_append,List.nil_append,hf]
theorem argB_no {from_ by_:Int} (h1:0<=from_) (h2:0<=by_):argB from_ by_=false:=by simp [argB];omega
theorem argB_from {from_ by_:Int} (h1:from_<0):argB from_ by_=true:=by simp [argB,h1]
theorem argB_by {from_ by_:Int} (h1:by_<0):argB from_ by_=true:=by simp [argB,h1]
theorem lift_arg {s:Nat} {from_ by_:Int} (h:argB from_ by_=true):liftN s from_ by_=0/\liftE s from_ by_=2:=by simp [liftN,liftE,h]
theorem lift_bad {s:Nat} {from_ by_:Int} (h:argB from_ by_=false) (hb:liftBad from_ by_ (dimsOf s)=true):liftN s from_ by_=0/\liftE s from_ by_=10:=by simp [liftN,liftE,h,hb]
theorem lift_ok {s:Nat} {from_ by_:Int} (h:argB from_ by_=false) (hb:liftBad from_ by_ (dimsOf s)=false):liftN s from_ by_=orAll ((dimsOf s).map (upK from_ by_))/\liftE s from_ by_=0:=by simp [liftN,liftE,h,hb]
theorem liftBad_mem {from_ by_:Int} {l:List Nat} {k:Nat} (hk:k∈l) (hb:badK from_ by_ k=true):liftBad from_ by_ l=true:=by
 simp only [liftBad,List.any_eq_true];exact⟨k,hk,hb⟩
theorem liftN_lt (s:Nat) (from_ by_:Int):liftN s from_ by_<16777216:=by
 by_cases h:argB from_ by_=true
 ·rw [(lift_arg h).1];decide
 ·have h:argB from_ by_=false:=by simpa using h
  by_cases hb:liftBad from_ by_ (dimsOf s)=true
  ·rw [(lift_bad h hb).1];decide
  ·have hb:liftBad from_ by_ (dimsOf s)=false:=by simpa using hb
   have hby:0<=by_:=by simp [argB] at h;omega
   rw [(lift_ok h hb).1]
   exact orAll_lt (up_bd hby dimsOf_lt hb)
def dnI (i:Int) (k:Nat):Nat:=if 0<=i/\i<(k:Int) then k - 1 else k
theorem dnI_no {i:Int} {k:Nat} (h:¬ (0<=i/\i<(k:Int))):dnI i k=k:=by simp only [dnI,if_neg h]
theorem dnI_yes {i:Int} {k:Nat} (h0:0<=i) (h1:i<(k:Int)):dnI i k=k - 1:=by simp only [dnI,if_pos (And.intro h0 h1)]
theorem dn_sorted (i:Int):∀ {l:List Nat},l.Pairwise (· < ·)->(∀ k∈l,(k:Int)≠i)->(l.map (dnI i)).Pairwise (· < ·):=by
  intro l h hn
  rw [List.pairwise_map]
  refine List.Pairwise.imp_of_mem (fun {a b} ha hb hab=>?_) h
  have:=hn a ha;have:=hn b hb
  unfold dnI;split <;> split <;> omega
theorem drop_sum (s:Nat) (i:Int):sumAll ((dimsOf (withoutN s i)).map (dnI i))=dropN s i:=by
 have hd:=dimsOf_withoutN s i
 have hne:∀ k∈dimsOf (withoutN s i),(k:Int)≠i:=fun k hk=>by
  rw [hd] at hk
  have:=(List.mem_filter.1 hk).2
  simp [notI] at this
  exact fun h=>this h.symm
 rw [sumAll_eq (sorted_nodup (dn_sorted i (dimsOf_sorted _) hne))]
 by_cases h:isDimB i=true
 ·have h':0<=i/\i<24:=by simpa [isDimB] using h
  have e:(dimsOf (withoutN s i)).map (dnI i)=((dimsOf s).filter (notI i)).map (downK i.toNat):=by
   rw [<- hd]
   refine List.map_congr_left (fun k hk=>?_)
   have:=hne k hk
   unfold dnI downK;split <;> split <;> omega
  rw [e];simp [dropN,h]
 ·have h:isDimB i=false:=by simpa using h
  have h':i<0\/24<=i:=by simp [isDimB] at h;omega
  have e:(dimsOf (withoutN s i)).map (dnI i)=dimsOf (withoutN s i):=by
   conv=>rhs;rw [<- List.map_id (dimsOf (withoutN s i))]
   refine List.map_congr_left (fun k hk=>?_)
   have:=dimsOf_lt k hk
   unfold dnI;split <;> simp <;> omega
  rw [e,<- low_eq,low_of_lt (withoutN_lt s i),withoutN_no h];simp [dropN,h]
theorem dn_lt24 (s:Nat) (i:Int):∀ k∈(dimsOf (withoutN s i)).map (dnI i),k<24:=by
 intro k hk
 obtain⟨x,hx,rfl⟩:=List.mem_map.1 hk
 have:=dimsOf_lt x hx
 unfold dnI;split <;> omega
theorem dropN_lt (s:Nat) (i:Int):dropN s i<16777216:=by
 by_cases h:isDimB i=true
 ·rw [dropN,if_pos h]
  refine orAll_lt (fun k hk=>?_)
  obtain⟨x,hx,rfl⟩:=List.mem_map.1 hk
  have:=dimsOf_lt x (List.mem_filter.1 hx).1
  unfold downK;split <;> omega
 ·rw [dropN,if_neg h];exact low_lt s
abbrev C:=Fin 4294967296 × Fin 4294967296
def top0:C:=(0,0)
def rightC (c:C):Bool:=rightB c.1.val && rightB c.2.val
def clashC (c:C):Bool:=decide (c.1.val &&& c.2.val &&& 16777215≠0)
def meetP (a b:C):Nat:=(a.1.val ||| b.1.val) &&& 16777215
def meetN (a b:C):Nat:=(a.2.val ||| b.2.val) &&& 16777215
theorem meetP_lt (a b:C):meetP a b<4294967296:=Nat.lt_trans (low_lt _) (by decide)
theorem meetN_lt (a b:C):meetN a b<4294967296:=Nat.lt_trans (low_lt _) (by decide)
def meetC (a b:C):C:=(⟨meetP a b,meetP_lt a b⟩,⟨meetN a b,meetN_lt a b⟩)
def sub24 (y x:Nat):Bool:=decide (andNot32 y x &&& 16777215=0)
def belP (a b:C):Bool:=sub24 b.1.val a.1.val
def belN (a b:C):Bool:=sub24 b.2.val a.2.val
def belC (a b:C):Bool:=belP a b && belN a b
def cmpN (x y:Nat):Int:=if x<y then -1 else if y<x then 1 else 0
def cmpC (a b:C):Int:=if cmpN a.1.val b.1.val≠0 then cmpN a.1.val b.1.val else cmpN a.2.val b.2.val
def ltC (a b:C):Bool:=decide (a.1.val<b.1.val) || (decide (a.1.val=b.1.val) && decide (a.2.val<b.2.val))
theorem c_ext {a b:C} (h1:a.1.val=b.1.val) (h2:a.2.val=b.2.val):a=b:=Prod.ext (Fin.ext h1) (Fin.ext h2)
theorem ltC_irrefl (a:C):ltC a a=false:=by simp [ltC]
theorem ltC_trans {a b c:C} (h1:ltC a b=true) (h2:ltC b c=true):ltC a c=true:=by
 simp only [ltC,Bool.or_eq_true,Bool.and_eq_true,decide_eq_true_eq] at *; omega
theorem ltC_total {a b:C} (h1:ltC a b=false) (h2:ltC b a=false):a=b:=by
 simp only [ltC,Bool.or_eq_false_iff,Bool.and_eq_false_iff,decide_eq_false_iff_not] at *
 exact c_ext (by omega) (by omega)
theorem ltC_asymm {a b:C} (h1:ltC a b=true):ltC b a=false:=by
 cases h:ltC b a
 ·rfl
 ·have:=ltC_trans h1 h;rw [ltC_irrefl] at this;exact absurd this (by simp)
theorem ltC_ne {a b:C} (h1:ltC a b=true):a≠b:=by rintro rfl;rw [ltC_irrefl] at h1;exact absurd h1 (by simp)
theorem cmpN_cases (x y:Nat):(x<y/\cmpN x y = -1)\/(y<x/\cmpN x y=1)\/(x=y/\cmpN x y=0):=by
 unfold cmpN
 by_cases h:x<y
 ·exact .inl ⟨h,by simp [h]⟩
 ·by_cases h2:y<x
  ·exact .inr (.inl ⟨h2,by simp [h,h2]⟩)
  ·exact .inr (.inr ⟨by omega,by simp [h,h2]⟩)
theorem cmpC_cases (a b:C):(ltC a b=true/\cmpC a b = -1)\/(ltC b a=true/\cmpC a b=1)\/(a=b/\cmpC a b=0):=by
 unfold cmpC
 rcases cmpN_cases a.1.val b.1.val with ⟨h,e⟩|⟨h,e⟩|⟨h,e⟩
 ·exact .inl ⟨by simp [ltC,h],by simp [e]⟩
 ·exact .inr (.inl ⟨by simp [ltC,h],by simp [e]⟩)
 ·rcases cmpN_cases a.2.val b.2.val with ⟨h2,e2⟩|⟨h2,e2⟩|⟨h2,e2⟩
  ·exact .inl ⟨by simp [ltC,h,h2],by simp [e,e2]⟩
  ·exact .inr (.inl ⟨by simp [ltC,h,h2],by simp [e,e2]⟩)
  ·exact .inr (.inr ⟨c_ext h h2,by simp [e,e2]⟩)
theorem cmpC_lt (a b:C):decide (cmpC a b<0)=ltC a b:=by
 rcases cmpC_cases a b with ⟨h,e⟩|⟨h,e⟩|⟨h,e⟩
 ·rw [h,e];rfl
 ·rw [ltC_asymm h,e];rfl
 ·subst h;rw [ltC_irrefl,e];rfl
theorem sub24_iff {y x:Nat} (hy:y<4294967296):sub24 y x=true↔∀ k,k<24->y.testBit k=true->x.testBit k=true:=by
 unfold sub24
 rw [decide_eq_true_eq]
 constructor
 ·intro h k hk hb
  have h2:(andNot32 y x &&& 16777215).testBit k=false:=by rw [h];simp
  rw [testBit_low,testBit_andNot32 _ _ _ hy] at h2
  simp [hk,hb] at h2
  exact h2
 ·intro h
  apply Nat.eq_of_testBit_eq
  intro k
  rw [testBit_low,testBit_andNot32 _ _ _ hy,Nat.zero_testBit]
  by_cases hk:k<24
  ·cases hb:y.testBit k
   ·simp
   ·simp [h k hk hb]
  ·simp [hk]
theorem belC_iff {a b:C}:belC a b=true↔(∀ k,k<24->b.1.val.testBit k=true->a.1.val.testBit k=true)/\(∀ k,k<24->b.2.val.testBit k=true->a.2.val.testBit k=true):=by
 unfold belC belP belN
 rw [Bool.and_eq_true,sub24_iff b.1.isLt,sub24_iff b.2.isLt]
theorem belC_refl (a:C):belC a a=true:=belC_iff.2 ⟨fun _ _ h=>h,fun _ _ h=>h⟩
theorem belC_trans {a b c:C} (h1:belC a b=true) (h2:belC b c=true):belC a c=true:=by
 rw [belC_iff] at *
 exact⟨fun k hk h=>h1.1 k hk (h2.1 k hk h),fun k hk h=>h1.2 k hk (h2.2 k hk h)⟩
theorem rightC_iff {c:C}:rightC c=true↔c.1.val<16777216/\c.2.val<16777216:=by simp [rightC,rightB]
theorem bit_lt24 {x k:Nat} (h:x<16777216) (hb:x.testBit k=true):k<24:=by
 rcases Nat.lt_or_ge k 24 with h1|h1
 ·exact h1
 ·have:x<2 ^ k:=Nat.lt_of_lt_of_le h (Nat.pow_le_pow_right (n:=2) (by decide) h1)
  rw [Nat.testBit_lt_two_pow this] at hb
  exact absurd hb (by simp)
theorem sub_or {x y:Nat} (hy:y<16777216) (h:∀ k,k<24->y.testBit k=true->x.testBit k=true):x ||| y=x:=by
 apply Nat.eq_of_testBit_eq
 intro k
 rw [Nat.testBit_or]
 cases hb:y.testBit k
 ·simp
 ·simp [h k (bit_lt24 hy hb) hb]
theorem sub_le {x y:Nat} (hy:y<16777216) (h:∀ k,k<24->y.testBit k=true->x.testBit k=true):y<=x:=by
 rw [<- sub_or hy h];exact Nat.right_le_or
theorem or_sub {x y:Nat} (h:x ||| y=x):∀ k,k<24->y.testBit k=true->x.testBit k=true:=by
 intro k _ hb
 have:=congrArg (fun z=>Nat.testBit z k) h
 simp [Nat.testBit_or,hb] at this
 exact this
def belRP (a b:C):Bool:=decide (a.1.val ||| b.1.val=a.1.val)
def belRN (a b:C):Bool:=decide (a.2.val ||| b.2.val=a.2.val)
def belR (a b:C):Bool:=belRP a b && belRN a b
theorem belR_eq {a b:C} (hb:rightC b=true):belR a b=belC a b:=by
 rw [Bool.eq_iff_iff,belC_iff]
 have hb:=rightC_iff.1 hb
 simp only [belR,belRP,belRN,Bool.and_eq_true,decide_eq_true_eq]
 exact⟨fun h=>⟨or_sub h.1,or_sub h.2⟩,fun h=>⟨sub_or hb.1 h.1,sub_or hb.2 h.2⟩⟩
theorem bel_lt {a b:C} (hb:rightC b=true) (h:belC a b=true) (hne:a≠b):ltC b a=true:=by
 have hb:=rightC_iff.1 hb
 rw [belC_iff] at h
 have h1:=sub_le hb.1 h.1
 have h2:=sub_le hb.2 h.2
 simp only [ltC,Bool.or_eq_true,Bool.and_eq_true,decide_eq_true_eq]
 rcases Nat.lt_or_eq_of_le h1 with h3|h3
 ·exact .inl h3
 ·rcases Nat.lt_or_eq_of_le h2 with h4|h4
  ·exact .inr ⟨h3,h4⟩
  ·exact absurd (c_ext h3.symm h4.symm) hne
theorem bel_antisymm {a b:C} (ha:rightC a=true) (hb:rightC b=true) (h1:belC a b=true) (h2:belC b a=true):a=b:=by
 by_cases e:a=b
 ·exact e
 ·have x:=bel_lt hb h1 e
  have y:=bel_lt ha h2 (fun h=>e h.symm)
  rw [ltC_asymm x] at y;exact absurd y (by simp)
def risesC (l:List C):Prop:=l.Pairwise (fun a b=>ltC a b=true)
theorem rises_ext:∀ {l m:List C},risesC l->risesC m->(∀ k,k∈l↔k∈m)->l=m
 | [],[],_,_,_=>rfl
 | [],b :: m,_,_,h=>absurd ((h b).2 (by simp)) (by simp)
 | a :: l,[],_,_,h=>absurd ((h a).1 (by simp)) (by simp)
 | a :: l,b :: m,hl,hm,h=>by
  have hl':=List.pairwise_cons.1 hl
  have hm':=List.pairwise_cons.1 hm
  have hab:a=b:=by
   rcases List.mem_cons.1 ((h a).1 (by simp)) with e|e
   ·exact e
   ·rcases List.mem_cons.1 ((h b).2 (by simp)) with f|f
    ·exact f.symm
    ·have x:=hm'.1 a e;have y:=hl'.1 b f;rw [ltC_asymm x] at y;exact absurd y (by simp)
  subst hab
  congr 1
  refine rises_ext hl'.2 hm'.2 (fun k=>⟨fun hk=>?_,fun hk=>?_⟩)
  ·rcases List.mem_cons.1 ((h k).1 (List.mem_cons_of_mem _ hk)) with e|e
   ·exact absurd e.symm (ltC_ne (hl'.1 k hk))
   ·exact e
  ·rcases List.mem_cons.1 ((h k).2 (List.mem_cons_of_mem _ hk)) with e|e
   ·exact absurd e.symm (ltC_ne (hm'.1 k hk))
   ·exact e
def neededB (l:List C) (c:C):Bool:=l.all (fun d=>decide (d=c) || !belC c d)
theorem needed_iff {l:List C} {c:C}:neededB l c=true↔∀ d∈l,belC c d=true->d=c:=by
 simp only [neededB,List.all_eq_true,Bool.or_eq_true,decide_eq_true_eq,Bool.not_eq_true']
 exact⟨fun h d hd hb=>(h d hd).resolve_right (by simp [hb]),fun h d hd=>by
  cases hb:belC c d
  ·exact .inr rfl
  ·exact .inl (h d hd hb)⟩
structure IsLeast (l M:List C):Prop where
 rises:risesC M
 mem:∀ c,c∈M↔c∈l/\neededB l c=true
theorem IsLeast.unique {l M N:List C} (h1:IsLeast l M) (h2:IsLeast l N):M=N :=
 rises_ext h1.rises h2.rises (fun k=>by rw [h1.mem,h2.mem])
theorem snoc_ind {α:Type} {motive:List α->Prop} (nil:motive []) (snoc:∀ (o:List α) (c:α),motive o->motive (o ++ [c])) (l:List α):motive l:=by
 have h:∀ r:List α,motive r.reverse:=fun r=>by
  induction r with
  | nil=>exact nil
  | cons c r ih=>rw [List.reverse_cons];exact snoc _ _ ih
 have:=h l.reverse
 rwa [List.reverse_reverse] at this
def keep (acc:List C) (c:C):List C:=if acc.any (fun b=>belC c b) then acc else acc ++ [c]
def keepAll (o:List C):List C:=o.foldl keep []
theorem keepAll_snoc (o:List C) (c:C):keepAll (o ++ [c])=keep (keepAll o) c:=by simp [keepAll]
theorem keep_sub {acc:List C} {c x:C} (h:x∈acc):x∈keep acc c:=by unfold keep;split <;> simp [h]
theorem keepAll_mem_of {o:List C}:∀ x∈keepAll o,x∈o:=by
 induction o using snoc_ind with
 | nil=>intro x h;simp [keepAll] at h
 | snoc o c ih =>
  intro x h
  rw [keepAll_snoc] at h
  unfold keep at h
  split at h
  ·exact List.mem_append_left _ (ih x h)
  ·rcases List.mem_append.1 h with h|h
   ·exact List.mem_append_left _ (ih x h)
   ·exact List.mem_append_right _ h
theorem keepAll_covers {o:List C}:∀ x∈o,∃ d∈keepAll o,belC x d=true:=by
 induction o using snoc_ind with
 | nil=>intro x h;simp at h
 | snoc o c ih =>
  intro x h
  rw [keepAll_snoc]
  rcases List.mem_append.1 h with h|h
  ·obtain⟨d,hd,hb⟩:=ih x h
   exact⟨d,keep_sub hd,hb⟩
  ·obtain rfl:x=c:=by simpa using h
   unfold keep
   split
   ·rename_i ha
    obtain⟨d,hd,hb⟩:=List.any_eq_true.1 ha
    exact⟨d,hd,hb⟩
   ·exact⟨x,by simp,belC_refl x⟩
theorem keepAll_sublist {o:List C}:(keepAll o).Sublist o:=by
 induction o using snoc_ind with
 | nil=>simp [keepAll]
 | snoc o c ih =>
  rw [keepAll_snoc]
  unfold keep
  split
  ·exact ih.trans (List.sublist_append_left _ _)
  ·exact ih.append (List.Sublist.refl _)
theorem keepAll_length_mono (o r:List C):(keepAll o).length<=(keepAll (o++r)).length:=by
 induction r generalizing o with
 | nil=>simp
 | cons c r ih =>
  have e:o++c :: r=(o ++ [c]) ++ r:=by simp
  rw [e]
  refine Nat.le_trans ?_ (ih (o ++ [c]))
  rw [keepAll_snoc]
  unfold keep
  split <;> simp
theorem keepAll_needed {o:List C} (hr:∀ c∈o,rightC c=true) (hs:risesC o):∀ x,x∈keepAll o↔x∈o/\neededB o x=true:=by
 induction o using snoc_ind with
 | nil=>intro x;simp [keepAll]
 | snoc o c ih =>
  have hro:∀ c∈o,rightC c=true:=fun x hx=>hr x (List.mem_append_left _ hx)
  have hso:risesC o:=(List.pairwise_append.1 hs).1
  have hlt:∀ d∈o,ltC d c=true:=fun d hd=>(List.pairwise_append.1 hs).2.2 d hd c (by simp)
  have hrc:rightC c=true:=hr c (by simp)
  intro x
  rw [keepAll_snoc]
  have hold:∀ x∈o,neededB (o ++ [c]) x=neededB o x:=fun x hx=>by
   rw [Bool.eq_iff_iff,needed_iff,needed_iff]
   constructor
   ·intro h d hd;exact h d (List.mem_append_left _ hd)
   ·intro h d hd hb
    rcases List.mem_append.1 hd with hd|hd
    ·exact h d hd hb
    ·obtain rfl:d=c:=by simpa using hd
     have h1:=hlt x hx
     by_cases e:x=d
     ·exact e.symm
     ·have:=bel_lt hrc hb e
      rw [ltC_asymm h1] at this;exact absurd this (by simp)
  have hnew:neededB (o ++ [c]) c=true↔(keepAll o).any (fun b=>belC c b)=false:=by
   rw [needed_iff,List.any_eq_false]
   constructor
   ·intro h d hd hb
    have hdo:=keepAll_mem_of d hd
    have:=h d (List.mem_append_left _ hdo) (by simpa using hb)
    exact absurd this (ltC_ne (hlt d hdo))
   ·intro h d hd hb
    rcases List.mem_append.1 hd with hd|hd
    ·obtain⟨d2,hd2,hb2⟩:=keepAll_covers d hd
     exact absurd (belC_trans hb hb2) (by simpa using h d2 hd2)
    ·simpa using hd
  have hcn:c ∉ o:=fun h=>absurd (hlt c h) (by rw [ltC_irrefl];simp)
  unfold keep
  split
  ·rename_i ha
   rw [ih hro hso x]
   constructor
   ·rintro⟨h1,h2⟩;exact⟨List.mem_append_left _ h1,by rw [hold x h1];exact h2⟩
   ·rintro⟨h1,h2⟩
    rcases List.mem_append.1 h1 with h1|h1
    ·exact⟨h1,by rw [hold x h1] at h2;exact h2⟩
    ·obtain rfl:x=c:=by simpa using h1
     rw [hnew.1 h2] at ha;exact absurd ha (by simp)
  ·rename_i ha
   have ha:(keepAll o).any (fun b=>belC c b)=false:=by simpa using ha
   rw [List.mem_append,ih hro hso x]
   constructor
   ·rintro (⟨h1,h2⟩ | h1)
    ·exact⟨List.mem_append_left _ h1,by rw [hold x h1];exact h2⟩
    ·obtain rfl:x=c:=by simpa using h1
     exact⟨by simp,hnew.2 ha⟩
   ·rintro⟨h1,h2⟩
    rcases List.mem_append.1 h1 with h1|h1
    ·exact .inl ⟨h1,by rw [hold x h1] at h2;exact h2⟩
    ·exact .inr h1
theorem needed_congr {l m:List C} (h:∀ c,c∈l↔c∈m) (c:C):neededB l c=neededB m c:=by
 rw [Bool.eq_iff_iff,needed_iff,needed_iff]
 exact⟨fun hh d hd=>hh d ((h d).2 hd),fun hh d hd=>hh d ((h d).1 hd)⟩
theorem isLeast_keepAll {l o:List C} (hr:∀ c∈l,rightC c=true) (hs:risesC o) (hm:∀ c,c∈o↔c∈l):IsLeast l (keepAll o) where
 rises:=hs.sublist keepAll_sublist
 mem c:=by
  rw [keepAll_needed (fun c hc=>hr c ((hm c).1 hc)) hs c,hm c,needed_congr hm c]
def LeastIs (l M:List C) (er:Int):Prop :=
 (l.all rightC=false/\M=[]/\er=2)\/(l.all rightC=true/\∃ N,IsLeast l N/\((N.length<=64/\M=N/\er=0)\/(64<N.length/\M=[]/\er=3)))
theorem LeastIs.unique {l M M':List C} {er er':Int} (h:LeastIs l M er) (h':LeastIs l M' er'):M=M'/\er=er':=by
 rcases h with ⟨a,rfl,rfl⟩|⟨a,N,hN,hh⟩
 ·rcases h' with ⟨_,rfl,rfl⟩|⟨b,_⟩
  ·exact⟨rfl,rfl⟩
  ·rw [a] at b;exact absurd b (by simp)
 ·rcases h' with ⟨b,_⟩|⟨_,N',hN',hh'⟩
  ·rw [a] at b;exact absurd b (by simp)
  ·have e:=hN.unique hN'
   subst e
   rcases hh with ⟨b,rfl,rfl⟩|⟨b,rfl,rfl⟩
   ·rcases hh' with ⟨_,rfl,rfl⟩|⟨d,_⟩
    ·exact⟨rfl,rfl⟩
    ·omega
   ·rcases hh' with ⟨d,_⟩|⟨_,rfl,rfl⟩
    ·omega
    ·exact⟨rfl,rfl⟩
theorem LeastIs.length_le {l M:List C} {er:Int} (h:LeastIs l M er):M.length<=64:=by
 rcases h with ⟨_,rfl,_⟩|⟨_,N,_,⟨h,rfl,_⟩|⟨_,rfl,_⟩⟩
 ·simp
 ·exact h
 ·simp
def meas (c:C):Nat:=c.1.val*4294967296+c.2.val
theorem meas_nat {x1 x2 y1 y2:Nat} (h2:x2<4294967296) (h:x1<y1\/x1=y1/\x2<y2):x1*4294967296+x2<y1*4294967296+y2:=by omega
theorem meas_lt {a b:C} (h:ltC a b=true):meas a<meas b:=by
 refine meas_nat a.2.isLt ?_
 simpa only [ltC,Bool.or_eq_true,Bool.and_eq_true,decide_eq_true_eq] using h
theorem covers {l N:List C} (hr:∀ c∈l,rightC c=true) (hN:IsLeast l N) (n:Nat):∀ c:C,meas c<n->c∈l->∃ d∈N,belC c d=true:=by
 induction n with
 | zero=>intro c h;exact absurd h (Nat.not_lt_zero _)
 | succ n ih =>
  intro c hm hc
  by_cases hn:neededB l c=true
  ·exact⟨c,(hN.mem c).2 ⟨hc,hn⟩,belC_refl c⟩
  ·have h1:∃ d∈l,belC c d=true/\d≠c:=by
    rw [needed_iff] at hn
    simp only [Classical.not_forall] at hn
    obtain⟨d,hd,hb,he⟩:=hn
    exact⟨d,hd,hb,he⟩
   obtain⟨d,hd,hb,he⟩:=h1
   have hlt:=meas_lt (bel_lt (hr d hd) hb (fun h=>he h.symm))
   obtain⟨e,h1,h2⟩:=ih d (Nat.lt_of_lt_of_le hlt (Nat.le_of_lt_succ hm)) hd
   exact⟨e,h1,belC_trans hb h2⟩
theorem meet_right (a b:C):rightC (meetC a b)=true:=rightC_iff.2 ⟨low_lt _,low_lt _⟩
def insC (c:C):List C->List C
 | []=>[c]
 | d :: l=>if ltC c d then c :: d :: l else if c=d then d :: l else d :: insC c l
theorem mem_insC {c x:C}:∀ {l:List C},x∈insC c l↔x=c\/x∈l
 | []=>by simp [insC]
 | d :: l=>by
  unfold insC
  split
  ·simp
  ·split
   ·rename_i h;subst h;simp
   ·rw [List.mem_cons,mem_insC (l:=l),List.mem_cons]
    exact⟨fun h=>h.elim (fun h=>.inr (.inl h)) (fun h=>h.elim .inl (fun h=>.inr (.inr h))),fun h=>h.elim (fun h=>.inr (.inl h)) (fun h=>h.elim .inl (fun h=>.inr (.inr h)))⟩
theorem rises_insC {c:C}:∀ {l:List C},risesC l->risesC (insC c l)
 | [],_=>by simp [insC,risesC]
 | d :: l,h=>by
  have h':=List.pairwise_cons.1 h
  unfold insC
  split
  ·rename_i hlt
   refine List.pairwise_cons.2 ⟨fun x hx=>?_,h⟩
   rcases List.mem_cons.1 hx with rfl|hx
   ·exact hlt
   ·exact ltC_trans hlt (h'.1 x hx)
  ·rename_i hlt
   split
   ·exact h
   ·rename_i hne
    refine List.pairwise_cons.2 ⟨fun x hx=>?_,rises_insC h'.2⟩
    rcases mem_insC.1 hx with rfl|hx
    ·cases hdc:ltC d x
     ·exact absurd (ltC_total (by simpa using hlt) hdc) hne
     ·rfl
    ·exact h'.1 x hx
def ordC (l:List C):List C:=l.foldr insC []
theorem mem_ordC {x:C}:∀ {l:List C},x∈ordC l↔x∈l
 | []=>by simp [ordC]
 | c :: l=>by
  show x∈insC c (ordC l)↔_
  rw [mem_insC,mem_ordC (l:=l),List.mem_cons]
theorem rises_ordC:∀ (l:List C),risesC (ordC l)
 | []=>List.Pairwise.nil
 | c :: l=>rises_insC (rises_ordC l)
def lstN (l:List C):List C:=keepAll (ordC l)
theorem lstN_is {l:List C} (hr:l.all rightC=true):IsLeast l (lstN l) :=
 isLeast_keepAll (fun c hc=>List.all_eq_true.1 hr c hc) (rises_ordC l) (fun _=>mem_ordC)
def leastF (l:List C):List C × Int:=if l.all rightC then (if (lstN l).length<=64 then (lstN l,0) else ([],3)) else ([],2)
theorem leastF_of {l M:List C} {er:Int} (h:LeastIs l M er):leastF l=(M,er):=by
 unfold leastF
 rcases h with ⟨a,rfl,rfl⟩|⟨a,N,hN,hh⟩
 ·rw [a];rfl
 ·have e:=hN.unique (lstN_is a)
  subst e
  rw [a]
  rcases hh with ⟨b,rfl,rfl⟩|⟨b,rfl,rfl⟩
  ·simp [b]
  ·simp [Nat.not_le.2 b]
theorem leastF_is (l:List C):LeastIs l (leastF l).1 (leastF l).2:=by
 unfold leastF
 cases h:l.all rightC
 ·exact .inl ⟨h,rfl,rfl⟩
 ·refine .inr ⟨h,_,lstN_is h,?_⟩
  by_cases h2:(lstN l).length<=64
  ·simp [h2]
  ·simp [h2];omega
theorem leastF_cases {l:List C} (hr:l.all rightC=true):((leastF l).2=0/\(leastF l).1=lstN l/\(lstN l).length<=64)\/leastF l=([],3):=by
 unfold leastF
 rw [hr]
 by_cases h2:(lstN l).length<=64
 ·left;simp [h2]
 ·right;simp [h2]
theorem leastF_len (l:List C):(leastF l).1.length<=64:=(leastF_is l).length_le
def dn (l:List C) (c:C):Prop:=∃ d∈l,belC c d=true
theorem dn_append {l m:List C} {c:C}:dn (l++m) c↔dn l c\/dn m c:=by
 unfold dn
 simp only [List.mem_append]
 exact⟨fun ⟨d,h,hb⟩=>h.elim (fun h=>.inl ⟨d,h,hb⟩) (fun h=>.inr ⟨d,h,hb⟩),fun h=>h.elim (fun ⟨d,h,hb⟩=>⟨d,.inl h,hb⟩) (fun ⟨d,h,hb⟩=>⟨d,.inr h,hb⟩)⟩
theorem IsLeast.dn_iff {l M:List C} (hr:l.all rightC=true) (h:IsLeast l M) (c:C):dn M c↔dn l c:=by
 constructor
 ·rintro⟨d,hd,hb⟩
  exact⟨d,((h.mem d).1 hd).1,hb⟩
 ·rintro⟨d,hd,hb⟩
  obtain⟨e,he,hb2⟩:=covers (fun c hc=>List.all_eq_true.1 hr c hc) h (meas d+1) d (Nat.lt_succ_self _) hd
  exact⟨e,he,belC_trans hb hb2⟩
theorem least_ext {l l' M M':List C} (hr:l.all rightC=true) (hr':l'.all rightC=true) (h:IsLeast l M) (h':IsLeast l' M') (hd:∀ c,rightC c=true->(dn l c↔dn l' c)):M=M':=by
 have key:∀ {l l' M M':List C},l.all rightC=true->l'.all rightC=true->IsLeast l M->IsLeast l' M'->(∀ c,rightC c=true->(dn l c↔dn l' c))->∀ c,c∈M->c∈M':=by
  intro l l' M M' hr hr' h h' hd c hc
  have rM:∀ x∈M,rightC x=true:=fun x hx=>List.all_eq_true.1 hr x ((h.mem x).1 hx).1
  have rM':∀ x∈M',rightC x=true:=fun x hx=>List.all_eq_true.1 hr' x ((h'.mem x).1 hx).1
  obtain⟨d,hd1,hd2⟩:=(h'.dn_iff hr' c).2 ((hd c (rM c hc)).1 ((h.dn_iff hr c).1 ⟨c,hc,belC_refl c⟩))
  obtain⟨e,he1,he2⟩:=(h.dn_iff hr d).2 ((hd d (rM' d hd1)).2 ((h'.dn_iff hr' d).1 ⟨d,hd1,belC_refl d⟩))
  have hce:e=c:=needed_iff.1 ((h.mem c).1 hc).2 e ((h.mem e).1 he1).1 (belC_trans hd2 he2)
  subst hce
  have:=bel_antisymm (rM e hc) (rM' d hd1) hd2 he2
  rwa [this]
 exact rises_ext h.rises h'.rises (fun c=>⟨key hr hr' h h' hd c,key hr' hr h' h (fun c hc=>(hd c hc).symm) c⟩)
theorem leastF_ext {l l':List C} (hr:l.all rightC=true) (hr':l'.all rightC=true) (hd:∀ c,rightC c=true->(dn l c↔dn l' c)):leastF l=leastF l':=by
 have e:=least_ext hr hr' (lstN_is hr) (lstN_is hr') hd
 unfold leastF
 rw [hr,hr',e]
theorem leastF_congr {l l':List C} (h:∀ c,c∈l↔c∈l'):leastF l=leastF l':=by
 have ha:l.all rightC=l'.all rightC:=by
  rw [Bool.eq_iff_iff,List.all_eq_true,List.all_eq_true]
  exact⟨fun hh c hc=>hh c ((h c).2 hc),fun hh c hc=>hh c ((h c).1 hc)⟩
 cases hr:l.all rightC
 ·unfold leastF
  rw [<- ha,hr];rfl
 ·refine leastF_ext hr (ha ▸ hr) (fun c _=>?_)
  exact⟨fun ⟨d,hd,hb⟩=>⟨d,(h d).1 hd,hb⟩,fun ⟨d,hd,hb⟩=>⟨d,(h d).2 hd,hb⟩⟩
def rightF (f:List C):Bool:=decide (leastF f=(f,0))
structure PreOk (f:List C):Prop where
 right:f.all rightC=true
 rises:risesC f
 need:∀ c∈f,neededB f c=true
theorem PreOk.least {f:List C} (h:PreOk f):IsLeast f f:=⟨h.rises,fun c=>⟨fun hc=>⟨hc,h.need c hc⟩,fun hc=>hc.1⟩⟩
theorem PreOk.lst {f:List C} (h:PreOk f):lstN f=f:=(lstN_is h.right).unique h.least
theorem rightF_iff {f:List C}:rightF f=true↔PreOk f/\f.length<=64:=by
 unfold rightF
 rw [decide_eq_true_eq]
 constructor
 ·intro h
  have hi:=leastF_is f
  rw [h] at hi
  rcases hi with ⟨_,_,h0⟩|⟨a,N,hN,⟨b,e,_⟩|⟨_,_,h0⟩⟩
  ·exact absurd (show (0:Int)=2 from h0) (by decide)
  ·have e:f=N:=e
   subst e
   exact⟨⟨a,hN.rises,fun c hc=>((hN.mem c).1 hc).2⟩,b⟩
  ·exact absurd (show (0:Int)=3 from h0) (by decide)
 ·rintro⟨h,hl⟩
  unfold leastF
  rw [h.right,h.lst]
  simp [hl]
theorem rightF_eq {f:List C} (h:rightF f=true):leastF f=(f,0):=by simpa [rightF] using h
theorem PreOk.nil:PreOk []:=⟨rfl,List.Pairwise.nil,fun c hc=>by simp at hc⟩
theorem PreOk.snoc {f:List C} {c:C}:PreOk (f ++ [c])↔PreOk f/\rightC c=true/\(∀ d,f.getLast? = some d->ltC d c=true)/\f.any (fun b=>belC c b)=false:=by
 constructor
 ·intro h
  have hr:=List.all_eq_true.1 h.right
  have hp:=List.pairwise_append.1 h.rises
  have hlt:∀ d∈f,ltC d c=true:=fun d hd=>hp.2.2 d hd c (by simp)
  refine⟨⟨List.all_eq_true.2 (fun x hx=>hr x (by simp [hx])),hp.1,fun x hx=>?_⟩,hr c (by simp),fun d hd=>hlt d (List.mem_of_getLast? hd),?_⟩
  ·have:=needed_iff.1 (h.need x (by simp [hx]))
   exact needed_iff.2 (fun d hd hb=>this d (by simp [hd]) hb)
  ·rw [List.any_eq_false]
   intro b hb hbel
   have:=needed_iff.1 (h.need c (by simp)) b (by simp [hb]) (by simpa using hbel)
   exact absurd this (ltC_ne (hlt b hb))
 ·rintro⟨h,hc,hl,ha⟩
  have hlt:∀ d∈f,ltC d c=true:=by
   intro d hd
   rcases List.eq_nil_or_concat f with rfl|⟨g,x,rfl⟩
   ·simp at hd
   ·simp only [List.concat_eq_append] at *
    have hx:=hl x (by simp)
    rcases List.mem_append.1 hd with hd|hd
    ·exact ltC_trans ((List.pairwise_append.1 h.rises).2.2 d hd x (by simp)) hx
    ·obtain rfl:d=x:=by simpa using hd
     exact hx
  rw [List.any_eq_false] at ha
  refine⟨?_,?_,?_⟩
  ·rw [List.all_append,h.right];simp [hc]
  ·refine List.pairwise_append.2 ⟨h.rises,List.pairwise_singleton _ _,fun a ha2 b hb=>?_⟩
   rw [List.mem_singleton.1 hb]
   exact hlt a ha2
  ·intro x hx
   rw [needed_iff]
   intro d hd hb
   rcases List.mem_append.1 hx with hx|hx
   ·rcases List.mem_append.1 hd with hd|hd
    ·exact needed_iff.1 (h.need x hx) d hd hb
    ·rw [List.mem_singleton.1 hd] at hb ⊢
     by_cases e:x=c
     ·exact e.symm
     ·have:=bel_lt hc hb e
      rw [ltC_asymm (hlt x hx)] at this
      exact absurd this (by simp)
   ·rw [List.mem_singleton.1 hx] at hb ⊢
    rcases List.mem_append.1 hd with hd|hd
    ·exact absurd hb (ha d hd)
    ·exact List.mem_singleton.1 hd
theorem PreOk.take {f:List C} (h:PreOk f) (k:Nat):PreOk (f.take k) :=
 ⟨List.all_eq_true.2 (fun x hx=>List.all_eq_true.1 h.right x (List.mem_of_mem_take hx)),h.rises.sublist (List.take_sublist _ _),fun x hx=>needed_iff.2 (fun d hd hb=>needed_iff.1 (h.need x (List.mem_of_mem_take hx)) d (List.mem_of_mem_take hd) hb)⟩
theorem PreOk.of_least {l M:List C} (hr:l.all rightC=true) (h:IsLeast l M):PreOk M :=
 ⟨List.all_eq_true.2 (fun x hx=>List.all_eq_true.1 hr x ((h.mem x).1 hx).1),h.rises,fun x hx=>needed_iff.2 (fun d hd hb=>needed_iff.1 ((h.mem x).1 hx).2 d ((h.mem d).1 hd).1 hb)⟩
theorem rightF_nil:rightF []=true:=rightF_iff.2 ⟨PreOk.nil,by simp⟩
theorem rightF_all {f:List C} (h:rightF f=true):f.all rightC=true:=(rightF_iff.1 h).1.right
theorem rightF_len {f:List C} (h:rightF f=true):f.length<=64:=(rightF_iff.1 h).2
theorem leastF_right (l:List C):rightF (leastF l).1=true:=by
 cases h:l.all rightC
 ·have:leastF l=([],2):=by unfold leastF;rw [h];rfl
  rw [this];exact rightF_nil
 ·rcases leastF_cases h with ⟨_,e,hl⟩|e
  ·rw [e];exact rightF_iff.2 ⟨PreOk.of_least h (lstN_is h),hl⟩
  ·rw [e];exact rightF_nil
theorem leastF_all (l:List C):(leastF l).1.all rightC=true:=rightF_all (leastF_right l)
theorem leastF_dn {l:List C} (h:(leastF l).2=0) (c:C):dn (leastF l).1 c↔dn l c:=by
 rcases leastF_is l with ⟨_,_,e⟩|⟨a,N,hN,⟨_,e,_⟩|⟨_,_,e⟩⟩
 ·omega
 ·rw [e];exact hN.dn_iff a c
 ·omega
theorem leastF_pair {l:List C} (h:(leastF l).2=0):leastF l=((leastF l).1,0):=by rw [<- h]
theorem lstN_sub {l:List C}:∀ c∈lstN l,c∈l:=fun c hc=>mem_ordC.1 (keepAll_mem_of c hc)
theorem leastF_sub {l:List C}:∀ c∈(leastF l).1,c∈l:=fun c hc=>by
 unfold leastF at hc
 split at hc
 ·split at hc
  ·exact lstN_sub c hc
  ·simp at hc
 ·simp at hc
theorem insC_length (c:C):∀ l:List C,(insC c l).length<=l.length+1
 | []=>by simp [insC]
 | d :: l=>by
  unfold insC
  split
  ·simp
  ·split
   ·simp
   ·have:=insC_length c l;simp;omega
theorem ordC_length:∀ l:List C,(ordC l).length<=l.length
 | []=>by simp [ordC]
 | c :: l=>by
  have h1:=ordC_length l
  have h2:=insC_length c (ordC l)
  show (insC c (ordC l)).length<=l.length+1
  omega
theorem lstN_length (l:List C):(lstN l).length<=l.length :=
 Nat.le_trans (keepAll_sublist.length_le) (ordC_length l)
theorem leastF_small {l:List C} (hr:l.all rightC=true) (h:l.length<=64):leastF l=(lstN l,0):=by
 have:=lstN_length l
 unfold leastF
 rw [hr]
 simp [show (lstN l).length<=64 by omega]
theorem leastF_one {c:C} (h:rightC c=true):leastF [c]=([c],0):=by
 have:rightF [c]=true:=rightF_iff.2 ⟨(PreOk.snoc (f:=[])).2 ⟨PreOk.nil,h,fun d hd=>by simp at hd,rfl⟩,by simp⟩
 exact rightF_eq this
theorem top_right:rightC top0=true:=by decide
theorem rightF_one {c:C} (h:rightC c=true):rightF [c]=true:=by
 unfold rightF;rw [leastF_one h];simp
def pairsC (f g:List C):List C:=f.flatMap (fun a=>g.map (meetC a))
theorem pairs_right (f g:List C):(pairsC f g).all rightC=true:=by
 rw [List.all_eq_true]
 intro x hx
 obtain⟨a,_,ha⟩:=List.mem_flatMap.1 hx
 obtain⟨b,_,rfl⟩:=List.mem_map.1 ha
 exact meet_right a b
theorem pairs_length (f g:List C):(pairsC f g).length=f.length*g.length:=by
 induction f with
 | nil=>simp [pairsC]
 | cons a f ih =>
  have e:pairsC (a :: f) g=g.map (meetC a) ++ pairsC f g:=rfl
  rw [e,List.length_append,ih,List.length_map,List.length_cons,Nat.succ_mul,Nat.add_comm]
theorem bel_meet {c a b:C}:belC c (meetC a b)=true↔belC c a=true/\belC c b=true:=by
 rw [belC_iff,belC_iff,belC_iff]
 have hp:∀ k,k<24->(meetC a b).1.val.testBit k=(a.1.val.testBit k || b.1.val.testBit k):=fun k hk=>by
  show (meetP a b).testBit k=_
  unfold meetP
  rw [testBit_low,Nat.testBit_or];simp [hk]
 have hn:∀ k,k<24->(meetC a b).2.val.testBit k=(a.2.val.testBit k || b.2.val.testBit k):=fun k hk=>by
  show (meetN a b).testBit k=_
  unfold meetN
  rw [testBit_low,Nat.testBit_or];simp [hk]
 constructor
 ·rintro⟨h1,h2⟩
  exact⟨⟨fun k hk h=>h1 k hk (by rw [hp k hk,h];rfl),fun k hk h=>h2 k hk (by rw [hn k hk,h];rfl)⟩,⟨fun k hk h=>h1 k hk (by rw [hp k hk,h];simp),fun k hk h=>h2 k hk (by rw [hn k hk,h];simp)⟩⟩
 ·rintro⟨⟨h1,h2⟩,⟨h3,h4⟩⟩
  refine⟨fun k hk h=>?_,fun k hk h=>?_⟩
  ·rw [hp k hk,Bool.or_eq_true] at h
   exact h.elim (h1 k hk) (h3 k hk)
  ·rw [hn k hk,Bool.or_eq_true] at h
   exact h.elim (h2 k hk) (h4 k hk)
theorem dn_pairs {f g:List C} {c:C}:dn (pairsC f g) c↔dn f c/\dn g c:=by
 constructor
 ·rintro⟨x,hx,hb⟩
  obtain⟨a,ha,hx⟩:=List.mem_flatMap.1 hx
  obtain⟨b,hb',rfl⟩:=List.mem_map.1 hx
  have:=bel_meet.1 hb
  exact⟨⟨a,ha,this.1⟩,⟨b,hb',this.2⟩⟩
 ·rintro⟨⟨a,ha,h1⟩,⟨b,hb,h2⟩⟩
  exact⟨meetC a b,List.mem_flatMap.2 ⟨a,ha,List.mem_map.2 ⟨b,hb,rfl⟩⟩,bel_meet.2 ⟨h1,h2⟩⟩
def joinR (f g:List C):List C × Int:=leastF (f++g)
def meetR (f g:List C):List C × Int:=leastF (pairsC f g)
def joinF (f g:List C):List C × Int:=if rightF f && rightF g then joinR f g else ([],2)
theorem joinF_ok {f g:List C} (hf:rightF f=true) (hg:rightF g=true):joinF f g=joinR f g:=by simp [joinF,hf,hg]
theorem append_right {f g:List C} (hf:rightF f=true) (hg:rightF g=true):(f++g).all rightC=true:=by
 rw [List.all_append,rightF_all hf,rightF_all hg];rfl
theorem rightF_ext {f g:List C} (hf:rightF f=true) (hg:rightF g=true) (h:∀ c,rightC c=true->(dn f c↔dn g c)):f=g :=
 least_ext (rightF_all hf) (rightF_all hg) (rightF_iff.1 hf).1.least (rightF_iff.1 hg).1.least h
def bitF (k:Nat):Fin 4294967296:=if h:k<24 then ⟨2 ^ k,pow_lt k h⟩ else 0
theorem bitF_val {k:Nat} (h:k<24):(bitF k).val=2 ^ k:=by simp [bitF,h]
theorem bitF_lt (k:Nat):(bitF k).val<16777216:=by
 unfold bitF
 split
 ·rename_i h
  exact Nat.lt_of_le_of_lt (Nat.pow_le_pow_right (by decide) (by omega:k<=23)) (by decide)
 ·decide
def negB (k:Nat):C:=(0,bitF k)
def posB (k:Nat):C:=(bitF k,0)
theorem negB_right (k:Nat):rightC (negB k)=true:=rightC_iff.2 ⟨(show (0:Nat) < 16777216 by decide),bitF_lt k⟩
theorem posB_right (k:Nat):rightC (posB k)=true:=rightC_iff.2 ⟨bitF_lt k,(show (0:Nat) < 16777216 by decide)⟩
def oppC (c:C):List C:=(dimsOf c.1.val).map negB++(dimsOf c.2.val).map posB
theorem opp_right (c:C):(oppC c).all rightC=true:=by
 rw [List.all_eq_true]
 intro x hx
 rcases List.mem_append.1 hx with hx|hx
 ·obtain⟨k,_,rfl⟩:=List.mem_map.1 hx;exact negB_right k
 ·obtain⟨k,_,rfl⟩:=List.mem_map.1 hx;exact posB_right k
theorem opp_length (c:C):(oppC c).length<=48:=by
 have h1:=dimsOf_length_le c.1.val
 have h2:=dimsOf_length_le c.2.val
 simp [oppC];omega
def turnF (c:C):List C:=(leastF (oppC c)).1
theorem turn_told (c:C):leastF (oppC c)=(turnF c,0):=by
 have h:=leastF_small (opp_right c) (by have:=opp_length c;omega)
 unfold turnF;rw [h]
theorem turn_right (c:C):rightF (turnF c)=true:=leastF_right _
theorem turn_len (c:C):(turnF c).length<=64:=rightF_len (turn_right c)
def hit (c d:C):Prop:=∃ k,k<24/\((d.1.val.testBit k=true/\c.2.val.testBit k=true)\/(d.2.val.testBit k=true/\c.1.val.testBit k=true))
theorem bit_testBit {k j:Nat} (hk:k<24):(bitF k).val.testBit j=decide (k=j):=by rw [bitF_val hk,Nat.testBit_two_pow]
theorem bel_negB {c:C} {k:Nat} (hk:k<24):belC c (negB k)=true↔c.2.val.testBit k=true:=by
 rw [belC_iff]
 constructor
 ·intro h;exact h.2 k hk (by show (bitF k).val.testBit k=true;rw [bit_testBit hk];simp)
 ·intro h
  refine⟨fun j _ hj=>?_,fun j _ hj=>?_⟩
  ·have:(0:Nat).testBit j=true:=hj
   simp at this
  ·have hj:(bitF k).val.testBit j=true:=hj
   rw [bit_testBit hk] at hj
   have:k=j:=by simpa using hj
   rw [<- this];exact h
theorem bel_posB {c:C} {k:Nat} (hk:k<24):belC c (posB k)=true↔c.1.val.testBit k=true:=by
 rw [belC_iff]
 constructor
 ·intro h;exact h.1 k hk (by show (bitF k).val.testBit k=true;rw [bit_testBit hk];simp)
 ·intro h
  refine⟨fun j _ hj=>?_,fun j _ hj=>?_⟩
  ·have hj:(bitF k).val.testBit j=true:=hj
   rw [bit_testBit hk] at hj
   have:k=j:=by simpa using hj
   rw [<- this];exact h
  ·have:(0:Nat).testBit j=true:=hj
   simp at this
theorem dn_opp {c d:C}:dn (oppC d) c↔hit c d:=by
 constructor
 ·rintro⟨x,hx,hb⟩
  rcases List.mem_append.1 hx with hx|hx
  ·obtain⟨k,hk,rfl⟩:=List.mem_map.1 hx
   obtain⟨hk1,hk2⟩:=mem_dimsOf.1 hk
   exact⟨k,hk1,.inl ⟨hk2,(bel_negB hk1).1 hb⟩⟩
  ·obtain⟨k,hk,rfl⟩:=List.mem_map.1 hx
   obtain⟨hk1,hk2⟩:=mem_dimsOf.1 hk
   exact⟨k,hk1,.inr ⟨hk2,(bel_posB hk1).1 hb⟩⟩
 ·rintro⟨k,hk,⟨h1,h2⟩ | ⟨h1,h2⟩⟩
  ·exact⟨negB k,List.mem_append_left _ (List.mem_map.2 ⟨k,mem_dimsOf.2 ⟨hk,h1⟩,rfl⟩),(bel_negB hk).2 h2⟩
  ·exact⟨posB k,List.mem_append_right _ (List.mem_map.2 ⟨k,mem_dimsOf.2 ⟨hk,h1⟩,rfl⟩),(bel_posB hk).2 h2⟩
theorem dn_turn {c d:C}:dn (turnF d) c↔hit c d:=by
 rw [<- dn_opp]
 exact leastF_dn (by rw [turn_told]) c
theorem dn_top (c:C):dn [top0] c:=⟨top0,by simp,belC_iff.2 ⟨fun k _ h=>by simp [top0] at h,fun k _ h=>by simp [top0] at h⟩⟩
def stepN (a:List C × Int) (c:C):List C × Int:=if a.2=0 then meetR a.1 (turnF c) else a
def notR (f:List C):List C × Int:=f.foldl stepN ([top0],0)
def notF (f:List C):List C × Int:=if rightF f then notR f else ([],2)
theorem notR_snoc (f:List C) (c:C):notR (f ++ [c])=stepN (notR f) c:=by simp [notR]
theorem notR_cases (f:List C):((notR f).2=0/\rightF (notR f).1=true)\/notR f=([],3):=by
 induction f using snoc_ind with
 | nil=>exact .inl ⟨rfl,rightF_one top_right⟩
 | snoc f c ih =>
  rw [notR_snoc]
  unfold stepN
  rcases ih with ⟨h,_⟩|h
  ·rw [if_pos h]
   rcases leastF_cases (pairs_right (notR f).1 (turnF c)) with ⟨h1,_⟩|h1
   ·exact .inl ⟨h1,leastF_right _⟩
   ·exact .inr h1
  ·rw [if_neg (by rw [h];simp)]
   exact .inr h
theorem notR_right (f:List C):rightF (notR f).1=true:=by
 rcases notR_cases f with h|h
 ·exact h.2
 ·rw [h];exact rightF_nil
theorem notR_len (f:List C):(notR f).1.length<=64:=rightF_len (notR_right f)
theorem notF_right (f:List C):rightF (notF f).1=true:=by
 unfold notF
 split
 ·exact notR_right f
 ·exact rightF_nil
theorem notF_len (f:List C):(notF f).1.length<=64:=rightF_len (notF_right f)
theorem notF_told {f:List C} (h:(notF f).2=0):rightF f=true/\notF f=notR f:=by
 unfold notF at h ⊢
 split at h
 ·rename_i h2;exact⟨h2,by rw [if_pos h2]⟩
 ·simp at h
theorem notR_dn:∀ {f:List C},(notR f).2=0->∀ c,dn (notR f).1 c↔∀ d∈f,hit c d:=by
 intro f
 induction f using snoc_ind with
 | nil=>intro _ c;exact⟨fun _ d hd=>by simp at hd,fun _=>dn_top c⟩
 | snoc f x ih =>
  intro h c
  rw [notR_snoc] at h ⊢
  unfold stepN at h ⊢
  rcases notR_cases f with ⟨h1,_⟩|h1
  ·rw [if_pos h1] at h ⊢
   unfold meetR at h ⊢
   rw [leastF_dn h,dn_pairs,ih h1 c,dn_turn]
   constructor
   ·rintro⟨a,b⟩ d hd
    rcases List.mem_append.1 hd with hd|hd
    ·exact a d hd
    ·rw [List.mem_singleton.1 hd];exact b
   ·intro a
    exact⟨fun d hd=>a d (by simp [hd]),a x (by simp)⟩
  ·rw [if_neg (by rw [h1];simp),h1] at h
   simp at h
theorem notF_dn {f:List C} (h:(notF f).2=0) (c:C):dn (notF f).1 c↔∀ d∈f,hit c d:=by
 obtain⟨_,e⟩:=notF_told h
 rw [e] at h ⊢
 exact notR_dn h c
theorem hit_mono {c d e:C} (h:hit c e) (hb:belC d e=true):hit c d:=by
 obtain⟨k,hk,h⟩:=h
 rw [belC_iff] at hb
 exact⟨k,hk,h.imp (fun h=>⟨hb.1 k hk h.1,h.2⟩) (fun h=>⟨hb.2 k hk h.1,h.2⟩)⟩
theorem hit_mono' {c c' d:C} (h:hit c' d) (hb:belC c c'=true):hit c d:=by
 obtain⟨k,hk,h⟩:=h
 rw [belC_iff] at hb
 exact⟨k,hk,h.imp (fun h=>⟨h.1,hb.2 k hk h.2⟩) (fun h=>⟨h.1,hb.1 k hk h.2⟩)⟩
theorem hit_comm {c d:C}:hit c d↔hit d c:=by
 constructor
 ·rintro⟨k,hk,h⟩
  exact⟨k,hk,h.elim (fun h=>.inr ⟨h.2,h.1⟩) (fun h=>.inl ⟨h.2,h.1⟩)⟩
 ·rintro⟨k,hk,h⟩
  exact⟨k,hk,h.elim (fun h=>.inr ⟨h.2,h.1⟩) (fun h=>.inl ⟨h.2,h.1⟩)⟩
def coC (c:C):C:=(⟨andNot32 16777215 c.2.val,andNot32_lt _ _⟩,⟨andNot32 16777215 c.1.val,andNot32_lt _ _⟩)
theorem full_bit (k:Nat):(16777215:Nat).testBit k=decide (k<24):=by
 have e:(16777215:Nat)=2 ^ 24 - 1:=by decide
 rw [e,Nat.testBit_two_pow_sub_one]
theorem coC_bits (c:C) (k:Nat) (hk:k<24):(coC c).1.val.testBit k = !c.2.val.testBit k/\(coC c).2.val.testBit k = !c.1.val.testBit k:=by
 constructor
 ·show (andNot32 16777215 c.2.val).testBit k=_
  rw [testBit_andNot32 _ _ _ (by decide),full_bit];simp [hk]
 ·show (andNot32 16777215 c.1.val).testBit k=_
  rw [testBit_andNot32 _ _ _ (by decide),full_bit];simp [hk]
theorem hit_coC {c d:C}:hit (coC c) d↔belC c d=false:=by
 constructor
 ·rintro⟨k,hk,h⟩
  obtain⟨e1,e2⟩:=coC_bits c k hk
  cases hb:belC c d
  ·rfl
  ·rw [belC_iff] at hb
   rcases h with ⟨h1,h2⟩|⟨h1,h2⟩
   ·rw [e2,hb.1 k hk h1] at h2;simp at h2
   ·rw [e1,hb.2 k hk h1] at h2;simp at h2
 ·intro h
  apply Classical.byContradiction
  intro hn
  have hb:belC c d=true:=by
   rw [belC_iff]
   refine⟨fun k hk h1=>?_,fun k hk h1=>?_⟩
   ·cases h2:c.1.val.testBit k
    ·exact absurd ⟨k,hk,.inl ⟨h1,by rw [(coC_bits c k hk).2,h2];rfl⟩⟩ hn
    ·rfl
   ·cases h2:c.2.val.testBit k
    ·exact absurd ⟨k,hk,.inr ⟨h1,by rw [(coC_bits c k hk).1,h2];rfl⟩⟩ hn
    ·rfl
  rw [hb] at h;exact absurd h (by simp)
theorem not_hit_coC (c:C):¬ hit c (coC c):=fun h=>by
 have:=hit_coC.1 (hit_comm.1 h)
 rw [belC_refl] at this;exact absurd this (by simp)
theorem not_not {f:List C} (h1:(notF f).2=0) (h2:(notF (notF f).1).2=0):(notF (notF f).1).1=f:=by
 refine rightF_ext (notF_right _) (notF_told h1).1 (fun c _=>?_)
 rw [notF_dn h2]
 constructor
 ·intro h
  apply Classical.byContradiction
  intro hn
  have h3:dn (notF f).1 (coC c):=(notF_dn h1 (coC c)).2 (fun d hd=>hit_coC.2 (by
   cases hb:belC c d
   ·rfl
   ·exact absurd ⟨d,hd,hb⟩ hn))
  obtain⟨e,he,hb⟩:=h3
  exact not_hit_coC c (hit_mono (h e he) hb)
 ·rintro⟨d,hd,hb⟩ e he
  have:=(notF_dn h1 e).1 ⟨e,he,belC_refl e⟩ d hd
  exact hit_mono' (hit_comm.1 this) hb
theorem withoutN_lt32 (s:Nat) (i:Int):withoutN s i<4294967296:=Nat.lt_trans (withoutN_lt s i) (by decide)
def outC (c:C) (i:Int):C:=(⟨withoutN c.1.val i,withoutN_lt32 _ _⟩,⟨withoutN c.2.val i,withoutN_lt32 _ _⟩)
theorem out_right (c:C) (i:Int):rightC (outC c i)=true:=rightC_iff.2 ⟨withoutN_lt _ _,withoutN_lt _ _⟩
def partA (c:C) (i:Int) (r:List C):List C × Int:=if hasB c.1.val i then meetR [outC c i] r else ([outC c i],0)
def partF (c:C) (i:Int) (r:List C) (s:List C × Int):List C × Int :=
 if (partA c i r).2=0 then (if hasB c.2.val i then (if s.2=0 then meetR (partA c i r).1 s.1 else ([],s.2)) else partA c i r) else partA c i r
def stepP (i:Int) (r:List C) (s:List C × Int) (a:List C × Int) (c:C):List C × Int :=
 if a.2=0 then (if (partF c i r s).2=0 then joinR a.1 (partF c i r s).1 else ([],(partF c i r s).2)) else a
def putS (f:List C) (i:Int) (r:List C) (s:List C × Int):List C × Int:=f.foldl (stepP i r s) ([],0)
def putR (f:List C) (i:Int) (r:List C):List C × Int:=putS f i r (notR r)
def putF (f:List C) (i:Int) (r:List C):List C × Int:=if rightF f && rightF r && isDimB i then putR f i r else ([],2)
theorem putS_snoc (f:List C) (c:C) (i:Int) (r:List C) (s:List C × Int):putS (f ++ [c]) i r s=stepP i r s (putS f i r s) c:=by simp [putS]
def Told (a:List C × Int):Prop:=(a.2=0/\rightF a.1=true)\/a=([],3)
theorem Told.right {a:List C × Int} (h:Told a):rightF a.1=true:=by
 rcases h with h|h
 ·exact h.2
 ·rw [h];exact rightF_nil
theorem Told.len {a:List C × Int} (h:Told a):a.1.length<=64:=rightF_len h.right
theorem Told.no {a:List C × Int} (h:Told a) (h2:a.2≠0):a=([],3):=h.resolve_left (fun x=>h2 x.1)
theorem Told.least {l:List C} (h:l.all rightC=true):Told (leastF l):=by
 rcases leastF_cases h with ⟨h1,_⟩|h1
 ·exact .inl ⟨h1,leastF_right _⟩
 ·exact .inr h1
theorem Told.meet (f g:List C):Told (meetR f g):=Told.least (pairs_right f g)
theorem Told.join {f g:List C} (hf:rightF f=true) (hg:rightF g=true):Told (joinR f g):=Told.least (append_right hf hg)
theorem Told.one {c:C} (h:rightC c=true):Told ([c],0):=.inl ⟨rfl,rightF_one h⟩
theorem Told.not (f:List C):Told (notR f):=notR_cases f
theorem Told.ite {p:Prop} [Decidable p] {a b:List C × Int} (ha:Told a) (hb:Told b):Told (if p then a else b):=by split <;> assumption
theorem Told.partA (c:C) (i:Int) (r:List C):Told (partA c i r):=by
 unfold Proofs.YtblbhmnahoiecaaGreat.partA
 exact Told.ite (Told.meet _ _) (Told.one (out_right c i))
theorem Told.part (c:C) (i:Int) (r:List C) {s:List C × Int} (hs:Told s):Told (partF c i r s):=by
 unfold partF
 refine Told.ite (Told.ite ?_ (Told.partA c i r)) (Told.partA c i r)
 by_cases h:s.2=0
 ·rw [if_pos h];exact Told.meet _ _
 ·rw [if_neg h,hs.no h];exact .inr rfl
theorem Told.step (i:Int) (r:List C) {s a:List C × Int} (hs:Told s) (ha:Told a) (c:C):Told (stepP i r s a c):=by
 unfold stepP
 refine Told.ite ?_ ha
 have hp:=Told.part c i r hs
 by_cases h:(partF c i r s).2=0
 ·rw [if_pos h];exact Told.join ha.right hp.right
 ·rw [if_neg h,hp.no h];exact .inr rfl
theorem Told.put (f:List C) (i:Int) (r:List C) {s:List C × Int} (hs:Told s):Told (putS f i r s):=by
 induction f using snoc_ind with
 | nil=>exact .inl ⟨rfl,rightF_nil⟩
 | snoc f c ih=>rw [putS_snoc];exact Told.step i r hs ih c
theorem partF_off {c:C} {i:Int} {r:List C} {s s':List C × Int} (h:hasB c.2.val i=false):partF c i r s=partF c i r s':=by
 unfold partF;simp [h]
theorem putS_off {f:List C} {i:Int} {r:List C} {s s':List C × Int} (h:f.any (fun c=>hasB c.2.val i)=false):putS f i r s=putS f i r s':=by
 induction f using snoc_ind with
 | nil=>rfl
 | snoc f c ih =>
  rw [List.any_append] at h
  simp at h
  rw [putS_snoc,putS_snoc,ih (by simpa using h.1)]
  unfold stepP
  rw [partF_off (s:=s) (s':=s') h.2]
theorem putS_no {f:List C} {i:Int} {r:List C} {s:List C × Int} (hs:Told s) (h0:s.2≠0) (h:f.any (fun c=>hasB c.2.val i)=true):putS f i r s=([],3):=by
 induction f using snoc_ind with
 | nil=>simp at h
 | snoc f c ih =>
  rw [putS_snoc]
  rw [List.any_append,Bool.or_eq_true] at h
  rcases h with h|h
  ·rw [ih h];unfold stepP;simp
  ·have h:hasB c.2.val i=true:=by simpa using h
   have ht:=Told.put f i r hs
   have hp:partF c i r s=([],3):=by
    unfold partF
    have:=Told.partA c i r
    by_cases h1:(partA c i r).2=0
    ·rw [if_pos h1,if_pos h,if_neg h0,hs.no h0]
    ·rw [if_neg h1];exact this.no h1
   unfold stepP
   rw [hp]
   by_cases h2:(putS f i r s).2=0
   ·rw [if_pos h2];simp
   ·rw [if_neg h2];exact ht.no h2
theorem Told.putR (f:List C) (i:Int) (r:List C):Told (putR f i r):=Told.put f i r (Told.not r)
theorem putF_right (f:List C) (i:Int) (r:List C):rightF (putF f i r).1=true:=by
 unfold putF
 split
 ·exact (Told.putR f i r).right
 ·exact rightF_nil
theorem putF_len (f:List C) (i:Int) (r:List C):(putF f i r).1.length<=64:=rightF_len (putF_right f i r)
theorem putF_ok {f r:List C} {i:Int} (hf:rightF f=true) (hr:rightF r=true) (hi:isDimB i=true):putF f i r=putR f i r:=by simp [putF,hf,hr,hi]
theorem c_bits {a b:C} (h1:∀ k,a.1.val.testBit k=b.1.val.testBit k) (h2:∀ k,a.2.val.testBit k=b.2.val.testBit k):a=b :=
 c_ext (Nat.eq_of_testBit_eq h1) (Nat.eq_of_testBit_eq h2)
theorem meet_bits (a b:C) (k:Nat):(meetC a b).1.val.testBit k=(decide (k<24) && (a.1.val.testBit k || b.1.val.testBit k))/\(meetC a b).2.val.testBit k=(decide (k<24) && (a.2.val.testBit k || b.2.val.testBit k)):=by
 constructor
 ·show (meetP a b).testBit k=_
  unfold meetP;rw [testBit_low,Nat.testBit_or]
 ·show (meetN a b).testBit k=_
  unfold meetN;rw [testBit_low,Nat.testBit_or]
theorem out_bits (c:C) (i k:Nat) (hi:i<24):(outC c (i:Int)).1.val.testBit k=((decide (k<24) && c.1.val.testBit k) && !decide (i=k))/\(outC c (i:Int)).2.val.testBit k=((decide (k<24) && c.2.val.testBit k) && !decide (i=k)) :=
 ⟨testBit_withoutN_nat _ _ _ hi,testBit_withoutN_nat _ _ _ hi⟩
theorem fright_bits {c:C} (h:rightC c=true) (k:Nat):(decide (k<24) && c.1.val.testBit k)=c.1.val.testBit k/\(decide (k<24) && c.2.val.testBit k)=c.2.val.testBit k:=by
 obtain⟨h1,h2⟩:=rightC_iff.1 h
 constructor
 ·cases hb:c.1.val.testBit k
  ·simp
  ·simp [bit_lt24 h1 hb]
 ·cases hb:c.2.val.testBit k
  ·simp
  ·simp [bit_lt24 h2 hb]
theorem posB_bits (i k:Nat) (hi:i<24):(posB i).1.val.testBit k=decide (i=k)/\(posB i).2.val.testBit k=false:=⟨bit_testBit hi,by show (0:Nat).testBit k=false;simp⟩
theorem negB_bits (i k:Nat) (hi:i<24):(negB i).1.val.testBit k=false/\(negB i).2.val.testBit k=decide (i=k):=⟨by show (0:Nat).testBit k=false;simp,bit_testBit hi⟩
def freeC (k:Nat) (c:C):Prop:=c.1.val.testBit k=false/\c.2.val.testBit k=false
def freeL (k:Nat) (l:List C):Prop:=∀ c∈l,freeC k c
theorem freeL.least {k:Nat} {l:List C} (h:freeL k l):freeL k (leastF l).1:=fun c hc=>h c (leastF_sub c hc)
theorem freeL.pairs {k:Nat} {f g:List C} (hf:freeL k f) (hg:freeL k g):freeL k (pairsC f g):=fun c hc=>by
 obtain⟨a,ha,hx⟩:=List.mem_flatMap.1 hc
 obtain⟨b,hb,rfl⟩:=List.mem_map.1 hx
 have h1:=hf a ha
 have h2:=hg b hb
 exact⟨by rw [(meet_bits a b k).1,h1.1,h2.1];simp,by rw [(meet_bits a b k).2,h1.2,h2.2];simp⟩
theorem freeL.append {k:Nat} {f g:List C} (hf:freeL k f) (hg:freeL k g):freeL k (f++g):=fun c hc=>(List.mem_append.1 hc).elim (hf c) (hg c)
theorem freeL.nil (k:Nat):freeL k []:=fun c hc=>by simp at hc
theorem freeL.opp {k:Nat} {d:C} (h:freeC k d):freeL k (oppC d):=fun c hc=>by
 rcases List.mem_append.1 hc with hc|hc
 ·obtain⟨j,hj,rfl⟩:=List.mem_map.1 hc
  obtain⟨h1,h2⟩:=mem_dimsOf.1 hj
  have hne:j≠k:=by rintro rfl;rw [h.1] at h2;simp at h2
  exact⟨(negB_bits j k h1).1,by rw [(negB_bits j k h1).2];simp [hne]⟩
 ·obtain⟨j,hj,rfl⟩:=List.mem_map.1 hc
  obtain⟨h1,h2⟩:=mem_dimsOf.1 hj
  have hne:j≠k:=by rintro rfl;rw [h.2] at h2;simp at h2
  exact⟨by rw [(posB_bits j k h1).1];simp [hne],(posB_bits j k h1).2⟩
theorem freeL.not {k:Nat} {r:List C} (h:freeL k r):freeL k (notR r).1:=by
  induction r using snoc_ind with
  | nil => intro c hc; obtain rfl : c = top0 := by simpa [notR] using hc
           exact⟨by simp [top0],by simp [top0]⟩
  | snoc r c ih =>
    rw [notR_snoc]
    have h1:=ih (fun x hx=>h x (by simp [hx]))
    unfold stepN
    split
    . exact ((freeL.pairs h1 (freeL.opp (h c (by simp))).least)).least
    . exact h1
theorem out_free {c:C} {i:Nat} (hi:i<24):freeL i [outC c (i:Int)]:=fun x hx=>by
 rw [List.mem_singleton.1 hx]
 exact⟨by rw [(out_bits c i i hi).1];simp,by rw [(out_bits c i i hi).2];simp⟩
theorem freeL.partA {i:Nat} (hi:i<24) {c:C} {r:List C} (h:freeL i r):freeL i (partA c (i:Int) r).1:=by
 unfold Proofs.YtblbhmnahoiecaaGreat.partA
 split
 ·exact (freeL.pairs (out_free hi) h).least
 ·exact out_free hi
theorem freeL.part {i:Nat} (hi:i<24) {c:C} {r:List C} {s:List C × Int} (h:freeL i r) (hs:freeL i s.1):freeL i (partF c (i:Int) r s).1:=by
 unfold partF
 split
 ·split
  ·split
   ·exact (freeL.pairs (freeL.partA hi h) hs).least
   ·exact freeL.nil i
  ·exact freeL.partA hi h
 ·exact freeL.partA hi h
theorem freeL.put {i:Nat} (hi:i<24) {f r:List C} {s:List C × Int} (h:freeL i r) (hs:freeL i s.1):freeL i (putS f (i:Int) r s).1:=by
 induction f using snoc_ind with
 | nil=>exact freeL.nil i
 | snoc f c ih =>
  rw [putS_snoc]
  unfold stepP
  split
  ·split
   ·exact (freeL.append ih (freeL.part hi h hs)).least
   ·exact freeL.nil i
  ·exact ih
def stepD (a:Nat) (c:C):Nat:=a ||| ((c.1.val ||| c.2.val) &&& 16777215)
def dimsN (f:List C):Nat:=f.foldl stepD 0
theorem dimsN_snoc (f:List C) (c:C):dimsN (f ++ [c])=stepD (dimsN f) c:=by simp [dimsN]
def inF (f:List C) (k:Nat):Bool:=f.any (fun c=>c.1.val.testBit k || c.2.val.testBit k)
theorem inF_snoc (f:List C) (c:C) (k:Nat):inF (f ++ [c]) k=(inF f k || (c.1.val.testBit k || c.2.val.testBit k)):=by simp [inF]
theorem dimsN_bit (f:List C) (k:Nat):(dimsN f).testBit k=(decide (k<24) && inF f k):=by
 induction f using snoc_ind with
 | nil=>simp [dimsN,inF]
 | snoc f c ih =>
  rw [dimsN_snoc,stepD,Nat.testBit_or,ih,testBit_low,Nat.testBit_or,inF_snoc]
  cases decide (k<24) <;> simp
theorem dimsN_lt (f:List C):dimsN f<16777216:=by
 have:dimsN f=dimsN f &&& 16777215:=by
  apply Nat.eq_of_testBit_eq
  intro k
  rw [testBit_low,dimsN_bit]
  cases decide (k<24) <;> simp
 rw [this];exact low_lt _
theorem dimsN_orAll (f:List C):orAll ((List.range 24).filter (fun k=>inF f k))=dimsN f:=by
 apply Nat.eq_of_testBit_eq
 intro k
 rw [testBit_orAll,dimsN_bit]
 rw [Bool.eq_iff_iff]
 simp
def okC (c:C):Bool:=!clashC c
def rightA (f:List C):Bool:=rightF f && f.all okC
theorem rightA_iff {f:List C}:rightA f=true↔rightF f=true/\∀ c∈f,okC c=true:=by simp [rightA]
theorem rightA_right {f:List C} (h:rightA f=true):rightF f=true:=(rightA_iff.1 h).1
theorem rightA_nil:rightA []=true:=rightA_iff.2 ⟨rightF_nil,by simp⟩
theorem least_ok {l:List C} (h:∀ c∈l,okC c=true):∀ c∈(leastF l).1,okC c=true:=fun c hc=>h c (leastF_sub c hc)
theorem rightA_least {l:List C} (h:∀ c∈l,okC c=true):rightA (leastF l).1=true:=rightA_iff.2 ⟨leastF_right l,least_ok h⟩
theorem rightA_len {f:List C} (h:rightA f=true):f.length<=64:=rightF_len (rightA_right h)
def ToldA (a:List C × Int):Prop:=(a.2=0/\rightA a.1=true)\/a=([],3)
theorem ToldA.right {a:List C × Int} (h:ToldA a):rightA a.1=true:=by
 rcases h with h|h
 ·exact h.2
 ·rw [h];exact rightA_nil
theorem ToldA.len {a:List C × Int} (h:ToldA a):a.1.length<=64:=rightA_len h.right
theorem ToldA.no {a:List C × Int} (h:ToldA a) (h2:a.2≠0):a=([],3):=h.resolve_left (fun x=>h2 x.1)
theorem ToldA.least {l:List C} (hr:l.all rightC=true) (hk:∀ c∈l,okC c=true):ToldA (leastF l):=by
 rcases leastF_cases hr with h|h
 ·exact .inl ⟨h.1,rightA_least hk⟩
 ·exact .inr h
end Go.Proofs.YtblbhmnahoiecaaGreat
