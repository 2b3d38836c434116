/- A part of the proof. -/
import Derived.Test.YtblbhmnahoiecaaGreatHMA
set_option linter.unusedVariables false
set_option linter.unusedSimpArgs false
namespace Go.Proofs.YtblbhmnahoiecaaGreat
def calmC (l:List C):List C:=l.filter okC
def singleC (c:C):Bool:=rightC c && okC c
theorem okC_iff {c:C}:okC c=true↔∀ k,k<24->¬ (c.1.val.testBit k=true/\c.2.val.testBit k=true):=by
 simp only [okC,clashC,Bool.not_eq_true',decide_eq_false_iff_not,Decidable.not_not]
 constructor
 ·intro h k hk ⟨h1,h2⟩
  have:=congrArg (fun z=>Nat.testBit z k) h
  simp only [Nat.testBit_and,full_bit,h1,h2,hk,decide_true,Bool.and_self,Nat.zero_testBit] at this
  exact absurd this (by simp)
 ·intro h
  refine Nat.eq_of_testBit_eq (fun k=>?_)
  simp only [Nat.testBit_and,full_bit,Nat.zero_testBit]
  by_cases hk:k<24
  ·have:=h k hk
   cases h1:c.1.val.testBit k <;> cases h2:c.2.val.testBit k <;> simp_all
  ·simp [hk]
theorem okC_up {c d:C} (h:okC c=true) (hb:belC c d=true):okC d=true:=by
 rw [okC_iff] at h ⊢; rw [belC_iff] at hb
 exact fun k hk x=>h k hk ⟨hb.1 k hk x.1,hb.2 k hk x.2⟩
theorem rightA_ok {f:List C} (h:rightA f=true):∀ c∈f,okC c=true:=(rightA_iff.1 h).2
theorem singleC_iff {c:C}:singleC c=true↔rightC c=true/\okC c=true:=by simp [singleC]
theorem mem_calm {l:List C} {c:C}:c∈calmC l↔c∈l/\okC c=true:=by simp [calmC]
theorem calm_right {l:List C} (h:l.all rightC=true):(calmC l).all rightC=true:=by
 rw [List.all_eq_true] at h ⊢; exact fun c hc=>h c (mem_calm.1 hc).1
theorem calm_len (l:List C):(calmC l).length<=l.length:=List.length_filter_le _ _
theorem calm_same {l:List C} (h:∀ c∈l,okC c=true):calmC l=l:=List.filter_eq_self.2 h
theorem rightA_calm (l:List C):rightA (leastF (calmC l)).1=true:=rightA_least (fun c hc=>(mem_calm.1 hc).2)
theorem least_small {l:List C} (hr:l.all rightC=true) (h:l.length<=64):(leastF l).2=0:=by rw [leastF_small hr h]
def ofF (f:List C):List C × Int:=if rightF f then leastF (calmC f) else ([],2)
def ofZ (f:List C):List C × Int:=if (notF f).2=0 then leastF (calmC (notF f).1) else ([],(notF f).2)
def jnA (f g:List C):List C × Int:=if rightA f && rightA g then leastF (f++g) else ([],2)
def mtR (f g:List C):List C × Int:=leastF (calmC (pairsC f g))
def mtA (f g:List C):List C × Int:=if rightA f && rightA g then mtR f g else ([],2)
def cutC (c a:C):C:=(⟨andNot32 a.1.val c.1.val,andNot32_lt _ _⟩,⟨andNot32 a.2.val c.2.val,andNot32_lt _ _⟩)
def withC (c a:C):Bool:=okC (meetC a c)
def rstL (f:List C) (c:C):List C:=(f.filter (withC c)).map (cutC c)
def rstA (f:List C) (c:C):List C × Int:=if rightA f && singleC c then leastF (rstL f c) else ([],2)
def prtA (c:C) (i:Int) (one:List C) (z:List C × Int):List C × Int :=
 if hasB c.1.val i then mtR [outC c i] one else if hasB c.2.val i then (if z.2=0 then mtR [outC c i] z.1 else z) else ([outC c i],0)
def stpA (i:Int) (one:List C) (z:List C × Int) (a:List C × Int) (c:C):List C × Int :=
 if a.2=0 then (if (prtA c i one z).2=0 then leastF (a.1++(prtA c i one z).1) else ([],(prtA c i one z).2)) else a
def ptS (f:List C) (i:Int) (one:List C) (z:List C × Int):List C × Int:=f.foldl (stpA i one z) ([],0)
def ptA (f:List C) (i:Int) (r:List C):List C × Int:=if rightA f && isDimB i && rightF r then ptS f i (ofF r).1 (ofZ r) else ([],2)
theorem ofF_right (f:List C):rightA (ofF f).1=true:=by unfold ofF;split;exact rightA_calm f;exact rightA_nil
theorem ofZ_right (f:List C):rightA (ofZ f).1=true:=by unfold ofZ;split;exact rightA_calm _;exact rightA_nil
theorem ofF_told {f:List C} (h:rightF f=true):(ofF f).2=0:=by
 simp only [ofF,h,if_true];exact least_small (calm_right (rightF_all h)) (Nat.le_trans (calm_len f) (rightF_len h))
theorem app_ok {f g:List C} (hf:∀ c∈f,okC c=true) (hg:∀ c∈g,okC c=true):∀ c∈f++g,okC c=true:=fun c hc=>(List.mem_append.1 hc).elim (hf c) (hg c)
theorem andNot32_lo {a b:Nat} (h:a<16777216):andNot32 a b<16777216:=by
 unfold andNot32
 rw [BitVec.toNat_and,BitVec.toNat_ofNat]
 exact Nat.lt_of_le_of_lt (Nat.le_trans Nat.and_le_left (Nat.mod_le _ _)) h
theorem cut_right {c a:C} (h:rightC a=true):rightC (cutC c a)=true:=by
 have h:=rightC_iff.1 h
 exact rightC_iff.2 ⟨andNot32_lo h.1,andNot32_lo h.2⟩
theorem cut_bits (c a:C) (k:Nat):(cutC c a).1.val.testBit k=(a.1.val.testBit k && !c.1.val.testBit k)/\(cutC c a).2.val.testBit k=(a.2.val.testBit k && !c.2.val.testBit k) :=
 ⟨testBit_andNot32 _ _ _ a.1.isLt,testBit_andNot32 _ _ _ a.2.isLt⟩
theorem mem_rst {f:List C} {c x:C}:x∈rstL f c↔∃ a∈f,withC c a=true/\cutC c a=x:=by simp [rstL,and_assoc]
theorem rst_len (f:List C) (c:C):(rstL f c).length<=f.length:=by simp only [rstL,List.length_map];exact List.length_filter_le _ _
theorem ToldA.mt (f g:List C):ToldA (mtR f g):=ToldA.least (calm_right (pairs_right f g)) (fun c hc=>(mem_calm.1 hc).2)
theorem ToldA.ofZ {f:List C} (h:rightF f=true):ToldA (ofZ f):=by
 unfold Go.Proofs.YtblbhmnahoiecaaGreat.ofZ
 rcases notR_cases f with x|x
 ·have e:notF f=notR f:=by simp [notF,h]
  rw [e,if_pos x.1];exact ToldA.least (calm_right (rightF_all x.2)) (fun c hc=>(mem_calm.1 hc).2)
 ·have e:notF f=notR f:=by simp [notF,h]
  rw [e,x];exact .inr rfl
theorem out_ok {c:C} {i:Int} (h:okC c=true):okC (outC c i)=true:=by
 refine okC_up h (belC_iff.2 ⟨fun k hk x=>?_,fun k hk x=>?_⟩)
 ·have:(withoutN c.1.val i).testBit k=true:=x
  by_cases hi:isDimB i=true
  ·have hi':0<=i/\i<24:=by simpa [isDimB] using hi
   obtain⟨j,rfl⟩:=Int.eq_ofNat_of_zero_le hi'.1
   rw [testBit_withoutN_nat _ _ _ (by omega)] at this
   simp only [Bool.and_eq_true] at this;exact this.1.2
  ·simp only [Bool.not_eq_true] at hi
   rw [withoutN_no hi,testBit_low] at this
   simp only [Bool.and_eq_true] at this;exact this.2
 ·have:(withoutN c.2.val i).testBit k=true:=x
  by_cases hi:isDimB i=true
  ·have hi':0<=i/\i<24:=by simpa [isDimB] using hi
   obtain⟨j,rfl⟩:=Int.eq_ofNat_of_zero_le hi'.1
   rw [testBit_withoutN_nat _ _ _ (by omega)] at this
   simp only [Bool.and_eq_true] at this;exact this.1.2
  ·simp only [Bool.not_eq_true] at hi
   rw [withoutN_no hi,testBit_low] at this
   simp only [Bool.and_eq_true] at this;exact this.2
theorem rightA_one {c:C} (h:rightC c=true) (hk:okC c=true):rightA [c]=true:=rightA_iff.2 ⟨rightF_one h,fun x hx=>by rw [List.mem_singleton.1 hx];exact hk⟩
theorem rightA_out {c:C} (i:Int) (h:okC c=true):rightA [outC c i]=true:=rightA_one (out_right c i) (out_ok h)
theorem ToldA.prt {c:C} (i:Int) (one:List C) {z:List C × Int} (hc:okC c=true) (hz:ToldA z):ToldA (prtA c i one z):=by
 unfold prtA
 split
 ·exact ToldA.mt _ _
 ·split
  ·split
   ·exact ToldA.mt _ _
   ·exact hz
  ·exact .inl ⟨rfl,rightA_out i hc⟩
theorem ToldA.stp (i:Int) (one:List C) {z a:List C × Int} {c:C} (hc:okC c=true) (hz:ToldA z) (ha:ToldA a):ToldA (stpA i one z a c):=by
 unfold stpA
 have hp:=ToldA.prt i one hc hz
 split
 ·split
  ·exact ToldA.least (append_right (rightA_right ha.right) (rightA_right hp.right)) (app_ok (rightA_ok ha.right) (rightA_ok hp.right))
  ·rename_i h;rw [hp.no h];exact .inr rfl
 ·exact ha
theorem ptS_snoc (f:List C) (c:C) (i:Int) (one:List C) (z:List C × Int):ptS (f ++ [c]) i one z=stpA i one z (ptS f i one z) c:=by simp [ptS]
theorem ToldA.pts {f:List C} (i:Int) (one:List C) {z:List C × Int} (hf:∀ c∈f,okC c=true) (hz:ToldA z):ToldA (ptS f i one z):=by
 induction f using snoc_ind with
 | nil=>exact .inl ⟨rfl,rightA_nil⟩
 | snoc o c ih=>rw [ptS_snoc];exact ToldA.stp i one (hf c (by simp)) hz (ih (fun x hx=>hf x (by simp [hx])))
theorem ptA_right (f:List C) (i:Int) (r:List C):rightA (ptA f i r).1=true:=by
 unfold ptA;split
 ·rename_i h;simp only [Bool.and_eq_true] at h;exact (ToldA.pts i _ (rightA_ok h.1.1) (ToldA.ofZ h.2)).right
 ·exact rightA_nil
theorem ptS_no {f:List C} {i:Int} {one:List C} {z:List C × Int} (hf:∀ c∈f,okC c=true) (hz:ToldA z) (h0:z.2≠0) (h:f.any (fun c=>hasB c.2.val i)=true):ptS f i one z=([],3):=by
 induction f using snoc_ind with
 | nil=>simp at h
 | snoc o c ih =>
  have hf':∀ x∈o,okC x=true:=fun x hx=>hf x (by simp [hx])
  have ht:=ToldA.pts i one hf' hz
  rw [ptS_snoc];unfold stpA
  by_cases e:(ptS o i one z).2=0
  ·rw [if_pos e]
   have ho:o.any (fun c=>hasB c.2.val i)=false:=by
    cases x:o.any (fun c=>hasB c.2.val i)
    ·rfl
    ·rw [ih hf' x] at e;exact absurd e (by decide)
   have hc:hasB c.2.val i=true:=by simpa [ho] using h
   have hp:hasB c.1.val i=false:=by
    cases x:hasB c.1.val i
    ·rfl
    ·exfalso
     simp only [hasB,Bool.and_eq_true] at x hc
     have hi:0<=i/\i<24:=by simpa [isDimB] using x.1
     exact okC_iff.1 (hf c (by simp)) i.toNat (by omega) ⟨x.2,hc.2⟩
   have:prtA c i one z=z:=by simp [prtA,hp,hc,h0]
   rw [this,if_neg h0,hz.no h0]
  ·rw [if_neg e];exact ht.no e
theorem prtA_off {c:C} {i:Int} {one:List C} {z z':List C × Int} (h:hasB c.2.val i=false):prtA c i one z=prtA c i one z':=by simp [prtA,h]
theorem ptS_off {f:List C} {i:Int} {one:List C} {z z':List C × Int} (h:f.any (fun c=>hasB c.2.val i)=false):ptS f i one z=ptS f i one z':=by
 induction f using snoc_ind with
 | nil=>rfl
 | snoc o c ih =>
  simp only [List.any_append,List.any_cons,List.any_nil,Bool.or_false,Bool.or_eq_false_iff] at h
  rw [ptS_snoc,ptS_snoc,ih h.1];unfold stpA;rw [prtA_off (z':=z') h.2]
theorem jnA_ok {f g:List C} (hf:rightA f=true) (hg:rightA g=true):jnA f g=leastF (f++g):=by simp [jnA,hf,hg]
theorem mtA_ok {f g:List C} (hf:rightA f=true) (hg:rightA g=true):mtA f g=mtR f g:=by simp [mtA,hf,hg]
theorem meet_ok {a c:C}:okC (meetC a c)=true↔∀ k,k<24->¬ ((a.1.val.testBit k=true\/c.1.val.testBit k=true)/\(a.2.val.testBit k=true\/c.2.val.testBit k=true)):=by
 rw [okC_iff]
 constructor
 ·intro h k hk x
  refine h k hk ?_
  rw [(meet_bits a c k).1,(meet_bits a c k).2];simp [hk,x.1,x.2]
 ·intro h k hk x
  rw [(meet_bits a c k).1,(meet_bits a c k).2] at x
  simp only [hk,decide_true,Bool.true_and,Bool.or_eq_true] at x
  exact h k hk x
end Go.Proofs.YtblbhmnahoiecaaGreat
