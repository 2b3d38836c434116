/- Where a clause is so: the faces of a term's branches are those that Restrict tells. -/
import Derived.Test.YtblbhmnahoiecaaGreatGYDmV
import Derived.Test.YtblbhmnahoiecaaGreatGG15
set_option linter.unusedVariables false
set_option linter.unusedSimpArgs false
namespace Go.Proofs.YtblbhmnahoiecaaGreat
open Go.RowKit
theorem mt_top' {c:C} (h:rightC c=true) (hk:okC c=true):mtR [c] [top0]=([c],0):=by
 have e:meetC c top0=c:=by
  have h1:=fright_bits h
  refine c_bits (fun k=>?_) (fun k=>?_)
  ·rw [(meet_bits c top0 k).1];rw [← (h1 k).1];simp [top0]
  ·rw [(meet_bits c top0 k).2];rw [← (h1 k).2];simp [top0]
 have e2:calmC (pairsC [c] [top0])=[c]:=by simp [pairsC,calmC,e,hk]
 unfold mtR;rw [e2];exact leastF_one h
theorem mt_nil' (l:List C):mtR l []=([],0):=by
 have e2:calmC (pairsC l [])=[]:=by simp [pairsC,calmC]
 unfold mtR;rw [e2];decide
theorem least_more {A B:List C} (hA:A.all rightC=true) (hB:B.all rightC=true) (h0:(leastF A).2=0):leastF ((leastF A).1++B)=leastF (A++B):=by
 refine leastF_ext (by rw [List.all_append,leastF_all,hB];rfl) (by rw [List.all_append,hA,hB];rfl) (fun c _=>?_)
 rw [dn_append,dn_append,leastF_dn h0]
theorem all_mem {l:List C} (h:∀ c∈l,rightC c=true):l.all rightC=true:=List.all_eq_true.2 h
theorem rst_app (f g:List C) (p:C):rstL (f++g) p=rstL f p++rstL g p:=by simp [rstL]
theorem rst_right' {f:List C} (h:∀ c∈f,rightC c=true) (p:C):∀ c∈rstL f p,rightC c=true:=fun x hx=>by
 obtain⟨a,ha,_,rfl⟩:=mem_rst.1 hx
 exact cut_right (h a ha)
theorem cut_one {c:C} {i:Nat} (hi:i<24) (hr:rightC c=true) (hk:okC c=true) (h:c.2.val.testBit i=false):cutC (posB i) c=outC c (i:Int):=by
 have h1:=fright_bits hr
 refine c_bits (fun k=>?_) (fun k=>?_)
 ·rw [(cut_bits _ c k).1,(out_bits c i k hi).1,(posB_bits i k hi).1]
  have:=(h1 k).1
  by_cases hik:i=k
  ·subst hik;simp_all
  ·simp_all
 ·rw [(cut_bits _ c k).2,(out_bits c i k hi).2,(posB_bits i k hi).2]
  have:=(h1 k).2
  by_cases hik:i=k
  ·subst hik;simp_all
  ·simp_all
theorem with_one {c:C} {i:Nat} (hi:i<24) (hk:okC c=true):withC (posB i) c = !c.2.val.testBit i:=by
 unfold withC
 rw [Bool.eq_iff_iff,meet_ok,Bool.not_eq_true']
 constructor
 ·intro h
  have:=h i hi
  rw [(posB_bits i i hi).1,(posB_bits i i hi).2] at this
  simpa using this
 ·intro h k hk24
  have h2:=okC_iff.1 hk k hk24
  rw [(posB_bits i k hi).1,(posB_bits i k hi).2]
  by_cases hik:i=k
  ·subst hik;simp [h]
  ·simp [hik];simpa using h2
theorem rst1_one {c:C} {i:Nat} (hi:i<24) (hr:rightC c=true) (hk:okC c=true):rstL [c] (posB i)=if c.2.val.testBit i then [] else [outC c (i:Int)]:=by
 unfold rstL
 rw [List.filter_cons,with_one hi hk]
 cases h:c.2.val.testBit i
 ·simp [cut_one hi hr hk h]
 ·simp
theorem prt_one {c:C} {i:Nat} (hi:i<24) (hk:okC c=true):prtA c (i:Int) [top0] ([],0)=(if c.2.val.testBit i then [] else [outC c (i:Int)],0):=by
 have h0:=okC_iff.1 hk i hi
 have hB1:hasB c.1.val (i:Int)=c.1.val.testBit i:=hasB_nat hi
 have hB2:hasB c.2.val (i:Int)=c.2.val.testBit i:=hasB_nat hi
 unfold prtA
 rw [hB1,hB2]
 cases h1:c.1.val.testBit i <;> cases h2:c.2.val.testBit i
 ·simp
 ·simp [mt_nil']
 ·simp [mt_top' (out_right c i) (out_ok hk)]
 ·exact absurd ⟨h1,h2⟩ h0
theorem pts_one {i:Nat} (hi:i<24) (f:List C):(∀ c∈f,rightC c=true∧okC c=true)→f.length≤64→ptS f (i:Int) [top0] ([],0)=leastF (rstL f (posB i)):=by
 induction f using snoc_ind with
 | nil=>intro _ _;simp only [ptS,List.foldl_nil,rstL,List.filter_nil,List.map_nil];decide
 | snoc f c ih =>
  intro h hl
  have hf:∀ x∈f,rightC x=true∧okC x=true:=fun x hx=>h x (List.mem_append_left _ hx)
  obtain⟨hr,hk⟩:=h c (by simp)
  have hl2:f.length≤64:=by simp at hl;omega
  have hA:(rstL f (posB i)).all rightC=true:=all_mem (rst_right' (fun x hx=>(hf x hx).1) _)
  have h0:(leastF (rstL f (posB i))).2=0:=least_small hA (Nat.le_trans (rst_len f _) hl2)
  rw [ptS_snoc,ih hf hl2]
  have e:=leastF_pair h0
  rw [e,stpA_some,prt_one hi hk,if_pos rfl,rst_app,rst1_one hi hr hk,least_more hA (all_mem (fun x hx=>?_)) h0]
  split at hx
  ·cases hx
  ·rw [List.mem_singleton.1 hx];exact out_right c i
theorem put_one {i:Nat} (hi:i<24) {f:List C} (hf:rightA f=true):putRow ptA (i:Int) [top0] f 0=rstA f (posB i):=by
 have hs:singleC (posB i)=true:=singleC_iff.2 ⟨posB_right i,okC_iff.2 (fun k _ h=>by rw [(posB_bits i k hi).1,(posB_bits i k hi).2] at h;simp at h)⟩
 have hR:rstA f (posB i)=leastF (rstL f (posB i)):=by unfold rstA;rw [hf,hs];rfl
 have hall:∀ c∈f,rightC c=true∧okC c=true:=fun c hc=>⟨List.all_eq_true.1 (rightF_all (rightA_right hf)) c hc,rightA_ok hf c hc⟩
 have e0:((i:Int) + ((0:Nat):Int))=(i:Int):=by omega
 unfold putRow
 rw [e0]
 cases hh:hasB (dimsN f) (i:Int)
 ·rw [if_neg (by simp),hR]
  rw [hasB_nat hi,dimsN_bit] at hh
  have hno:∀ c∈f,c.1.val.testBit i=false∧c.2.val.testBit i=false:=fun c hc=>by
   simp only [hi,decide_true,Bool.true_and] at hh
   have:=List.any_eq_false.1 hh c hc
   simpa using this
  have e:rstL f (posB i)=f:=by
   unfold rstL
   rw [List.filter_eq_self.2 (fun c hc=>by rw [with_one hi (hall c hc).2,(hno c hc).2];rfl)]
   conv=>rhs;rw [← List.map_id f]
   refine List.map_congr_left (fun c hc=>?_)
   rw [cut_one hi (hall c hc).1 (hall c hc).2 (hno c hc).2]
   have h1:=fright_bits (hall c hc).1
   refine c_bits (fun k=>?_) (fun k=>?_)
   ·rw [(out_bits c i k hi).1]
    have:=(h1 k).1
    by_cases hik:i=k
    ·subst hik;simp [(hno c hc).1]
    ·simp_all
   ·rw [(out_bits c i k hi).2]
    have:=(h1 k).2
    by_cases hik:i=k
    ·subst hik;simp [(hno c hc).2]
    ·simp_all
  rw [e,rightF_eq (rightA_right hf)]
 ·rw [if_pos rfl]
  have eL:liftFF [top0] 0 ((0:Nat):Int)=([top0],0):=by decide
  rw [eL,if_pos rfl]
  show ptA f (i:Int) [top0]=_
  have hd:isDimB (i:Int)=true:=isDimB_nat hi
  have hq:rightF [top0]=true:=by decide
  unfold ptA
  rw [hf,hd,hq]
  have e1:(ofF [top0]).1=[top0]:=by decide
  have e2:ofZ [top0]=([],0):=by decide
  rw [e1,e2,hR]
  exact pts_one hi f hall (rightA_len hf)
theorem cut_nil {c:C} {i:Nat} (hi:i<24) (hr:rightC c=true) (hk:okC c=true) (h:c.1.val.testBit i=false):cutC (negB i) c=outC c (i:Int):=by
 have h1:=fright_bits hr
 refine c_bits (fun k=>?_) (fun k=>?_)
 ·rw [(cut_bits _ c k).1,(out_bits c i k hi).1,(negB_bits i k hi).1]
  have:=(h1 k).1
  by_cases hik:i=k
  ·subst hik;simp_all
  ·simp_all
 ·rw [(cut_bits _ c k).2,(out_bits c i k hi).2,(negB_bits i k hi).2]
  have:=(h1 k).2
  by_cases hik:i=k
  ·subst hik;simp_all
  ·simp_all
theorem with_nil {c:C} {i:Nat} (hi:i<24) (hk:okC c=true):withC (negB i) c = !c.1.val.testBit i:=by
 unfold withC
 rw [Bool.eq_iff_iff,meet_ok,Bool.not_eq_true']
 constructor
 ·intro h
  have:=h i hi
  rw [(negB_bits i i hi).1,(negB_bits i i hi).2] at this
  simpa using this
 ·intro h k hk24
  have h2:=okC_iff.1 hk k hk24
  rw [(negB_bits i k hi).1,(negB_bits i k hi).2]
  by_cases hik:i=k
  ·subst hik;simp [h]
  ·simp [hik];simpa using h2
theorem rst1_nil {c:C} {i:Nat} (hi:i<24) (hr:rightC c=true) (hk:okC c=true):rstL [c] (negB i)=if c.1.val.testBit i then [] else [outC c (i:Int)]:=by
 unfold rstL
 rw [List.filter_cons,with_nil hi hk]
 cases h:c.1.val.testBit i
 ·simp [cut_nil hi hr hk h]
 ·simp
theorem prt_nil {c:C} {i:Nat} (hi:i<24) (hk:okC c=true):prtA c (i:Int) [] ([top0],0)=(if c.1.val.testBit i then [] else [outC c (i:Int)],0):=by
 have h0:=okC_iff.1 hk i hi
 have hB1:hasB c.1.val (i:Int)=c.1.val.testBit i:=hasB_nat hi
 have hB2:hasB c.2.val (i:Int)=c.2.val.testBit i:=hasB_nat hi
 unfold prtA
 rw [hB1,hB2]
 cases h1:c.1.val.testBit i <;> cases h2:c.2.val.testBit i
 ·simp
 ·simp [mt_top' (out_right c i) (out_ok hk)]
 ·simp [mt_nil']
 ·exact absurd ⟨h1,h2⟩ h0
theorem pts_nil {i:Nat} (hi:i<24) (f:List C):(∀ c∈f,rightC c=true∧okC c=true)→f.length≤64→ptS f (i:Int) [] ([top0],0)=leastF (rstL f (negB i)):=by
 induction f using snoc_ind with
 | nil=>intro _ _;simp only [ptS,List.foldl_nil,rstL,List.filter_nil,List.map_nil];decide
 | snoc f c ih =>
  intro h hl
  have hf:∀ x∈f,rightC x=true∧okC x=true:=fun x hx=>h x (List.mem_append_left _ hx)
  obtain⟨hr,hk⟩:=h c (by simp)
  have hl2:f.length≤64:=by simp at hl;omega
  have hA:(rstL f (negB i)).all rightC=true:=all_mem (rst_right' (fun x hx=>(hf x hx).1) _)
  have h0:(leastF (rstL f (negB i))).2=0:=least_small hA (Nat.le_trans (rst_len f _) hl2)
  rw [ptS_snoc,ih hf hl2]
  have e:=leastF_pair h0
  rw [e,stpA_some,prt_nil hi hk,if_pos rfl,rst_app,rst1_nil hi hr hk,least_more hA (all_mem (fun x hx=>?_)) h0]
  split at hx
  ·cases hx
  ·rw [List.mem_singleton.1 hx];exact out_right c i
theorem put_nil {i:Nat} (hi:i<24) {f:List C} (hf:rightA f=true):putRow ptA (i:Int) [] f 0=rstA f (negB i):=by
 have hs:singleC (negB i)=true:=singleC_iff.2 ⟨negB_right i,okC_iff.2 (fun k _ h=>by rw [(negB_bits i k hi).1,(negB_bits i k hi).2] at h;simp at h)⟩
 have hR:rstA f (negB i)=leastF (rstL f (negB i)):=by unfold rstA;rw [hf,hs];rfl
 have hall:∀ c∈f,rightC c=true∧okC c=true:=fun c hc=>⟨List.all_eq_true.1 (rightF_all (rightA_right hf)) c hc,rightA_ok hf c hc⟩
 have e0:((i:Int) + ((0:Nat):Int))=(i:Int):=by omega
 unfold putRow
 rw [e0]
 cases hh:hasB (dimsN f) (i:Int)
 ·rw [if_neg (by simp),hR]
  rw [hasB_nat hi,dimsN_bit] at hh
  have hno:∀ c∈f,c.1.val.testBit i=false∧c.2.val.testBit i=false:=fun c hc=>by
   simp only [hi,decide_true,Bool.true_and] at hh
   have:=List.any_eq_false.1 hh c hc
   simpa using this
  have e:rstL f (negB i)=f:=by
   unfold rstL
   rw [List.filter_eq_self.2 (fun c hc=>by rw [with_nil hi (hall c hc).2,(hno c hc).1];rfl)]
   conv=>rhs;rw [← List.map_id f]
   refine List.map_congr_left (fun c hc=>?_)
   rw [cut_nil hi (hall c hc).1 (hall c hc).2 (hno c hc).1]
   have h1:=fright_bits (hall c hc).1
   refine c_bits (fun k=>?_) (fun k=>?_)
   ·rw [(out_bits c i k hi).1]
    have:=(h1 k).1
    by_cases hik:i=k
    ·subst hik;simp [(hno c hc).1]
    ·simp_all
   ·rw [(out_bits c i k hi).2]
    have:=(h1 k).2
    by_cases hik:i=k
    ·subst hik;simp [(hno c hc).2]
    ·simp_all
  rw [e,rightF_eq (rightA_right hf)]
 ·rw [if_pos rfl]
  have eL:liftFF [] 0 ((0:Nat):Int)=([],0):=by decide
  rw [eL,if_pos rfl]
  show ptA f (i:Int) []=_
  have hd:isDimB (i:Int)=true:=isDimB_nat hi
  have hq:rightF []=true:=by decide
  unfold ptA
  rw [hf,hd,hq]
  have e1:(ofF []).1=[]:=by decide
  have e2:ofZ []=([top0],0):=by decide
  rw [e1,e2,hR]
  exact pts_nil hi f hall (rightA_len hf)
def Rf (c:C) (f:List C):List C:=(rstA f c).1
structure DStp where
 i:Nat
 r:List C
 p:C
def DStp.ok (s:DStp):Prop:=s.i<24∧((s.r=[top0]∧s.p=posB s.i)∨(s.r=[]∧s.p=negB s.i))
theorem DStp.put {s:DStp} (h:s.ok) {f:List C} (hf:rightA f=true):(putRow ptA (s.i:Int) s.r f 0).1=Rf s.p f:=by
 obtain⟨hi,⟨hr,hp⟩ | ⟨hr,hp⟩⟩:=h
 ·rw [hr,hp,put_one hi hf];rfl
 ·rw [hr,hp,put_nil hi hf];rfl
theorem inF_iff {l:List C} {k:Nat}:inF l k=true↔∃ c∈l,c.1.val.testBit k=true∨c.2.val.testBit k=true:=by
 unfold inF;rw [List.any_eq_true];simp only [Bool.or_eq_true]
theorem put_no {PF:List C→Int→List C→List C × Int} {i bd:Nat} {r l:List C} (h:i+bd<24→inF l (i+bd)=false):putRow PF (i:Int) r l bd=(l,0):=by
 unfold putRow
 have e:hasB (dimsN l) ((i:Int) + (bd:Int))=false:=by
  have e1:((i:Int) + (bd:Int))=((i+bd:Nat):Int):=by omega
  rw [e1]
  by_cases h24:i+bd<24
  ·rw [hasB_nat h24,dimsN_bit,h h24];simp
  ·exact hasB_no (by simp [isDimB];omega)
 rw [e];rfl
theorem row_cases {i bd:Nat} {l:List C}:(i+bd<24∧inF l (i+bd)=true)∨(i+bd<24→inF l (i+bd)=false):=by
 by_cases h:i+bd<24
 ·cases hh:inF l (i+bd)
  ·exact .inr (fun _=>rfl)
  ·exact .inl ⟨h,rfl⟩
 ·exact .inr (fun h'=>absurd h' h)
end Go.Proofs.YtblbhmnahoiecaaGreat
