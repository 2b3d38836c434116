/- Where a clause is so once more: nothing is refused, it may be as before, none of the clause's dimensions is left, and once more changes nothing. -/
import Derived.Test.YtmblbmdchinflaaGreatEG20
set_option linter.unusedVariables false
set_option linter.unusedSimpArgs false
namespace Go.Proofs.YtmblbmdchinflaaGreat
open Go.RowKit
theorem meet_top' {c:C} (h:rightC c=true):meetC c top0=c:=by
 have h1:=fright_bits h
 refine c_bits (fun k=>?_) (fun k=>?_)
 ·rw [(meet_bits c top0 k).1];rw [← (h1 k).1];simp [top0]
 ·rw [(meet_bits c top0 k).2];rw [← (h1 k).2];simp [top0]
theorem meetR_top {c:C} (h:rightC c=true):meetR [c] [top0]=([c],0):=by rw [meet_one,meet_top' h]
theorem meetR_nil (l:List C):meetR l []=([],0):=by
 have e2:pairsC l []=[]:=by simp [pairsC]
 unfold meetR;rw [e2];decide
theorem meetR_nill (l:List C):meetR [] l=([],0):=by
 have e2:pairsC [] l=[]:=by simp [pairsC]
 unfold meetR;rw [e2];decide
theorem inF_iff {l:List C} {k:Nat}:inF l k=true↔∃ c∈l,c.1.val.testBit k=true∨c.2.val.testBit k=true:=by
 unfold inF;rw [List.any_eq_true];simp only [Bool.or_eq_true]
theorem lift_nil24:∀ bd:Fin 24,liftFF [] 0 ((bd.val:Nat):Int)=([],0):=by decide +kernel
theorem lift_top24:∀ bd:Fin 24,liftFF [top0] 0 ((bd.val:Nat):Int)=([top0],0):=by decide +kernel
def cut_oneL (l:List C) (j:Nat):List C:=(l.filter fun c=>!c.2.val.testBit j).map fun c=>outC c (j:Int)
theorem part_one {c:C} {j:Nat} (hj:j<24):partF c (j:Int) [top0] ([],0)=(if c.2.val.testBit j then [] else [outC c (j:Int)],0):=by
 have hB1:hasB c.1.val (j:Int)=c.1.val.testBit j:=hasB_nat hj
 have hB2:hasB c.2.val (j:Int)=c.2.val.testBit j:=hasB_nat hj
 have hr:=out_right c (j:Int)
 unfold partF partA
 rw [hB1,hB2]
 cases h1:c.1.val.testBit j <;> cases h2:c.2.val.testBit j <;> simp [meetR_top hr,meetR_nil,meetR_nill]
theorem fputs_one {j:Nat} (hj:j<24) (f:List C):f.length≤64→putS f (j:Int) [top0] ([],0)=leastF (cut_oneL f j):=by
 induction f using snoc_ind with
 | nil=>intro _;simp only [putS,List.foldl_nil,cut_oneL,List.filter_nil,List.map_nil];decide
 | snoc f c ih =>
  intro hl
  have hl2:f.length≤64:=by simp at hl;omega
  have hA:(cut_oneL f j).all rightC=true:=all_mem (fun x hx=>by obtain⟨a,_,rfl⟩:=List.mem_map.1 hx;exact out_right a _)
  have h0:(leastF (cut_oneL f j)).2=0:=least_small hA (by unfold cut_oneL;rw [List.length_map];exact Nat.le_trans (List.length_filter_le _ _) hl2)
  rw [putS_snoc,ih hl2]
  have e:=leastF_pair h0
  rw [e,stepP_some,part_one hj,if_pos rfl]
  have e2:cut_oneL (f ++ [c]) j=cut_oneL f j++(if c.2.val.testBit j then [] else [outC c (j:Int)]):=by
   unfold cut_oneL
   rw [List.filter_append,List.map_append]
   congr 1
   cases h:c.2.val.testBit j <;> simp [h]
  rw [e2]
  show leastF ((leastF (cut_oneL f j)).1++_)=_
  refine least_more hA (all_mem (fun x hx=>?_)) h0
  split at hx
  ·cases hx
  ·rw [List.mem_singleton.1 hx];exact out_right c j
theorem fput_one {j:Nat} (hj:j<24) {l:List C} (hl:rightF l=true):putF l (j:Int) [top0]=leastF (cut_oneL l j)∧(leastF (cut_oneL l j)).2=0:=by
 have hA:(cut_oneL l j).all rightC=true:=all_mem (fun x hx=>by obtain⟨a,_,rfl⟩:=List.mem_map.1 hx;exact out_right a _)
 refine⟨?_,least_small hA (by unfold cut_oneL;rw [List.length_map];exact Nat.le_trans (List.length_filter_le _ _) (rightF_len hl))⟩
 rw [putF_ok hl (by decide) (isDimB_nat hj)]
 unfold putR
 have e:notR [top0]=([],0):=by decide
 rw [e]
 exact fputs_one hj l (rightF_len hl)
theorem fput_one_in {j k:Nat} (hj:j<24) {l:List C} (h:inF (leastF (cut_oneL l j)).1 k=true):inF l k=true∧k≠j:=by
 obtain⟨c,hc,hb⟩:=inF_iff.1 h
 obtain⟨a,ha,rfl⟩:=List.mem_map.1 (leastF_sub c hc)
 rw [(out_bits a j k hj).1,(out_bits a j k hj).2] at hb
 simp only [Bool.and_eq_true,Bool.not_eq_true',decide_eq_true_eq,decide_eq_false_iff_not] at hb
 have ha':=(List.mem_filter.1 ha).1
 rcases hb with ⟨⟨_,h1⟩,h2⟩|⟨⟨_,h1⟩,h2⟩
 ·exact⟨inF_iff.2 ⟨a,ha',.inl h1⟩,fun e=>h2 e.symm⟩
 ·exact⟨inF_iff.2 ⟨a,ha',.inr h1⟩,fun e=>h2 e.symm⟩
theorem aput_one {j:Nat} (hj:j<24) {f:List C} (hf:rightA f=true):ptA f (j:Int) [top0]=leastF (rstL f (posB j))∧(leastF (rstL f (posB j))).2=0:=by
 have hall:∀ c∈f,rightC c=true∧okC c=true:=fun c hc=>⟨List.all_eq_true.1 (rightF_all (rightA_right hf)) c hc,rightA_ok hf c hc⟩
 have hA:(rstL f (posB j)).all rightC=true:=all_mem (rst_right' (fun x hx=>(hall x hx).1) _)
 refine⟨?_,least_small hA (Nat.le_trans (rst_len f _) (rightA_len hf))⟩
 have hd:isDimB (j:Int)=true:=isDimB_nat hj
 have hq:rightF [top0]=true:=by decide
 unfold ptA
 rw [hf,hd,hq]
 have e1:(ofF [top0]).1=[top0]:=by decide
 have e2:ofZ [top0]=([],0):=by decide
 rw [e1,e2]
 exact pts_one hj f hall (rightA_len hf)
theorem aput_one_in {j k:Nat} (hj:j<24) {f:List C} (hf:rightA f=true) (h:inF (leastF (rstL f (posB j))).1 k=true):inF f k=true∧k≠j:=by
 obtain⟨c,hc,hb⟩:=inF_iff.1 h
 obtain⟨a,ha,hw,rfl⟩:=mem_rst.1 (leastF_sub c hc)
 rw [with_one hj (rightA_ok hf a ha),Bool.not_eq_true'] at hw
 rw [cut_one hj (List.all_eq_true.1 (rightF_all (rightA_right hf)) a ha) (rightA_ok hf a ha) hw] at hb
 rw [(out_bits a j k hj).1,(out_bits a j k hj).2] at hb
 simp only [Bool.and_eq_true,Bool.not_eq_true',decide_eq_true_eq,decide_eq_false_iff_not] at hb
 rcases hb with ⟨⟨_,h1⟩,h2⟩|⟨⟨_,h1⟩,h2⟩
 ·exact⟨inF_iff.2 ⟨a,ha,.inl h1⟩,fun e=>h2 e.symm⟩
 ·exact⟨inF_iff.2 ⟨a,ha,.inr h1⟩,fun e=>h2 e.symm⟩
def cut_nilL (l:List C) (j:Nat):List C:=(l.filter fun c=>!c.1.val.testBit j).map fun c=>outC c (j:Int)
theorem part_nil {c:C} {j:Nat} (hj:j<24):partF c (j:Int) [] ([top0],0)=(if c.1.val.testBit j then [] else [outC c (j:Int)],0):=by
 have hB1:hasB c.1.val (j:Int)=c.1.val.testBit j:=hasB_nat hj
 have hB2:hasB c.2.val (j:Int)=c.2.val.testBit j:=hasB_nat hj
 have hr:=out_right c (j:Int)
 unfold partF partA
 rw [hB1,hB2]
 cases h1:c.1.val.testBit j <;> cases h2:c.2.val.testBit j <;> simp [meetR_top hr,meetR_nil,meetR_nill]
theorem fputs_nil {j:Nat} (hj:j<24) (f:List C):f.length≤64→putS f (j:Int) [] ([top0],0)=leastF (cut_nilL f j):=by
 induction f using snoc_ind with
 | nil=>intro _;simp only [putS,List.foldl_nil,cut_nilL,List.filter_nil,List.map_nil];decide
 | snoc f c ih =>
  intro hl
  have hl2:f.length≤64:=by simp at hl;omega
  have hA:(cut_nilL f j).all rightC=true:=all_mem (fun x hx=>by obtain⟨a,_,rfl⟩:=List.mem_map.1 hx;exact out_right a _)
  have h0:(leastF (cut_nilL f j)).2=0:=least_small hA (by unfold cut_nilL;rw [List.length_map];exact Nat.le_trans (List.length_filter_le _ _) hl2)
  rw [putS_snoc,ih hl2]
  have e:=leastF_pair h0
  rw [e,stepP_some,part_nil hj,if_pos rfl]
  have e2:cut_nilL (f ++ [c]) j=cut_nilL f j++(if c.1.val.testBit j then [] else [outC c (j:Int)]):=by
   unfold cut_nilL
   rw [List.filter_append,List.map_append]
   congr 1
   cases h:c.1.val.testBit j <;> simp [h]
  rw [e2]
  show leastF ((leastF (cut_nilL f j)).1++_)=_
  refine least_more hA (all_mem (fun x hx=>?_)) h0
  split at hx
  ·cases hx
  ·rw [List.mem_singleton.1 hx];exact out_right c j
theorem fput_nil {j:Nat} (hj:j<24) {l:List C} (hl:rightF l=true):putF l (j:Int) []=leastF (cut_nilL l j)∧(leastF (cut_nilL l j)).2=0:=by
 have hA:(cut_nilL l j).all rightC=true:=all_mem (fun x hx=>by obtain⟨a,_,rfl⟩:=List.mem_map.1 hx;exact out_right a _)
 refine⟨?_,least_small hA (by unfold cut_nilL;rw [List.length_map];exact Nat.le_trans (List.length_filter_le _ _) (rightF_len hl))⟩
 rw [putF_ok hl (by decide) (isDimB_nat hj)]
 unfold putR
 have e:notR []=([top0],0):=by decide
 rw [e]
 exact fputs_nil hj l (rightF_len hl)
theorem fput_nil_in {j k:Nat} (hj:j<24) {l:List C} (h:inF (leastF (cut_nilL l j)).1 k=true):inF l k=true∧k≠j:=by
 obtain⟨c,hc,hb⟩:=inF_iff.1 h
 obtain⟨a,ha,rfl⟩:=List.mem_map.1 (leastF_sub c hc)
 rw [(out_bits a j k hj).1,(out_bits a j k hj).2] at hb
 simp only [Bool.and_eq_true,Bool.not_eq_true',decide_eq_true_eq,decide_eq_false_iff_not] at hb
 have ha':=(List.mem_filter.1 ha).1
 rcases hb with ⟨⟨_,h1⟩,h2⟩|⟨⟨_,h1⟩,h2⟩
 ·exact⟨inF_iff.2 ⟨a,ha',.inl h1⟩,fun e=>h2 e.symm⟩
 ·exact⟨inF_iff.2 ⟨a,ha',.inr h1⟩,fun e=>h2 e.symm⟩
theorem aput_nil {j:Nat} (hj:j<24) {f:List C} (hf:rightA f=true):ptA f (j:Int) []=leastF (rstL f (negB j))∧(leastF (rstL f (negB j))).2=0:=by
 have hall:∀ c∈f,rightC c=true∧okC c=true:=fun c hc=>⟨List.all_eq_true.1 (rightF_all (rightA_right hf)) c hc,rightA_ok hf c hc⟩
 have hA:(rstL f (negB j)).all rightC=true:=all_mem (rst_right' (fun x hx=>(hall x hx).1) _)
 refine⟨?_,least_small hA (Nat.le_trans (rst_len f _) (rightA_len hf))⟩
 have hd:isDimB (j:Int)=true:=isDimB_nat hj
 have hq:rightF []=true:=by decide
 unfold ptA
 rw [hf,hd,hq]
 have e1:(ofF []).1=[]:=by decide
 have e2:ofZ []=([top0],0):=by decide
 rw [e1,e2]
 exact pts_nil hj f hall (rightA_len hf)
theorem aput_nil_in {j k:Nat} (hj:j<24) {f:List C} (hf:rightA f=true) (h:inF (leastF (rstL f (negB j))).1 k=true):inF f k=true∧k≠j:=by
 obtain⟨c,hc,hb⟩:=inF_iff.1 h
 obtain⟨a,ha,hw,rfl⟩:=mem_rst.1 (leastF_sub c hc)
 rw [with_nil hj (rightA_ok hf a ha),Bool.not_eq_true'] at hw
 rw [cut_nil hj (List.all_eq_true.1 (rightF_all (rightA_right hf)) a ha) (rightA_ok hf a ha) hw] at hb
 rw [(out_bits a j k hj).1,(out_bits a j k hj).2] at hb
 simp only [Bool.and_eq_true,Bool.not_eq_true',decide_eq_true_eq,decide_eq_false_iff_not] at hb
 rcases hb with ⟨⟨_,h1⟩,h2⟩|⟨⟨_,h1⟩,h2⟩
 ·exact⟨inF_iff.2 ⟨a,ha,.inl h1⟩,fun e=>h2 e.symm⟩
 ·exact⟨inF_iff.2 ⟨a,ha,.inr h1⟩,fun e=>h2 e.symm⟩
theorem put_no {PF:List C→Int→List C→List C × Int} {i bd:Nat} {r l:List C} (h:i+bd<24→inF l (i+bd)=false):putRow PF (i:Int) r l bd=(l,0):=by
 unfold putRow
 have e:hasB (dimsN l) ((i:Int) + (bd:Int))=false:=by
  have e1:((i:Int) + (bd:Int))=((i+bd:Nat):Int):=by omega
  rw [e1]
  by_cases h24:i+bd<24
  ·rw [hasB_nat h24,dimsN_bit,h h24];simp
  ·exact hasB_no (by simp [isDimB];omega)
 rw [e];rfl
theorem put_yes {PF:List C→Int→List C→List C × Int} {s:DStp} (hs:s.ok) {bd:Nat} {l:List C} (h24:s.i+bd<24) (h:inF l (s.i+bd)=true):putRow PF (s.i:Int) s.r l bd=PF l ((s.i+bd:Nat):Int) s.r:=by
 unfold putRow
 have e1:((s.i:Int) + (bd:Int))=((s.i+bd:Nat):Int):=by omega
 rw [e1,hasB_nat h24,dimsN_bit,h]
 have e2:liftFF s.r 0 (bd:Int)=(s.r,0):=by
  rcases hs.2 with ⟨hr,_⟩|⟨hr,_⟩
  ·rw [hr];exact lift_top24 ⟨bd,by omega⟩
  ·rw [hr];exact lift_nil24 ⟨bd,by omega⟩
 rw [e2]
 simp [h24]
theorem row_cases {i bd:Nat} {l:List C}:(i+bd<24∧inF l (i+bd)=true)∨(i+bd<24→inF l (i+bd)=false):=by
 by_cases h:i+bd<24
 ·cases hh:inF l (i+bd)
  ·exact .inr (fun _=>rfl)
  ·exact .inl ⟨h,rfl⟩
 ·exact .inr (fun h'=>absurd h' h)
theorem rowF {s:DStp} (hs:s.ok) {l:List C} (hl:rightF l=true) (bd:Nat):((putOp s.i s.r).fn l bd).2=0∧rightF ((putOp s.i s.r).fn l bd).1=true∧∀ k,k<24→inF ((putOp s.i s.r).fn l bd).1 k=true→inF l k=true∧k≠s.i+bd:=by
 show (putRow putF (s.i:Int) s.r l bd).2=0∧rightF (putRow putF (s.i:Int) s.r l bd).1=true∧∀ k,k<24→inF (putRow putF (s.i:Int) s.r l bd).1 k=true→inF l k=true∧k≠s.i+bd
 rcases row_cases (i:=s.i) (bd:=bd) (l:=l) with ⟨h24,h⟩|h
 ·rw [put_yes hs h24 h]
  rcases hs.2 with ⟨hr,_⟩|⟨hr,_⟩
  ·rw [hr]
   obtain⟨e1,e2⟩:=fput_one h24 hl
   rw [e1]
   exact⟨e2,leastF_right _,fun k _ hk=>fput_one_in h24 hk⟩
  ·rw [hr]
   obtain⟨e1,e2⟩:=fput_nil h24 hl
   rw [e1]
   exact⟨e2,leastF_right _,fun k _ hk=>fput_nil_in h24 hk⟩
 ·rw [put_no h]
  exact⟨rfl,hl,fun k hk hi=>⟨hi,fun e=>by subst e;rw [h hk] at hi;cases hi⟩⟩
theorem rowA {s:DStp} (hs:s.ok) {l:List C} (hl:rightA l=true) (bd:Nat):((putOp s.i s.r).fc l bd).2=0∧rightA ((putOp s.i s.r).fc l bd).1=true∧∀ k,k<24→inF ((putOp s.i s.r).fc l bd).1 k=true→inF l k=true∧k≠s.i+bd:=by
 show (putRow ptA (s.i:Int) s.r l bd).2=0∧rightA (putRow ptA (s.i:Int) s.r l bd).1=true∧∀ k,k<24→inF (putRow ptA (s.i:Int) s.r l bd).1 k=true→inF l k=true∧k≠s.i+bd
 rcases row_cases (i:=s.i) (bd:=bd) (l:=l) with ⟨h24,h⟩|h
 ·rw [put_yes hs h24 h]
  have hR:=ptA_right l ((s.i+bd:Nat):Int) s.r
  rcases hs.2 with ⟨hr,_⟩|⟨hr,_⟩
  ·rw [hr] at hR ⊢
   obtain⟨e1,e2⟩:=aput_one h24 hl
   refine⟨by rw [e1];exact e2,hR,fun k _ hk=>?_⟩
   rw [e1] at hk
   exact aput_one_in h24 hl hk
  ·rw [hr] at hR ⊢
   obtain⟨e1,e2⟩:=aput_nil h24 hl
   refine⟨by rw [e1];exact e2,hR,fun k _ hk=>?_⟩
   rw [e1] at hk
   exact aput_nil_in h24 hl hk
 ·rw [put_no h]
  exact⟨rfl,hl,fun k hk hi=>⟨hi,fun e=>by subst e;rw [h hk] at hi;cases hi⟩⟩
theorem bit_in {l:List C} {k:Nat}:(dimsN l).testBit k=true↔k<24∧inF l k=true:=by rw [dimsN_bit,Bool.and_eq_true,decide_eq_true_eq]
theorem reach_sub {o:Bool} {e:Nat} {r r':List C} (h:reachB o e r=true) (hs:∀ k,k<24→inF r' k=true→inF r k=true):reachB o e r'=true:=by
 unfold reachB at h ⊢
 cases o
 ·simp only [Bool.false_or,decide_eq_true_eq] at h ⊢
  refine Nat.eq_of_testBit_eq (fun j=>?_)
  rw [Nat.zero_testBit,Nat.testBit_div_two_pow]
  cases hb:(dimsN r').testBit (j+e)
  ·rfl
  ·have h1:=bit_in.1 hb
   have h2:(dimsN r).testBit (j+e)=true:=bit_in.2 ⟨h1.1,hs _ h1.1 h1.2⟩
   have h3:(dimsN r / 2 ^ e).testBit j=true:=by rw [Nat.testBit_div_two_pow];exact h2
   rw [h,Nat.zero_testBit] at h3
   cases h3
 ·rfl
theorem own_ok {s:DStp} (hs:s.ok) {o:Bool} {e:Nat} {k:Int} {r:List C} (h:rowB o e k r=true) (bd:Nat):(ownP (putOp s.i s.r) k r bd).2=0∧rowB o e k (ownP (putOp s.i s.r) k r bd).1=true∧∀ j,j<24→inF (ownP (putOp s.i s.r) k r bd).1 j=true→inF r j=true∧j≠s.i+bd:=by
 unfold rowB at h ⊢
 by_cases h1:k=13∨k=21∨k=26
 ·have hk:¬ k=14:=by omega
  rw [if_pos h1,Bool.and_eq_true] at h
  obtain⟨a,b,c⟩:=rowF hs h.1 bd
  unfold ownP
  rw [if_neg hk,if_pos h1,b]
  exact⟨a,by rw [Bool.true_and];exact reach_sub h.2 (fun j hj hi=>(c j hj hi).1),c⟩
 ·rw [if_neg h1] at h ⊢
  by_cases hk:k=14
  ·rw [if_pos hk,Bool.and_eq_true] at h
   obtain⟨a,b,c⟩:=rowA hs h.1 bd
   unfold ownP
   rw [if_pos hk,if_pos hk,b]
   exact⟨a,by rw [Bool.true_and];exact reach_sub h.2 (fun j hj hi=>(c j hj hi).1),c⟩
  ·rw [if_neg hk,decide_eq_true_eq] at h
   obtain rfl:=List.length_eq_zero_iff.1 h
   have e:(putOp s.i s.r).fn [] bd=([],0):=put_no (fun _=>rfl)
   unfold ownP
   rw [if_neg hk,if_neg hk,e]
   exact⟨rfl,rfl,fun j _ hj=>by cases hj⟩
def neT:Tm→Prop:=Tm.fold fun _ _ _ _ ks sys=>(∀ p∈ks,p)∧∀ b∈sys,b.1≠[]∧∀ p∈b.2,p
theorem ne_eq (t:Tm):neT t↔(∀ x∈t.kids,neT x)∧∀ b∈t.sys,b.1≠[]∧∀ x∈b.2,neT x:=by
 unfold neT
 rw [fold_mk]
 simp only [List.mem_map,forall_exists_index,and_imp,forall_apply_eq_imp_iff₂]
theorem e_ok {s:DStp} (hs:s.ok) {o:Bool} {V:Int} {D:Nat}:∀ (n:Nat) (t:Tm) (bd bv b2:Nat),blk t≤n→okT o V D t bv b2=true→eT (putOp s.i s.r) t bd=0
 | 0,t,bd,bv,b2,hn,_=>by have:=blk_pos t;omega
 | n+1,t,bd,bv,b2,hn,h=>by
  rw [ok_eq,Bool.and_eq_true] at h
  obtain⟨h1,h2⟩:=h
  rw [List.all_eq_true] at h2
  unfold Tm.node nodeB at h1
  simp only [Bool.and_eq_true] at h1
  obtain⟨⟨⟨⟨⟨_,_⟩,_⟩,_⟩,hrow⟩,hsys⟩:=h1
  refine e_none (own_ok hs hrow bd).1 (firstE_zero.2 fun x hx=>?_) (firstE_zero.2 fun x hx=>?_)
  ·obtain⟨i,hi⟩:=List.mem_iff_getElem?.1 hx
   obtain⟨y,hy⟩:=someL (l:=t.kids) (k:=i) (by rw [← eK_len (putOp s.i s.r) t.kind t.kids bd];exact some_lt hi)
   rw [eK_get hy] at hi
   injection hi with hi
   rw [← hi]
   exact e_ok hs n y _ _ _ (by have:=blk_kid (List.mem_of_getElem? hy);omega) (h2 _ (pts_kid hy))
  ·unfold eS at hx
   obtain⟨b,hb,rfl⟩:=List.mem_map.1 hx
   have hbr:=List.all_eq_true.1 hsys (b.1,b.2.length) (List.mem_map_of_mem hb)
   unfold brB at hbr
   simp only [Bool.and_eq_true] at hbr
   have hf:=(rowA hs hbr.1.2 bd).1
   cases hst:stayB (putOp s.i s.r) bd b.1
   ·exact b_gone hf hst
   ·refine b_none hf hst (firstE_zero.2 fun x hx=>?_)
    unfold eBk at hx
    obtain⟨y,hy,rfl⟩:=List.mem_map.1 hx
    exact e_ok hs n y _ _ _ (by have:=blk_sub hb hy;omega) (h2 _ (pts_sys hb hy))
theorem d_same {s:DStp}:∀ (n:Nat) (t:Tm) (bd:Nat),blk t≤n→neT t→hsT t (s.i+bd)=false→dT (putOp s.i s.r) t bd=t
 | 0,t,bd,hn,_,_=>by have:=blk_pos t;omega
 | n+1,t,bd,hn,hne,hh=>by
  rw [ne_eq] at hne
  rw [hs_eq,Bool.or_eq_false_iff,Bool.or_eq_false_iff] at hh
  obtain⟨⟨hr,hs⟩,hp⟩:=hh
  rw [List.any_eq_false] at hs hp
  have no:∀ l:List C,(dimsN l).testBit (s.i+bd)=false→(s.i+bd<24→inF l (s.i+bd)=false):=fun l h h24=>by
   cases hi:inF l (s.i+bd)
   ·rfl
   ·rw [bit_in.2 ⟨h24,hi⟩] at h;cases h
  have e1:(ownP (putOp s.i s.r) t.kind t.r bd).1=t.r:=by
   unfold ownP
   split
   ·have:=put_no (PF:=ptA) (r:=s.r) (no t.r hr);exact congrArg Prod.fst this
   ·have:=put_no (PF:=putF) (r:=s.r) (no t.r hr);exact congrArg Prod.fst this
  have e2:dK (putOp s.i s.r) t.kind t.kids bd=t.kids:=by
   refine List.ext_getElem? fun i=>?_
   cases hx:t.kids[i]? with
   | none =>
    rw [List.getElem?_eq_none_iff] at hx ⊢
    rw [dK_len];exact hx
   | some x =>
    rw [dK_get hx]
    have hm:=List.mem_of_getElem? hx
    have:=hp _ (pts_kid hx)
    have h2:hsT x (s.i+(bd+bdK t.kind i))=false:=by
     have:hsT x (s.i+bd+bdK t.kind i)=false:=by simpa using this
     rw [← Nat.add_assoc];exact this
    rw [d_same n x _ (by have:=blk_kid hm;omega) (hne.1 x hm) h2]
  have e3:dS (putOp s.i s.r) t.kind t.sys bd=t.sys:=by
   have fc:∀ b∈t.sys,(putOp s.i s.r).fc b.1 bd=(b.1,0):=fun b hb=>put_no (PF:=ptA) (r:=s.r) (no b.1 (by simpa using hs b hb))
   unfold dS
   rw [List.filter_eq_self.2 (fun b hb=>by
    unfold stayB
    rw [fc b hb]
    have:=(hne.2 b hb).1
    cases hb1:b.1 with
    | nil=>exact absurd hb1 this
    | cons _ _=>rfl)]
   conv=>rhs;rw [← List.map_id t.sys]
   refine List.map_congr_left fun b hb=>?_
   unfold dB
   rw [fc b hb]
   refine Prod.ext rfl ?_
   show (b.2.map fun x=>dT (putOp s.i s.r) x (bd+moreK t.kind))=b.2
   conv=>rhs;rw [← List.map_id b.2]
   refine List.map_congr_left fun x hx=>?_
   have:=hp _ (pts_sys hb hx)
   have h2:hsT x (s.i+(bd+moreK t.kind))=false:=by
    have:hsT x (s.i+bd+moreK t.kind)=false:=by simpa using this
    rw [← Nat.add_assoc];exact this
   exact d_same n x _ (by have:=blk_sub hb hx;omega) ((hne.2 b hb).2 x hx) h2
  rw [d_eq,e1,e2,e3]
  cases t
  rfl
end Go.Proofs.YtmblbmdchinflaaGreat
