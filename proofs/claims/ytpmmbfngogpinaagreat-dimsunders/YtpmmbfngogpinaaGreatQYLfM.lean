/- Lifts: what a term becomes, and what is refused first. -/
import Derived.Test.YtpmmbfngogpinaaGreatQFC
import Derived.Test.YtpmmbfngogpinaaGreatQY1
set_option linter.unusedVariables false
set_option linter.unusedSimpArgs false
namespace Go.Proofs.YtpmmbfngogpinaaGreat
open Go.RowKit
structure Sf where
 vf:Int
 vb:Int
 df:Int
 db:Int
def Sf.ok (s:Sf):Prop:=0≤s.vf∧s.vf≤9223372036854775807∧0≤s.vb∧s.vb≤1000000∧0≤s.df∧s.df≤9223372036854775807∧0≤s.db∧s.db≤1000000
def farB (s:Sf) (bv:Nat) (k n:Int):Prop:=k=1∧s.vf≤n - bv
instance (s:Sf) (bv:Nat) (k n:Int):Decidable (farB s bv k n):=by unfold farB;infer_instance
def firstE (l:List Int):Int:=l.foldr (fun a b=>if a=0 then b else a) 0
theorem firstE_nil:firstE []=0:=rfl
theorem firstE_cons (a:Int) (l:List Int):firstE (a :: l)=if a=0 then firstE l else a:=rfl
theorem firstE_append (l m:List Int):firstE (l++m)=if firstE l=0 then firstE m else firstE l:=by
 induction l with
 | nil=>simp [firstE_nil]
 | cons a l ih =>
  rw [List.cons_append,firstE_cons,firstE_cons,ih]
  by_cases h:a=0
  ·simp [h]
  ·simp [h]
theorem firstE_zero {l:List Int}:firstE l=0↔∀ x∈l,x=0:=by
 induction l with
 | nil=>simp [firstE_nil]
 | cons a l ih =>
  rw [firstE_cons]
  by_cases h:a=0
  ·simp [h,ih]
  ·simp [h]
theorem firstE_step {l:List Int} {k:Nat} {a:Int} (h:l[k]? = some a):firstE (l.take (k+1))=if firstE (l.take k)=0 then a else firstE (l.take k):=by
 rw [List.take_add_one,h,firstE_append]
 simp only [Option.toList_some,firstE_cons,firstE_nil]
 split
 ·split
  ·rename_i h2;rw [h2]
  ·rfl
 ·rfl
theorem firstE_stuck {l:List Int} {k:Nat} (h:firstE (l.take k)≠0):firstE l=firstE (l.take k):=by
 have e:=firstE_append (l.take k) (l.drop k)
 rw [List.take_append_drop] at e
 rw [e,if_neg h]
end Go.Proofs.YtpmmbfngogpinaaGreat
