/- Lifts: what a term becomes, and what is refused first. -/
import Derived.Test.YtocfamcclfhkcaaGreatFC
import Derived.Test.YtocfamcclfhkcaaGreatYMath
namespace Go.Proofs.YtocfamcclfhkcaaGreat
open Go.RowKit
set_option linter.unusedVariables false
set_option linter.unusedSimpArgs false

/-- From where on, and by how much: variables, dimensions. -/
structure Sf where
  vf : Int
  vb : Int
  df : Int
  db : Int
def Sf.ok (s : Sf) : Prop := 0 ≤ s.vf ∧ s.vf ≤ 9223372036854775807 ∧ 0 ≤ s.vb ∧ s.vb ≤ 1000000 ∧ 0 ≤ s.df ∧ s.df ≤ 9223372036854775807 ∧ 0 ≤ s.db ∧ s.db ≤ 1000000
/-- A number of the outside, from the place on. -/
def farB (s : Sf) (bv : Nat) (k n : Int) : Prop := k = 1 ∧ s.vf ≤ n - bv
instance (s : Sf) (bv : Nat) (k n : Int) : Decidable (farB s bv k n) := by unfold farB; infer_instance
def numE (s : Sf) (bv : Nat) (k n : Int) : Int := if farB s bv k n ∧ 1000000000 - s.vb < n then 100 else 0
def numV (s : Sf) (bv : Nat) (k n : Int) : Int := if farB s bv k n then n + s.vb else n
def rowP (s : Sf) (bd : Nat) (r : List C) : List C × Int := if s.db = 0 then (r, 0) else liftFF r (min s.df 24 + bd) s.db
/-- The first that is not 0. -/
def firstE (l : List Int) : Int := l.foldr (fun a b => if a = 0 then b else a) 0
theorem firstE_nil : firstE [] = 0 := rfl
theorem firstE_cons (a : Int) (l : List Int) : firstE (a :: l) = if a = 0 then firstE l else a := rfl
theorem firstE_append (l m : List Int) : firstE (l ++ m) = if firstE l = 0 then firstE m else firstE l := by
  induction l with
  | nil => simp [firstE_nil]
  | cons a l ih =>
    rw [List.cons_append, firstE_cons, firstE_cons, ih]
    by_cases h : a = 0
    · simp [h]
    · simp [h]
theorem firstE_zero {l : List Int} : firstE l = 0 ↔ ∀ x ∈ l, x = 0 := by
  induction l with
  | nil => simp [firstE_nil]
  | cons a l ih =>
    rw [firstE_cons]
    by_cases h : a = 0
    · simp [h, ih]
    · simp [h]
theorem firstE_mem {l : List Int} (h : firstE l ≠ 0) : firstE l ∈ l := by
  induction l with
  | nil => exact absurd firstE_nil h
  | cons a l ih =>
    rw [firstE_cons] at h ⊢
    by_cases h0 : a = 0
    · simp only [h0, if_true] at h ⊢; exact List.mem_cons_of_mem _ (ih h)
    · simp [h0]
theorem firstE_step {l : List Int} {k : Nat} {a : Int} (h : l[k]? = some a) : firstE (l.take (k + 1)) = if firstE (l.take k) = 0 then a else firstE (l.take k) := by
  rw [List.take_add_one, h, firstE_append]
  simp only [Option.toList_some, firstE_cons, firstE_nil]
  split
  · split
    · rename_i h2; rw [h2]
    · rfl
  · rfl
theorem firstE_stuck {l : List Int} {k : Nat} (h : firstE (l.take k) ≠ 0) : firstE l = firstE (l.take k) := by
  have e := firstE_append (l.take k) (l.drop k)
  rw [List.take_append_drop] at e
  rw [e, if_neg h]
/-- What a term becomes. -/
def liT (s : Sf) : Tm → Nat → Nat → Tm := Tm.fold fun k n nm r ks sys bv bd =>
  .mk k (numV s bv k n) nm (rowP s bd r).1 (ks.zipIdx.map fun p => p.1 (bv + bvK k p.2) (bd + bdK k p.2)) (sys.map fun b => ((rowP s bd b.1).1, b.2.map fun f => f bv (bd + moreK k)))
def liK (s : Sf) (k : Int) (l : List Tm) (bv bd : Nat) : List Tm := l.zipIdx.map fun p => liT s p.1 (bv + bvK k p.2) (bd + bdK k p.2)
def liB (s : Sf) (k : Int) (b : List C × List Tm) (bv bd : Nat) : List C × List Tm := ((rowP s bd b.1).1, b.2.map fun x => liT s x bv (bd + moreK k))
theorem li_eq (s : Sf) (t : Tm) (bv bd : Nat) : liT s t bv bd = .mk t.kind (numV s bv t.kind t.n) t.name (rowP s bd t.r).1 (liK s t.kind t.kids bv bd) (t.sys.map fun b => liB s t.kind b bv bd) := by
  unfold liT
  rw [fold_mk]
  simp only [List.zipIdx_map, List.map_map, Function.comp_def, Prod.map]
  rfl
/-- What is refused first. -/
def erT (s : Sf) : Tm → Nat → Nat → Int := Tm.fold fun k n nm r ks sys bv bd =>
  firstE (numE s bv k n :: (rowP s bd r).2 :: ((ks.zipIdx.map fun p => p.1 (bv + bvK k p.2) (bd + bdK k p.2)) ++ sys.map fun b => firstE ((rowP s bd b.1).2 :: b.2.map fun f => f bv (bd + moreK k))))
def erK (s : Sf) (k : Int) (l : List Tm) (bv bd : Nat) : List Int := l.zipIdx.map fun p => erT s p.1 (bv + bvK k p.2) (bd + bdK k p.2)
def erB (s : Sf) (k : Int) (b : List C × List Tm) (bv bd : Nat) : Int := firstE ((rowP s bd b.1).2 :: b.2.map fun x => erT s x bv (bd + moreK k))
theorem er_eq (s : Sf) (t : Tm) (bv bd : Nat) : erT s t bv bd = firstE (numE s bv t.kind t.n :: (rowP s bd t.r).2 :: (erK s t.kind t.kids bv bd ++ t.sys.map fun b => erB s t.kind b bv bd)) := by
  unfold erT
  rw [fold_mk]
  simp only [List.zipIdx_map, List.map_map, Function.comp_def, Prod.map]
  rfl
theorem liK_len (s : Sf) (k : Int) (l : List Tm) (bv bd : Nat) : (liK s k l bv bd).length = l.length := by simp [liK]
theorem erK_len (s : Sf) (k : Int) (l : List Tm) (bv bd : Nat) : (erK s k l bv bd).length = l.length := by simp [erK]
theorem liK_get {s : Sf} {k : Int} {l : List Tm} {bv bd i : Nat} {x : Tm} (h : l[i]? = some x) : (liK s k l bv bd)[i]? = some (liT s x (bv + bvK k i) (bd + bdK k i)) := by
  unfold liK; rw [List.getElem?_map, List.getElem?_zipIdx, h]; simp
theorem erK_get {s : Sf} {k : Int} {l : List Tm} {bv bd i : Nat} {x : Tm} (h : l[i]? = some x) : (erK s k l bv bd)[i]? = some (erT s x (bv + bvK k i) (bd + bdK k i)) := by
  unfold erK; rw [List.getElem?_map, List.getElem?_zipIdx, h]; simp
/-- The terms that are lifted: no number below 0, a variable has no row. -/
def Fm : Tm → Prop := Tm.fold fun k n _ r ks sys => 0 ≤ n ∧ (k = 1 → r = []) ∧ (∀ p ∈ ks, p) ∧ ∀ b ∈ sys, ∀ p ∈ b.2, p
theorem fm_eq (t : Tm) : Fm t ↔ (0 ≤ t.n ∧ (t.kind = 1 → t.r = []) ∧ (∀ x ∈ t.kids, Fm x) ∧ ∀ b ∈ t.sys, ∀ x ∈ b.2, Fm x) := by
  unfold Fm
  rw [fold_mk]
  simp only [List.mem_map, forall_exists_index, and_imp, forall_apply_eq_imp_iff₂]
theorem rowP_nil (s : Sf) (bd : Nat) : (rowP s bd []).2 = 0 := by
  unfold rowP
  split
  · rfl
  · have e1 : rightF [] = true := by decide
    have e2 : leastF [] = ([], 0) := by decide
    simp [liftFF, liftS, e1, e2]
theorem num_row {s : Sf} {bv bd : Nat} {t : Tm} (h : Fm t) (hn : numE s bv t.kind t.n ≠ 0) : (rowP s bd t.r).2 = 0 := by
  have h1 : t.kind = 1 := by
    unfold numE at hn
    split at hn
    · rename_i h2; exact h2.1.1
    · exact absurd rfl hn
  rw [((fm_eq t).1 h).2.1 h1]
  exact rowP_nil s bd
end Go.Proofs.YtocfamcclfhkcaaGreat
