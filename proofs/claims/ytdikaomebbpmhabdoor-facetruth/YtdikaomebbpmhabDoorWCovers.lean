/- The walk of the law ClauseCovers: the call returns true; nothing that lay before it turns. -/
import Derived.BigQuiet
import Derived.Test.YtdikaomebbpmhabDoorCBox
namespace Go.Proofs.YtdikaomebbpmhabDoor
open Go.RowKit Go.Sort
set_option linter.unusedVariables false
set_option linter.unusedSimpArgs false

theorem bel_qv (a b : C) (w : World) (d : Nat) (os : Array Obj) {x : Bool} (h : belC a b = x) : Calls Tryd.prog 43 #[clV a, clV b] (grow (redrawn w d) os) fun e w'' => e = .returned (.bool x) ∧ ∃ p : Regrown, w'' = grow (redrawn w p.d) p.os := h ▸ bel_q a b w d os
/-- Elements j of a row, in every world of the class. -/
theorem CellsC.regrown {w : World} {g off : Nat} {l : List C} (h : CellsC w g off l) {j : Nat} {c : C} (hj : l[j]? = some c) : (∀ d os, (grow (redrawn w d) os).cell? ⟨g, off + j * 2, none⟩ = some (.int .u32 (c.1.val : Int))) ∧ ∀ d os, (grow (redrawn w d) os).cell? ⟨g, off + j * 2 + 1, none⟩ = some (.int .u32 (c.2.val : Int)) :=
  ⟨fun d os => cell_regrown (h j c hj).1 d os, fun d os => cell_regrown (h j c hj).2 d os⟩
theorem take_contains_step {l : List C} {j : Nat} {c d : C} (h : l[j]? = some d) : (l.take (j + 1)).contains c = ((l.take j).contains c || decide (d = c)) := by
  have e : l.take (j + 1) = l.take j ++ [d] := by rw [List.take_add_one, h]; rfl
  rw [e, Bool.eq_iff_iff]
  simp only [List.contains_iff_mem, List.mem_append, List.mem_singleton, Bool.or_eq_true, decide_eq_true_eq]
  exact or_congr Iff.rfl eq_comm
theorem take_any_step {M : List C} {j : Nat} {c d : C} (h : M[j]? = some d) : (M.take (j + 1)).any (fun b => belC c b) = ((M.take j).any (fun b => belC c b) || belC c d) := by
  have e : M.take (j + 1) = M.take j ++ [d] := by rw [List.take_add_one, h]; rfl
  rw [e, List.any_append]
  simp
theorem nodup_ne {M : List C} (h : M.Nodup) {i j : Nat} {c d : C} (hi : M[i]? = some c) (hj : M[j]? = some d) (hne : i ≠ j) : c ≠ d := by
  obtain ⟨h1, rfl⟩ := List.getElem?_eq_some_iff.1 hi
  obtain ⟨h2, rfl⟩ := List.getElem?_eq_some_iff.1 hj
  rcases Nat.lt_or_gt_of_ne hne with h3 | h3
  · exact (List.pairwise_iff_getElem.1 h) i j h1 h2 h3
  · exact ((List.pairwise_iff_getElem.1 h) j i h2 h1 h3).symm

end Go.Proofs.YtdikaomebbpmhabDoor
