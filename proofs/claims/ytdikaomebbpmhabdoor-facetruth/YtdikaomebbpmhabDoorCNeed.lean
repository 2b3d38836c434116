/- The document's answer: needed tells whether a clause is below no other one of a row; nothing that lay before the call turns. -/
import Derived.BigQuiet
import Derived.Test.YtdikaomebbpmhabDoorWCovers
namespace Go.Proofs.YtdikaomebbpmhabDoor
open Go.RowKit Go.Sort
set_option linter.unusedVariables false
set_option linter.unusedSimpArgs false

theorem needed_take_step {l : List C} {k : Nat} {c d : C} (h : l[k]? = some d) : neededB (l.take (k + 1)) c = (neededB (l.take k) c && (decide (d = c) || !belC c d)) := by
  have e : l.take (k + 1) = l.take k ++ [d] := by rw [List.take_add_one, h]; rfl
  rw [e, neededB, List.all_append, neededB]
  simp
theorem not_needed {l : List C} {k : Nat} {c d : C} (h : l[k]? = some d) (hne : d ≠ c) (hb : belC c d = true) : neededB l c = false := by
  cases hn : neededB l c
  · rfl
  · exact absurd (needed_iff.1 hn d (List.mem_of_getElem? h) hb) hne

end Go.Proofs.YtdikaomebbpmhabDoor
