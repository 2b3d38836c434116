/- The document's answer: Same tells whether two rows are alike; nothing that lay before the call turns. -/
import Derived.Deep.QuietTactic
import Derived.BigQuiet
import Derived.WalkSmall
import Derived.Test.YtinegcahhafddabDoorCRows
namespace Go.Proofs.YtinegcahhafddabDoor
open Go.RowKit
set_option linter.unusedVariables false
set_option linter.unusedSimpArgs false

theorem CRow.len {w : World} {v : Value} {l : List C} (h : CRow w v l) : ∃ a cap, v = .slice a l.length cap := by
  rcases h with ⟨a, cap, rfl, rfl⟩ | ⟨g, off, cap, rfl, _, _⟩
  · exact ⟨_, _, rfl⟩
  · exact ⟨_, _, rfl⟩
theorem CRow.cons {w : World} {v : Value} {l : List C} (h : CRow w v l) (hl : l ≠ []) : ∃ g off cap, v = .slice (some ⟨g, off, none⟩) l.length cap ∧ g < w.heap.size ∧ CellsC w g off l := by
  rcases h with ⟨a, cap, rfl, rfl⟩ | h
  · exact absurd rfl hl
  · exact h
theorem get_some {α : Type} {l : List α} {k : Nat} (h : k < l.length) : ∃ c, l[k]? = some c := ⟨l[k], List.getElem?_eq_getElem h⟩
theorem take_eq_step {l m : List C} {k : Nat} {c d : C} (h : l.take k = m.take k) (h1 : l[k]? = some c) (h2 : m[k]? = some d) (e : c = d) : l.take (k + 1) = m.take (k + 1) := by
  rw [List.take_add_one, List.take_add_one, h, h1, h2, e]
theorem c_ne {c d : C} (h : ¬ (c.1.val = d.1.val ∧ c.2.val = d.2.val)) : c ≠ d := by rintro rfl; exact h ⟨rfl, rfl⟩

end Go.Proofs.YtinegcahhafddabDoor
