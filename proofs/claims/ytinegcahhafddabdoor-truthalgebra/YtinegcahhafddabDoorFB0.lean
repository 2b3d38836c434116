/- Clauses in boxes. -/
import Derived.Lib.QuietBelow
import Derived.Deep.RegionHeld3
import Derived.Test.YtinegcahhafddabDoorCBelow
import Derived.Test.YtinegcahhafddabDoorCCmp
namespace Go.Proofs.YtinegcahhafddabDoor
open Go.RowKit Go.Sort
set_option linter.unusedVariables false
set_option linter.unusedSimpArgs false

/-- Block g holds the clause c. -/
def At (w : World) (g : Nat) (c : C) : Prop := w.cell? ⟨g, 0, none⟩ = some (.int .u32 (c.1.val : Int)) ∧ w.cell? ⟨g, 1, none⟩ = some (.int .u32 (c.2.val : Int)) ∧ g < w.heap.size
theorem At.below {w w' : World} {g : Nat} {c : C} (h : At w g c) (hb : Below w.heap.size w w') : At w' g c :=
  ⟨(hb.cell (p := ⟨g, 0, none⟩) h.2.2).trans h.1, (hb.cell (p := ⟨g, 1, none⟩) h.2.2).trans h.2.1, Nat.lt_of_lt_of_le h.2.2 hb.size⟩
theorem At.alloc {w : World} {g : Nat} {c : C} (h : At w g c) (o : Obj) : At (w.alloc o) g c := h.below (below_alloc w o)
theorem At.made (w : World) (c : C) (t : TypeId) : At (w.alloc (.cells #[.int .u32 (c.1.val : Int), .int .u32 (c.2.val : Int)] t)) w.heap.size c :=
  ⟨by simp [go_sem], by simp [go_sem], by simp⟩
theorem At.regrown {w : World} {g : Nat} {c : C} (h : At w g c) : (∀ d os, (grow (redrawn w d) os).cell? ⟨g, 0, none⟩ = some (.int .u32 (c.1.val : Int))) ∧ ∀ d os, (grow (redrawn w d) os).cell? ⟨g, 1, none⟩ = some (.int .u32 (c.2.val : Int)) :=
  ⟨fun d os => cell_regrown h.1 d os, fun d os => cell_regrown h.2.1 d os⟩
theorem CellsC.take {W : World} {go o : Nat} {l' : List C} (h : CellsC W go o l') (s : Nat) : CellsC W go o (l'.take s) := fun j c hj => by
  rw [List.getElem?_take] at hj
  split at hj
  · exact h j c hj
  · cases hj
/-- Elements j of a row, in every world of the class. -/
theorem CellsC.regrown {w : World} {g off : Nat} {l : List C} (h : CellsC w g off l) {j : Nat} {c : C} (hj : l[j]? = some c) : (∀ d os, (grow (redrawn w d) os).cell? ⟨g, off + j * 2, none⟩ = some (.int .u32 (c.1.val : Int))) ∧ ∀ d os, (grow (redrawn w d) os).cell? ⟨g, off + j * 2 + 1, none⟩ = some (.int .u32 (c.2.val : Int)) :=
  ⟨fun d os => cell_regrown (h j c hj).1 d os, fun d os => cell_regrown (h j c hj).2 d os⟩
end Go.Proofs.YtinegcahhafddabDoor
