/- Clauses in boxes, and the contracts of the small functions as they are met in a statement whose order is left open. -/
import Derived.Test.YtdikaomebbpmhabDoorCWorks
namespace Go.Proofs.YtdikaomebbpmhabDoor
open Go.RowKit Go.Sort
set_option linter.unusedVariables false
set_option linter.unusedSimpArgs false

/-- Block g holds the clause c. -/
def At (w : World) (g : Nat) (c : C) : Prop := w.cell? ⟨g, 0, none⟩ = some (.int .u32 (c.1.val : Int)) ∧ w.cell? ⟨g, 1, none⟩ = some (.int .u32 (c.2.val : Int)) ∧ g < w.heap.size
theorem At.below {w w' : World} {g : Nat} {c : C} (h : At w g c) (hb : Below w.heap.size w w') : At w' g c :=
  ⟨(hb.cell (p := ⟨g, 0, none⟩) h.2.2).trans h.1, (hb.cell (p := ⟨g, 1, none⟩) h.2.2).trans h.2.1, Nat.lt_of_lt_of_le h.2.2 hb.size⟩
theorem At.alloc {w : World} {g : Nat} {c : C} (h : At w g c) (o : Obj) : At (w.alloc o) g c := h.below (below_alloc w o)
theorem At.made (w : World) (c : C) (t : TypeId) : At (w.alloc (.cells #[.int .u32 (c.1.val : Int), .int .u32 (c.2.val : Int)] t)) w.heap.size c :=
  ⟨by simp [go_sem], by simp [go_sem], by simp⟩
theorem At.regrown {w : World} {g : Nat} {c : C} (h : At w g c) : (∀ d os, (grow (redrawn w d) os).cell? ⟨g, 0, none⟩ = some (.int .u32 (c.1.val : Int))) ∧ ∀ d os, (grow (redrawn w d) os).cell? ⟨g, 1, none⟩ = some (.int .u32 (c.2.val : Int)) :=
  ⟨fun d os => cell_regrown h.1 d os, fun d os => cell_regrown h.2.1 d os⟩

theorem bel_q (a b : C) (w : World) (d : Nat) (os : Array Obj) : Calls Tryd.prog 43 #[clV a, clV b] (grow (redrawn w d) os) fun e w'' => e = .returned (.bool (belC a b)) ∧ ∃ p : Regrown, w'' = grow (redrawn w p.d) p.os :=
  Calls.regrown_of ((bel_any a b _).mono fun _ _ h => ⟨h.1, h.2.below⟩)
theorem bel_qt (a b : C) (w : World) (d : Nat) (os : Array Obj) (h : belC a b = true) : Calls Tryd.prog 43 #[clV a, clV b] (grow (redrawn w d) os) fun e w'' => e = .returned (.bool true) ∧ ∃ p : Regrown, w'' = grow (redrawn w p.d) p.os := h ▸ bel_q a b w d os
theorem bel_qf (a b : C) (w : World) (d : Nat) (os : Array Obj) (h : belC a b = false) : Calls Tryd.prog 43 #[clV a, clV b] (grow (redrawn w d) os) fun e w'' => e = .returned (.bool false) ∧ ∃ p : Regrown, w'' = grow (redrawn w p.d) p.os := h ▸ bel_q a b w d os
theorem meet_q (a b : C) (w : World) (d : Nat) (os : Array Obj) : Calls Tryd.prog 28 #[clV a, clV b] (grow (redrawn w d) os) fun e w'' => e = .returned (clV (meetC a b)) ∧ ∃ p : Regrown, w'' = grow (redrawn w p.d) p.os :=
  Calls.regrown_of ((meet_any a b _).mono fun _ _ h => ⟨h.1, h.2.below⟩)
theorem clash_q (a : C) (w : World) (d : Nat) (os : Array Obj) : Calls Tryd.prog 7 #[clV a] (grow (redrawn w d) os) fun e w'' => e = .returned (.bool (clashC a)) ∧ ∃ p : Regrown, w'' = grow (redrawn w p.d) p.os :=
  Calls.regrown_of ((clash_any a _).mono fun _ _ h => ⟨h.1, h.2.below⟩)
end Go.Proofs.YtdikaomebbpmhabDoor
