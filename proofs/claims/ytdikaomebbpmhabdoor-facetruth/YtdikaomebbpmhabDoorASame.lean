/- same and great of the statements of the layer face. -/
import Derived.Test.YtdikaomebbpmhabDoorFApp
namespace Go.Proofs.YtdikaomebbpmhabDoor
open Go.RowKit
set_option linter.unusedVariables false
set_option linter.unusedSimpArgs false

theorem below_grownBy {w w' : World} (h : Below w.heap.size w w') (row : Option Nat) : w.grownBy w' row := ⟨h.os, h.tape, h.output, h.size, fun k hk _ => h.block k hk⟩
theorem grownBy_trans {a b c : World} {row : Option Nat} (h1 : a.grownBy b row) (h2 : b.grownBy c row) : a.grownBy c row :=
  ⟨h2.os.trans h1.os, h2.tape.trans h1.tape, h2.output.trans h1.output, Nat.le_trans h1.size h2.size, fun k hk hne => (h2.block k (Nat.lt_of_lt_of_le hk h1.size) hne).trans (h1.block k hk hne)⟩
theorem CRow.kept {w w' : World} {v : Value} {l : List C} {row : Option Nat} (h : CRow w v l) (hg : w.grownBy w' row) (hne : v.ownBlock = none ∨ v.ownBlock ≠ row) : CRow w' v l := by
  rcases h with h | ⟨g, off, cap, rfl, hgl, hc⟩
  · exact .inl h
  · have hne2 : some g ≠ row := by
      rcases hne with h | h
      · simp [Value.ownBlock] at h
      · exact h
    exact .inr ⟨g, off, cap, rfl, Nat.lt_of_lt_of_le hgl hg.size, fun j c hj => ⟨(hg.cell_far ⟨g, off + j * 2, none⟩ hgl hne2).trans (hc j c hj).1, (hg.cell_far ⟨g, off + j * 2 + 1, none⟩ hgl hne2).trans (hc j c hj).2⟩⟩

set_option maxHeartbeats 1000000 in
theorem great_any (pa pb : Option Addr) (n m ca cb : Nat) (w : World) : Calls Tryd.prog 5 #[.slice pa n ca, .slice pb m cb] w fun e w' => e = .returned (.bool (decide (24 < n) || decide (24 < m))) ∧ w' = w := by
  by_cases h : 24 < n
  · have h1 : (24 : Int) < (n : Int) := by omega
    go_enter Tryd.func5, Tryd.ntmps5
    go_wp2
    go_ret
    exact ⟨ret_bool (by simp [h]), rfl⟩
  · have h1 : ¬ ((24 : Int) < (n : Int)) := by omega
    by_cases h' : 24 < m
    · have h2 : (24 : Int) < (m : Int) := by omega
      go_enter Tryd.func5, Tryd.ntmps5
      go_wp2
      go_ret
      exact ⟨ret_bool (by simp [h, h']), rfl⟩
    · have h2 : ¬ ((24 : Int) < (m : Int)) := by omega
      go_enter Tryd.func5, Tryd.ntmps5
      go_wp2
      go_ret
      exact ⟨ret_bool (by simp [h, h']), rfl⟩
end Go.Proofs.YtdikaomebbpmhabDoor
