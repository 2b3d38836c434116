/- Slices of numbers in memory: owned, and read. -/
import Derived.WalkKit
import Derived.Laws.OwnMore
import Derived.OwnWalk
import Derived.Test.YtdikaomebbpmhabDoorProg
import Derived.Test.YtdikaomebbpmhabDoorMathAll
import Derived.Test.YtdikaomebbpmhabDoorBase
namespace Go.Proofs.YtdikaomebbpmhabDoor
open Go.RowKit

theorem Tryd.infoInt : (Tryd.prog.info? 3).map (fun i => (i.zero, i.size, i.bytes)) = some (some (.int .i64 0), 1, 8) := by kernel_rfl

/-- A number as an int of Go's. -/
def encI (k : Nat) : Value := .int .i64 (k : Int)

/-- The slice value v owns the numbers l, in a block from 'base' on. -/
def OwnsL (w : World) (base : Nat) (v : Value) (l : List Nat) : Prop := w.ownsRow base 3 1 v l.length (l.map encI)
/-- The slice value v can be read as the numbers l. -/
def RowAt (w : World) (v : Value) (l : List Nat) : Prop :=
  (v = .slice none 0 0 ∧ l = []) ∨ ∃ g cap, v = .slice (some ⟨g, 0, none⟩) l.length cap ∧ g < w.heap.size ∧ ∀ j, j < l.length → w.cell? ⟨g, j, none⟩ = some (.int .i64 ((l[j]?.getD 0 : Nat) : Int))
theorem OwnsL.rowAt {w : World} {base : Nat} {v : Value} {l : List Nat} (h : OwnsL w base v l) : RowAt w v l := by
  have h0 := h
  obtain ⟨h1, h2 | ⟨g, cap, cur, rfl, hg, hh, hn, hc, hs, ht⟩⟩ := h
  · exact .inl ⟨h2.1, List.length_eq_zero_iff.1 h2.2⟩
  · refine .inr ⟨g, cap, rfl, ?_, fun j hj => ?_⟩
    · exact (World.ownsRow.lt h0 g rfl).2
    · have := World.ownsRow.cellAt h0 j (by omega)
      rw [this]
      simp [encI, hj]
theorem RowAt.below {w w' : World} {v : Value} {l : List Nat} (h : RowAt w v l) (hb : Below w.heap.size w w') : RowAt w' v l := by
  rcases h with h | ⟨g, cap, rfl, hg, hc⟩
  · exact .inl h
  · exact .inr ⟨g, cap, rfl, Nat.lt_of_lt_of_le hg hb.size, fun j hj => (hb.cell (p := ⟨g, j, none⟩) hg).trans (hc j hj)⟩
end Go.Proofs.YtdikaomebbpmhabDoor
