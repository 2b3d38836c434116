/- Rows of clauses in memory: owned, and read. -/
import Derived.WalkKit
import Derived.Laws.OwnMore
import Derived.OwnWalk
import Derived.Deep.Onto
import Derived.Test.YtdikaomebbpmhabDoorCBase
namespace Go.Proofs.YtdikaomebbpmhabDoor
open Go.RowKit
set_option linter.unusedVariables false
set_option linter.unusedSimpArgs false

theorem Tryd.infoC : (Tryd.prog.info? 25).map (fun i => (i.zero, i.size, i.bytes)) = some (some (.agg #[.int .u32 0, .int .u32 0]), 2, 8) := by kernel_rfl

/-- A clause's two cells. -/
def encC (c : C) : List Value := [.int .u32 (c.1.val : Int), .int .u32 (c.2.val : Int)]
def flat (l : List C) : List Value := l.flatMap encC
theorem flat_nil : flat [] = [] := rfl
theorem flat_append (l m : List C) : flat (l ++ m) = flat l ++ flat m := by simp [flat]
theorem flat_one (c : C) : flat [c] = encC c := by simp [flat]
theorem flat_length (l : List C) : (flat l).length = l.length * 2 := by
  induction l with
  | nil => rfl
  | cons c l ih =>
    have e : flat (c :: l) = encC c ++ flat l := rfl
    rw [e, List.length_append, ih]
    simp [encC]
    omega
theorem flat_get0 (l : List C) (j : Nat) : (flat l)[j * 2]? = l[j]?.map (fun c => .int .u32 (c.1.val : Int)) := by
  induction l generalizing j with
  | nil => simp [flat]
  | cons c l ih =>
    have e : flat (c :: l) = .int .u32 (c.1.val : Int) :: .int .u32 (c.2.val : Int) :: flat l := rfl
    rw [e]
    cases j with
    | zero => rfl
    | succ j =>
      have e2 : (j + 1) * 2 = j * 2 + 1 + 1 := by omega
      rw [e2, List.getElem?_cons_succ, List.getElem?_cons_succ, ih, List.getElem?_cons_succ]
theorem flat_get1 (l : List C) (j : Nat) : (flat l)[j * 2 + 1]? = l[j]?.map (fun c => .int .u32 (c.2.val : Int)) := by
  induction l generalizing j with
  | nil => simp [flat]
  | cons c l ih =>
    have e : flat (c :: l) = .int .u32 (c.1.val : Int) :: .int .u32 (c.2.val : Int) :: flat l := rfl
    rw [e]
    cases j with
    | zero => rfl
    | succ j =>
      have e2 : (j + 1) * 2 + 1 = j * 2 + 1 + 1 + 1 := by omega
      rw [e2, List.getElem?_cons_succ, List.getElem?_cons_succ, ih, List.getElem?_cons_succ]
theorem flat_oneCell (l : List C) : ∀ u ∈ flat l, u.oneCell' = true := by
  intro u hu
  obtain ⟨c, _, hc⟩ := List.mem_flatMap.1 hu
  simp [encC] at hc
  rcases hc with rfl | rfl <;> rfl

/-- The slice value v owns the clauses l, in a block from 'base' on. -/
def OwnsC (w : World) (base : Nat) (v : Value) (l : List C) : Prop := w.ownsRow base 25 2 v l.length (flat l)
/-- The cells from a place on hold the clauses l. -/
def CellsC (w : World) (g off : Nat) (l : List C) : Prop :=
  ∀ j c, l[j]? = some c → w.cell? ⟨g, off + j * 2, none⟩ = some (.int .u32 (c.1.val : Int)) ∧ w.cell? ⟨g, off + j * 2 + 1, none⟩ = some (.int .u32 (c.2.val : Int))
/-- The slice value v can be read as the clauses l. -/
def CRow (w : World) (v : Value) (l : List C) : Prop :=
  (∃ a cap, v = .slice a 0 cap ∧ l = []) ∨ ∃ g off cap, v = .slice (some ⟨g, off, none⟩) l.length cap ∧ g < w.heap.size ∧ CellsC w g off l
theorem CellsC.below {w w' : World} {B g off : Nat} {l : List C} (h : CellsC w g off l) (hb : Below B w w') (hg : g < B) : CellsC w' g off l :=
  fun j c hj => ⟨(hb.cell (p := ⟨g, off + j * 2, none⟩) hg).trans (h j c hj).1, (hb.cell (p := ⟨g, off + j * 2 + 1, none⟩) hg).trans (h j c hj).2⟩
theorem OwnsC.cells {w : World} {base g cap : Nat} {l : List C} (h : OwnsC w base (.slice (some ⟨g, 0, none⟩) l.length cap) l) : CellsC w g 0 l := by
  intro j c hj
  have hlt : j < l.length := by
    rcases Nat.lt_or_ge j l.length with h1 | h1
    · exact h1
    · rw [List.getElem?_eq_none h1] at hj; exact absurd hj (by simp)
  have e1 := World.ownsRow.cellAt h (j * 2) (by omega)
  have e2 := World.ownsRow.cellAt h (j * 2 + 1) (by omega)
  rw [flat_get0, hj] at e1
  rw [flat_get1, hj] at e2
  rw [Nat.zero_add]
  exact ⟨e1, e2⟩
theorem OwnsC.form {w : World} {base : Nat} {v : Value} {l : List C} (h : OwnsC w base v l) : (v = .slice none 0 0 ∧ l = []) ∨ ∃ g cap, v = .slice (some ⟨g, 0, none⟩) l.length cap ∧ base ≤ g ∧ g < w.heap.size ∧ CellsC w g 0 l := by
  have h0 := h
  obtain ⟨h1, h2 | ⟨g, cap, cur, rfl, hg, hh, hn, hc, hs, ht⟩⟩ := h
  · exact .inl ⟨h2.1, List.length_eq_zero_iff.1 h2.2⟩
  · exact .inr ⟨g, cap, rfl, hg, (World.ownsRow.lt h0 g rfl).2, OwnsC.cells h0⟩
theorem OwnsC.row {w : World} {base : Nat} {v : Value} {l : List C} (h : OwnsC w base v l) : CRow w v l := by
  rcases h.form with ⟨rfl, rfl⟩ | ⟨g, cap, rfl, hb, hg, hc⟩
  · exact .inl ⟨_, _, rfl, rfl⟩
  · exact .inr ⟨g, 0, cap, rfl, hg, hc⟩
theorem CRow.below {w w' : World} {v : Value} {l : List C} (h : CRow w v l) (hb : Below w.heap.size w w') : CRow w' v l := by
  rcases h with h | ⟨g, off, cap, rfl, hg, hc⟩
  · exact .inl h
  · exact .inr ⟨g, off, cap, rfl, Nat.lt_of_lt_of_le hg hb.size, hc.below hb hg⟩
theorem chain {a b c : World} (h1 : Below a.heap.size a b) (h2 : Below b.heap.size b c) : Below a.heap.size a c := h1.trans (h2.mono h1.size)
theorem below_alloc (w : World) (o : Obj) : Below w.heap.size w (w.alloc o) := (Below.refl _ _).alloc (Nat.le_refl _) _
theorem OwnsC.mono {w : World} {base base' : Nat} {v : Value} {l : List C} (h : OwnsC w base v l) (hb : base' ≤ base) : OwnsC w base' v l := World.ownsRow.mono h hb
end Go.Proofs.YtdikaomebbpmhabDoor
