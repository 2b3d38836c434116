/- Small facts on rows of clauses; One. -/
import Derived.Test.YtinegcahhafddabDoorFRight
namespace Go.Proofs.YtinegcahhafddabDoor
open Go.RowKit
set_option linter.unusedVariables false
set_option linter.unusedSimpArgs false

theorem OwnsC.below {w w' : World} {base : Nat} {v : Value} {l : List C} (h : OwnsC w base v l) (hb : Below w.heap.size w w') : OwnsC w' base v l := by
  have hlt := World.ownsRow.lt h
  obtain ⟨h1, h2⟩ := h
  refine ⟨h1, h2.imp id ?_⟩
  rintro ⟨g, cap, cur, rfl, hg, hh, r⟩
  exact ⟨g, cap, cur, rfl, hg, (hb.block g (hlt g rfl).2).trans hh, r⟩
theorem row_lit (w : World) (l : List C) (cs : Array Value) (n : Nat) (h : cs.toList = flat l) (hn : l.length = n) (hm : n ≤ 100000) : CRow (w.alloc (.cells cs 31)) (.slice (some ⟨w.heap.size, 0, none⟩) n n) l := by
  have hs : cs.size = n * 2 := by
    have := congrArg List.length h
    rw [flat_length, hn] at this
    simpa using this
  have h1 := World.ownsRow_lit (base := 0) (e := 31) (size := 2) w cs n (Nat.zero_le _) (by unfold maxLen; omega) hs
  rw [h, ← hn] at h1
  rw [← hn]
  exact OwnsC.row (base := 0) h1
theorem OwnsC.len {w : World} {base : Nat} {v : Value} {l : List C} (h : OwnsC w base v l) : ∃ a cap, v = .slice a l.length cap := (OwnsC.row h).len
/-- The cells of a row, wherever it is empty too. -/
theorem CRow.at {w : World} {a0 : Option Addr} {n cap : Nat} {l : List C} (hv : CRow w (.slice a0 n cap) l) {k : Nat} {c : C} (hk : l[k]? = some c) : ∃ g off, a0 = some ⟨g, off, none⟩ ∧ g < w.heap.size ∧ w.cell? ⟨g, off + k * 2, none⟩ = some (.int .u32 (c.1.val : Int)) ∧ w.cell? ⟨g, off + k * 2 + 1, none⟩ = some (.int .u32 (c.2.val : Int)) := by
  have hz : l ≠ [] := by rintro rfl; simp at hk
  obtain ⟨g, off, cap2, e, hg, hc⟩ := hv.cons hz
  have e2 : a0 = some ⟨g, off, none⟩ := by injection e
  exact ⟨g, off, e2, hg, (hc k c hk).1, (hc k c hk).2⟩
theorem own_one1 (w : World) (c : C) (base : Nat) (hb : base ≤ w.heap.size) : OwnsC (w.alloc (.cells #[.int .u32 (c.1.val : Int), .int .u32 (c.2.val : Int)] 31)) base (.slice (some ⟨w.heap.size, 0, none⟩) 1 1) [c] :=
  World.ownsRow_lit (base := base) (e := 31) (size := 2) w #[.int .u32 (c.1.val : Int), .int .u32 (c.2.val : Int)] 1 hb (by unfold maxLen; omega) rfl
theorem one_any (w : World) : Calls Tryd.prog 10 #[] w fun e w' => ∃ v, e = .returned v ∧ OwnsC w' w.heap.size v [top0] ∧ Below w.heap.size w w' := by
  go_enter Tryd.func10, Tryd.ntmps10
  go_wp2
  go_ret
  exact ⟨_, rfl, own_one1 w top0 _ (Nat.le_refl _), below_alloc _ _⟩
end Go.Proofs.YtinegcahhafddabDoor
