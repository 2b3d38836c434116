/- A row of clauses of its own memory: slices.Clone. -/
import Derived.Laws.Cover3
import Derived.Test.YtocfamcclfhkcaaGreatYApp
import Derived.Test.YtocfamcclfhkcaaGreatYLo
namespace Go.Proofs.YtocfamcclfhkcaaGreat
open Go.RowKit
set_option linter.unusedVariables false
set_option linter.unusedSimpArgs false

theorem empty_own (w : World) (base : Nat) (hb : base ≤ w.heap.size) : OwnsC (w.alloc (.cells #[] 65)) base (.slice (some ⟨w.heap.size, 0, none⟩) 0 0) [] :=
  ⟨rfl, .inr ⟨w.heap.size, 0, #[], rfl, hb, heapNew w _, Nat.le_refl _, by unfold maxLen; omega, rfl, rfl⟩⟩
/-- A row that may be written, in blocks from base on. -/
theorem OwnsC.cl {w : World} {base : Nat} {v : Value} {l : List C} (h : OwnsC w base v l) : ClRow (fun q => base ≤ q) w l v := by
  rcases h.form with ⟨rfl, rfl⟩ | ⟨g, cap, rfl, hb, hg, hc⟩
  · exact cl_nil _ _
  · refine ⟨_, _, rfl, ?_, fun j c hj => ⟨g, 0, rfl, hb, hg, hc j c hj⟩⟩
    rcases h.2 with ⟨e, _⟩ | ⟨g', cap', cur, e, _, _, hn, _⟩
    · cases e
    · cases e; exact hn
theorem eqlNil (a : Option Addr) (n cap : Nat) (w : World) : (binOp .eql 22 (.slice a n cap) (.slice none 0 0)).run Tryz.prog w = .ok (.bool a.isNone) w := by
  have : binOp .eql 22 (.slice a n cap) (.slice none 0 0) = (do pure (.bool (← Op.equal 22 (.slice a n cap) (.slice none 0 0)))) := rfl
  rw [this]
  simp [Sem.run_bind, run_equal_slice_nil w 22 65 a n cap Tryz.underlying22, Result.andThen]
set_option maxRecDepth 100000 in
set_option maxHeartbeats 2000000 in
theorem clone_any (l : List C) (v : Value) (w : World) (hv : ClRow Tt w l v) (hl : l.length ≤ 100000) :
    Calls Tryz.prog 105 #[v] w fun e w' => ∃ v', e = .returned v' ∧ OwnsC w' w.heap.size v' l ∧ Below w.heap.size w w' := by
  have hr := hv.row
  obtain ⟨a, cap, rfl, _, hc⟩ := id hv
  have Hr : Hid (∀ w1, Below w.heap.size w w1 → CRow w1 (.slice a l.length cap) l) := fun w1 h => hr.below h
  have Hl : Hid (l.length ≤ 100000) := hl
  have hE := empty_own w w.heap.size (Nat.le_refl _)
  have hB3 := belowA w (.cells #[] 65)
  cases a with
  | none =>
    have hz : l = [] := by
      cases l with
      | nil => rfl
      | cons x l => obtain ⟨g, off, e, _⟩ := hc 0 x rfl; cases e
    subst hz
    have he := eqlNil none 0 cap w
    simp only [Option.isNone_none] at he
    go_enter Tryz.func105, Tryz.ntmps105
    go_wp2
    go_ret
    exact ⟨_, rfl, World.ownsRow_nil _ _ _ _, Below.refl _ _⟩
  | some ad =>
    obtain ⟨n, hn⟩ : ∃ n, n = l.length := ⟨_, rfl⟩
    rw [← hn] at Hr ⊢
    have he := eqlNil (some ad) n cap w
    simp only [Option.isNone_some] at he
    clear hr hc hv hn hl
    go_enter Tryz.func105, Tryz.ntmps105
    go_wp2_with (at_builtin; refine wpList_append_row rfl _ _ rfl w.heap.size _ _ [] l rfl rfl hE (Hr.out _ hB3) (by have := Hl.out; simp; omega) hB3.size ?_; intro v4 w4 hO4 hg4 hv4; have hB4 := hB3.trans (own_grown hE hg4 hB3.size))
    go_ret
    exact ⟨_, rfl, hO4, hB4⟩
end Go.Proofs.YtocfamcclfhkcaaGreat
