/- Rows of clauses with their room; belowOne of the layer formula. -/
import Derived.Test.YtdikaomebbpmhabDoorCRLeast
import Derived.Test.YtdikaomebbpmhabDoorMathAll
namespace Go.Proofs.YtdikaomebbpmhabDoor
open Go.RowKit Go.Shelf Go.Sort
set_option linter.unusedVariables false
set_option linter.unusedSimpArgs false

/-- A row of clauses, with room for all of them. -/
structure FRow (w : World) (v : Value) (l : List C) : Prop where
  row : CRow w v l
  cap : ∃ a n cap, v = .slice a n cap ∧ n ≤ cap
theorem FRow.below {w w' : World} {v : Value} {l : List C} (h : FRow w v l) (hb : Below w.heap.size w w') : FRow w' v l := ⟨h.row.below hb, h.cap⟩
theorem OwnsC.frow {w : World} {base : Nat} {v : Value} {l : List C} (h : OwnsC w base v l) : FRow w v l :=
  ⟨OwnsC.row h, by
    rcases h.2 with ⟨rfl, hz⟩ | ⟨g, cap, cur, rfl, _, _, hn, _⟩
    · exact ⟨_, _, _, rfl, Nat.le_refl _⟩
    · exact ⟨_, _, _, rfl, hn⟩⟩
theorem FRow.form {w : World} {v : Value} {l : List C} (h : FRow w v l) (hl : l ≠ []) : ∃ g off cap, v = .slice (some ⟨g, off, none⟩) l.length cap ∧ l.length ≤ cap ∧ g < w.heap.size ∧ CellsC w g off l := by
  obtain ⟨g, off, cap, rfl, hg, hc⟩ := h.row.cons hl
  obtain ⟨a, n, cap', e, hle⟩ := h.cap
  injection e with e1 e2 e3
  subst e2 e3
  exact ⟨g, off, cap, rfl, hle, hg, hc⟩
theorem FRow.len {w : World} {v : Value} {l : List C} (h : FRow w v l) : ∃ a cap, v = .slice a l.length cap := h.row.len

theorem fpred_any (c : C) (B : Nat) (w : World) (hB : B < w.heap.size) (h0 : w.cell? ⟨B, 0, none⟩ = some (.int .u32 (c.1.val : Int))) (h1 : w.cell? ⟨B, 1, none⟩ = some (.int .u32 (c.2.val : Int))) :
    PredBelow Tryd.prog 49 #[.pointer (some ⟨B, 0, none⟩)] (fun x => .agg (encC x).toArray) (fun x => belC c x) w := fun W x hb => by
  have g0 : W.cell? ⟨B, 0, none⟩ = some (.int .u32 (c.1.val : Int)) := (hb.cell (p := ⟨B, 0, none⟩) hB).trans h0
  have g1 : W.cell? ⟨B, 1, none⟩ = some (.int .u32 (c.2.val : Int)) := (hb.cell (p := ⟨B, 1, none⟩) hB).trans h1
  have hBW : B < W.heap.size := Nat.lt_of_lt_of_le hB hb.size
  have hne : B ≠ W.heap.size := by omega
  show Calls Tryd.prog 49 #[clV x, .pointer (some ⟨B, 0, none⟩)] W _
  go_enter Tryd.func49, Tryd.ntmps49
  go_wp2_with (go_at_call 43; refine (bel_any c x _).mono ?_; rintro e w' ⟨rfl, hG⟩)
  go_ret
  exact ⟨rfl, (hb.alloc hb.size _).trans (hG.below.mono (by have := hb.size; simp; omega))⟩

set_option maxHeartbeats 1000000 in
theorem fbelowOne_any (c : C) (l : List C) (v : Value) (w : World) (hv : CRow w v l) (hl : l.length ≤ 100000) :
    Calls Tryd.prog 33 #[clV c, v] w fun e w' => e = .returned (.bool (l.any (fun b => belC c b))) ∧ Below w.heap.size w w' := by
  have eg : ∀ args w, (callFunc 49 args).run Tryd.prog w = .ok (.enter 49 args) w := enters_of Tryd.func49 (by kernel_rfl) rfl
  by_cases hz : l = []
  · subst hz
    obtain ⟨a, cap, rfl⟩ := hv.len
    clear hv
    go_enter Tryd.func33, Tryd.ntmps33
    go_wp2_with (go_at_call 41; refine (has_none _ _ _ _).mono ?_; rintro e w' ⟨rfl, rfl⟩)
    go_ret
    exact ⟨rfl, below_alloc _ _⟩
  · obtain ⟨g, off, cap, rfl, hg, hc⟩ := hv.cons hz
    clear hv
    have hcon := AnyQ.slices_ContainsFunc hasC 2 Tryd.isAgg25 Tryd.sizeOf25 encC (fun _ => rfl) (fun x => belC c x) 49 #[.pointer (some ⟨w.heap.size, 0, none⟩)] eg g off l.length cap l (w.alloc (.cells #[.int .u32 (c.1.val : Int), .int .u32 (c.2.val : Int)] 25))
      (fpred_any c w.heap.size _ (by simp) (by simp [go_sem]) (by simp [go_sem])) (Nat.le_refl _) (by omega) (by simp; omega) (fun j hj i u hi => by
        refine Lib.cell?_alloc_some _ ?_
        have h1 := hc j l[j] (List.getElem?_eq_getElem hj)
        have e : l[j]! = l[j] := getElem!_pos l j hj
        rw [e] at hi
        match i, hi with
        | 0, hi => simp [encC] at hi; rw [← hi]; exact h1.1
        | 1, hi => simp [encC] at hi; rw [← hi]; exact h1.2
        | i + 2, hi => simp [encC] at hi)
    change Calls Tryd.prog 41 _ _ _ at hcon
    rw [List.take_of_length_le (Nat.le_refl _)] at hcon
    clear hc
    generalize l.any (fun b => belC c b) = r at hcon ⊢
    go_enter Tryd.func33, Tryd.ntmps33
    go_wp2_with (go_at_call 41; refine hcon.mono ?_; rintro e w' ⟨rfl, hb'⟩)
    go_ret
    exact ⟨rfl, (below_alloc w _).trans (hb'.mono (by simp))⟩
end Go.Proofs.YtdikaomebbpmhabDoor
