/- belowOne: is a clause below one of a row? Nothing that lay before the call turns. -/
import Derived.Lib.SliceRun
import Derived.Test.YtkklmioejgpknaaCSame
import Derived.Test.YtkklmioejgpknaaCLay
namespace Go.Proofs.Ytkklmioejgpknaa
open Go.RowKit Go.Shelf
set_option linter.unusedVariables false
set_option linter.unusedSimpArgs false

theorem pred_any (c : C) (B : Nat) (w : World) (hB : B < w.heap.size) (h0 : w.cell? ⟨B, 0, none⟩ = some (.int .u32 (c.1.val : Int))) (h1 : w.cell? ⟨B, 1, none⟩ = some (.int .u32 (c.2.val : Int))) :
    PredBelow Try.prog 88 #[.pointer (some ⟨B, 0, none⟩)] (fun x => .agg (encC x).toArray) (fun x => belC c x) w := fun W x hb => by
  have g0 : W.cell? ⟨B, 0, none⟩ = some (.int .u32 (c.1.val : Int)) := (hb.cell (p := ⟨B, 0, none⟩) hB).trans h0
  have g1 : W.cell? ⟨B, 1, none⟩ = some (.int .u32 (c.2.val : Int)) := (hb.cell (p := ⟨B, 1, none⟩) hB).trans h1
  have hBW : B < W.heap.size := Nat.lt_of_lt_of_le hB hb.size
  have hne : B ≠ W.heap.size := by omega
  show Calls Try.prog 88 #[clV x, .pointer (some ⟨B, 0, none⟩)] W _
  go_enter Try.func88, Try.ntmps88
  go_wp2_with (go_at_call 69; refine (bel_any c x _).mono ?_; rintro e w' ⟨rfl, hG⟩)
  go_ret
  exact ⟨rfl, (hb.alloc hb.size _).trans (hG.below.mono (by have := hb.size; simp; omega))⟩

set_option maxHeartbeats 400000 in
theorem index_none (a : Option Addr) (cap : Nat) (f : Value) (w : World) :
    Calls Try.prog 72 #[.slice a 0 cap, f] w fun e w' => e = .returned (.int .i64 (-1)) ∧ w' = w := by
  go_enter Try.func72, Try.ntmps72
  go_wp2
  go_loop [8] (fun i => i = .int .i64 0) (fun _ => 0)
  case atStart => rfl
  case round =>
    subst hrel
    go_wp2
    go_ret
    exact ⟨rfl, rfl⟩
theorem has_none (a : Option Addr) (cap : Nat) (f : Value) (w : World) :
    Calls Try.prog 44 #[.slice a 0 cap, f] w fun e w' => e = .returned (.bool false) ∧ w' = w := by
  go_enter Try.func44, Try.ntmps44
  go_wp2_with (go_at_call 72; refine (index_none _ _ _ _).mono ?_; rintro e w' ⟨rfl, rfl⟩)
  go_ret
  exact ⟨rfl, rfl⟩

set_option maxHeartbeats 1000000 in
theorem belowOne_any (c : C) (l : List C) (v : Value) (w : World) (hv : CRow w v l) (hl : l.length ≤ 100000) :
    Calls Try.prog 78 #[clV c, v] w fun e w' => e = .returned (.bool (l.any (fun b => belC c b))) ∧ Below w.heap.size w w' := by
  have eg : ∀ args w, (callFunc 88 args).run Try.prog w = .ok (.enter 88 args) w := enters_of Try.func88 (by kernel_rfl) rfl
  by_cases hz : l = []
  · subst hz
    obtain ⟨a, cap, rfl⟩ := hv.len
    clear hv
    go_enter Try.func78, Try.ntmps78
    go_wp2_with (go_at_call 44; refine (has_none _ _ _ _).mono ?_; rintro e w' ⟨rfl, rfl⟩)
    go_ret
    exact ⟨rfl, below_alloc _ _⟩
  · obtain ⟨g, off, cap, rfl, hg, hc⟩ := hv.cons hz
    clear hv
    have hcon := AnyQ.slices_ContainsFunc hasC 2 Try.isAgg52 Try.sizeOf52 encC (fun _ => rfl) (fun x => belC c x) 88 #[.pointer (some ⟨w.heap.size, 0, none⟩)] eg g off l.length cap l (w.alloc (.cells #[.int .u32 (c.1.val : Int), .int .u32 (c.2.val : Int)] 52))
      (pred_any c w.heap.size _ (by simp) (by simp [go_sem]) (by simp [go_sem])) (Nat.le_refl _) (by omega) (by simp; omega) (fun j hj i u hi => by
        refine Lib.cell?_alloc_some _ ?_
        have h1 := hc j l[j] (List.getElem?_eq_getElem hj)
        have e : l[j]! = l[j] := getElem!_pos l j hj
        rw [e] at hi
        match i, hi with
        | 0, hi => simp [encC] at hi; rw [← hi]; exact h1.1
        | 1, hi => simp [encC] at hi; rw [← hi]; exact h1.2
        | i + 2, hi => simp [encC] at hi)
    change Calls Try.prog 44 _ _ _ at hcon
    rw [List.take_of_length_le (Nat.le_refl _)] at hcon
    clear hc
    generalize l.any (fun b => belC c b) = r at hcon ⊢
    go_enter Try.func78, Try.ntmps78
    go_wp2_with (go_at_call 44; refine hcon.mono ?_; rintro e w' ⟨rfl, hb'⟩)
    go_ret
    exact ⟨rfl, (below_alloc w _).trans (hb'.mono (by simp))⟩
end Go.Proofs.Ytkklmioejgpknaa
