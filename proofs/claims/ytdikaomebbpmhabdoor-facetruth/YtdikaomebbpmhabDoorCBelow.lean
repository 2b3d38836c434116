/- belowOne: is a clause below one of a row? Nothing that lay before the call turns. -/
import Derived.Lib.SliceRun
import Derived.Test.YtdikaomebbpmhabDoorCSame
import Derived.Test.YtdikaomebbpmhabDoorCLay
namespace Go.Proofs.YtdikaomebbpmhabDoor
open Go.RowKit Go.Shelf
set_option linter.unusedVariables false
set_option linter.unusedSimpArgs false

theorem pred_any (c : C) (B : Nat) (w : World) (hB : B < w.heap.size) (h0 : w.cell? ⟨B, 0, none⟩ = some (.int .u32 (c.1.val : Int))) (h1 : w.cell? ⟨B, 1, none⟩ = some (.int .u32 (c.2.val : Int))) :
    PredBelow Tryd.prog 55 #[.pointer (some ⟨B, 0, none⟩)] (fun x => .agg (encC x).toArray) (fun x => belC c x) w := fun W x hb => by
  have g0 : W.cell? ⟨B, 0, none⟩ = some (.int .u32 (c.1.val : Int)) := (hb.cell (p := ⟨B, 0, none⟩) hB).trans h0
  have g1 : W.cell? ⟨B, 1, none⟩ = some (.int .u32 (c.2.val : Int)) := (hb.cell (p := ⟨B, 1, none⟩) hB).trans h1
  have hBW : B < W.heap.size := Nat.lt_of_lt_of_le hB hb.size
  have hne : B ≠ W.heap.size := by omega
  show Calls Tryd.prog 55 #[clV x, .pointer (some ⟨B, 0, none⟩)] W _
  go_enter Tryd.func55, Tryd.ntmps55
  go_wp2_with (go_at_call 43; refine (bel_any c x _).mono ?_; rintro e w' ⟨rfl, hG⟩)
  go_ret
  exact ⟨rfl, (hb.alloc hb.size _).trans (hG.below.mono (by have := hb.size; simp; omega))⟩

set_option maxHeartbeats 400000 in
theorem index_none (a : Option Addr) (cap : Nat) (f : Value) (w : World) :
    Calls Tryd.prog 56 #[.slice a 0 cap, f] w fun e w' => e = .returned (.int .i64 (-1)) ∧ w' = w := by
  go_enter Tryd.func56, Tryd.ntmps56
  go_wp2
  go_loop [8] (fun i => i = .int .i64 0) (fun _ => 0)
  case atStart => rfl
  case round =>
    subst hrel
    go_wp2
    go_ret
    exact ⟨rfl, rfl⟩
theorem has_none (a : Option Addr) (cap : Nat) (f : Value) (w : World) :
    Calls Tryd.prog 41 #[.slice a 0 cap, f] w fun e w' => e = .returned (.bool false) ∧ w' = w := by
  go_enter Tryd.func41, Tryd.ntmps41
  go_wp2_with (go_at_call 56; refine (index_none _ _ _ _).mono ?_; rintro e w' ⟨rfl, rfl⟩)
  go_ret
  exact ⟨rfl, rfl⟩

set_option maxHeartbeats 1000000 in
theorem belowOne_any (c : C) (l : List C) (v : Value) (w : World) (hv : CRow w v l) (hl : l.length ≤ 100000) :
    Calls Tryd.prog 40 #[clV c, v] w fun e w' => e = .returned (.bool (l.any (fun b => belC c b))) ∧ Below w.heap.size w w' := by
  have eg : ∀ args w, (callFunc 55 args).run Tryd.prog w = .ok (.enter 55 args) w := enters_of Tryd.func55 (by kernel_rfl) rfl
  by_cases hz : l = []
  · subst hz
    obtain ⟨a, cap, rfl⟩ := hv.len
    clear hv
    go_enter Tryd.func40, Tryd.ntmps40
    go_wp2_with (go_at_call 41; refine (has_none _ _ _ _).mono ?_; rintro e w' ⟨rfl, rfl⟩)
    go_ret
    exact ⟨rfl, below_alloc _ _⟩
  · obtain ⟨g, off, cap, rfl, hg, hc⟩ := hv.cons hz
    clear hv
    have hcon := AnyQ.slices_ContainsFunc hasC 2 Tryd.isAgg25 Tryd.sizeOf25 encC (fun _ => rfl) (fun x => belC c x) 55 #[.pointer (some ⟨w.heap.size, 0, none⟩)] eg g off l.length cap l (w.alloc (.cells #[.int .u32 (c.1.val : Int), .int .u32 (c.2.val : Int)] 25))
      (pred_any c w.heap.size _ (by simp) (by simp [go_sem]) (by simp [go_sem])) (Nat.le_refl _) (by omega) (by simp; omega) (fun j hj i u hi => by
        refine Lib.cell?_alloc_some _ ?_
        have h1 := hc j l[j] (List.getElem?_eq_getElem hj)
        have e : l[j]! = l[j] := getElem!_pos l j hj
        rw [e] at hi
        match i, hi with
        | 0, hi => simp [encC] at hi; rw [← hi]; exact h1.1
        | 1, hi => simp [encC] at hi; rw [← hi]; exact h1.2
        | i + 2, hi => simp [encC] at hi)
    change Calls Tryd.prog 41 _ _ _ at hcon
    rw [List.take_of_length_le (Nat.le_refl _)] at hcon
    clear hc
    generalize l.any (fun b => belC c b) = r at hcon ⊢
    go_enter Tryd.func40, Tryd.ntmps40
    go_wp2_with (go_at_call 41; refine hcon.mono ?_; rintro e w' ⟨rfl, hb'⟩)
    go_ret
    exact ⟨rfl, (below_alloc w _).trans (hb'.mono (by simp))⟩
end Go.Proofs.YtdikaomebbpmhabDoor
