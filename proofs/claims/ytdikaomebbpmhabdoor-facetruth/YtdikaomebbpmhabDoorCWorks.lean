/- The chapter's examples hold at the code: works() returns true; nothing that lay before the call turns. -/
import Derived.Test.YtdikaomebbpmhabDoorCLeast
namespace Go.Proofs.YtdikaomebbpmhabDoor
open Go.RowKit
set_option linter.unusedVariables false
set_option linter.unusedSimpArgs false

def cl30 : C := (⟨3, by decide⟩, ⟨0, by decide⟩)
def cl10 : C := (⟨1, by decide⟩, ⟨0, by decide⟩)
def cl24 : C := (⟨2, by decide⟩, ⟨4, by decide⟩)
def cl00 : C := (⟨0, by decide⟩, ⟨0, by decide⟩)
def cl13 : C := (⟨1, by decide⟩, ⟨3, by decide⟩)
def ex1 : List C := [cl30, cl10, cl24, cl10]
def ex2 : List C := [cl00, cl10]
theorem isLeast_of {l M : List C} (h1 : risesC M) (h2 : ∀ c ∈ M, c ∈ l ∧ neededB l c = true) (h3 : ∀ c ∈ l, neededB l c = true → c ∈ M) : IsLeast l M :=
  ⟨h1, fun c => ⟨h2 c, fun h => h3 c h.1 h.2⟩⟩
theorem ex1_least : LeastIs ex1 [cl10, cl24] 0 := by
  refine .inr ⟨by decide +kernel, _, isLeast_of ?_ ?_ ?_, .inl ⟨by decide, rfl, rfl⟩⟩
  · unfold risesC; decide +kernel
  · decide +kernel
  · decide +kernel
theorem ex2_least : LeastIs ex2 [cl00] 0 := by
  refine .inr ⟨by decide +kernel, _, isLeast_of ?_ ?_ ?_, .inl ⟨by decide, rfl, rfl⟩⟩
  · unfold risesC; decide +kernel
  · decide +kernel
  · decide +kernel
theorem row_lit (w : World) (l : List C) (cs : Array Value) (n : Nat) (h : cs.toList = flat l) (hn : l.length = n) (hm : n ≤ 100000) : CRow (w.alloc (.cells cs 25)) (.slice (some ⟨w.heap.size, 0, none⟩) n n) l := by
  have hs : cs.size = n * 2 := by
    have := congrArg List.length h
    rw [flat_length, hn] at this
    simpa using this
  have h1 := World.ownsRow_lit (base := 0) (e := 25) (size := 2) w cs n (Nat.zero_le _) (by unfold maxLen; omega) hs
  rw [h, ← hn] at h1
  rw [← hn]
  exact OwnsC.row (base := 0) h1
theorem least_lit (l M : List C) (hM : LeastIs l M 0) (cs : Array Value) (n : Nat) (h : cs.toList = flat l) (hn : l.length = n) (hm : n ≤ 100000) (w : World) :
    Calls Tryd.prog 20 #[.slice (some ⟨w.heap.size, 0, none⟩) n n] (w.alloc (.cells cs 25)) fun e w' => ∃ v', e = .returned (.tuple #[v', .int .i64 0]) ∧ CRow w' v' M ∧ Below w.heap.size w w' := by
  refine (least_any l _ _ (row_lit w l cs n h hn hm) (by omega)).mono ?_
  rintro e w' ⟨v', M', er, rfl, hL, hO, hB⟩
  obtain ⟨rfl, rfl⟩ := hL.unique hM
  exact ⟨v', rfl, OwnsC.row hO, (below_alloc w _).trans (hB.mono (by simp))⟩
theorem same_lit (l : List C) (cs : Array Value) (n : Nat) (h : cs.toList = flat l) (hn : l.length = n) (hm : n ≤ 100000) (v : Value) (w : World) (hv : CRow w v l) :
    Calls Tryd.prog 14 #[v, .slice (some ⟨w.heap.size, 0, none⟩) n n] (w.alloc (.cells cs 25)) fun e w' => e = .returned (.bool true) ∧ Below w.heap.size w w' := by
  refine (same_any l l _ _ _ (hv.below (below_alloc w _)) (row_lit w l cs n h hn hm) (by omega)).mono ?_
  rintro e w' ⟨rfl, hB⟩
  exact ⟨by simp, (below_alloc w _).trans (hB.mono (by simp))⟩
theorem clash_ex (w : World) : Calls Tryd.prog 7 #[.agg #[.int .u32 1, .int .u32 3]] w fun e w' => e = .returned (.bool true) ∧ Below w.heap.size w w' := by
  refine (clash_any cl13 w).mono ?_
  rintro e w' ⟨rfl, hG⟩
  exact ⟨by rw [show clashC cl13 = true by decide +kernel], hG.below⟩

end Go.Proofs.YtdikaomebbpmhabDoor
