/- The chapter's examples hold at the code: works() returns true; nothing that lay before the call turns. -/
import Derived.Test.YtdikaomebbpmhabDoorAEnt
import Derived.Test.YtdikaomebbpmhabDoorCWorks
namespace Go.Proofs.YtdikaomebbpmhabDoor
open Go.RowKit
set_option linter.unusedVariables false
set_option linter.unusedSimpArgs false

def q02 : C := (⟨0, by decide⟩, ⟨2, by decide⟩)
def q10 : C := (⟨1, by decide⟩, ⟨0, by decide⟩)
def q11 : C := (⟨1, by decide⟩, ⟨1, by decide⟩)
def q12 : C := (⟨1, by decide⟩, ⟨2, by decide⟩)
def q40 : C := (⟨4, by decide⟩, ⟨0, by decide⟩)
def q01 : C := (⟨0, by decide⟩, ⟨1, by decide⟩)
def q20 : C := (⟨2, by decide⟩, ⟨0, by decide⟩)
theorem exa_of : ofF [q02, q10] = ([q02, q10], 0) := by decide +kernel
theorem exa_of2 : ofF [q11] = ([], 0) := by decide +kernel
theorem exa_rst : rstA [q12, q40] q10 = ([q02, q40], 0) := by decide +kernel
theorem exa_all : allA [q01, q10, q20] 0 = ([q20], 0) := by decide +kernel
theorem alit (w : World) (l : List C) (cs : Array Value) (n : Nat) (h : cs.toList = flat l) (hn : l.length = n) (hm : n ≤ 1000) : FRow (w.alloc (.cells cs 25)) (.slice (some ⟨w.heap.size, 0, none⟩) n n) l :=
  ⟨row_lit w l cs n h hn (by omega), ⟨_, _, _, rfl, Nat.le_refl _⟩⟩

set_option maxRecDepth 100000 in
set_option maxHeartbeats 4000000 in
theorem aworks_any (w : World) : Calls Tryd.prog 4 #[] w fun e w' => e = .returned (.bool true) ∧ Below w.heap.size w w' := by
  have c1 := fun W => Of_any [q02, q10] _ _ (alit W [q02, q10] #[.int .u32 0, .int .u32 2, .int .u32 1, .int .u32 0] 2 rfl rfl (by omega)) (by simp)
  simp only [exa_of] at c1
  have c2 := fun W => Of_any [q11] _ _ (alit W [q11] #[.int .u32 1, .int .u32 1] 1 rfl rfl (by omega)) (by simp)
  simp only [exa_of2] at c2
  have c3 := fun W => Restrict_any [q12, q40] _ q10 _ (alit W [q12, q40] #[.int .u32 1, .int .u32 2, .int .u32 4, .int .u32 0] 2 rfl rfl (by omega)) (by simp)
  simp only [exa_rst] at c3
  have c4 := fun W => All_any [q01, q10, q20] _ 0 _ (alit W [q01, q10, q20] #[.int .u32 0, .int .u32 1, .int .u32 1, .int .u32 0, .int .u32 2, .int .u32 0] 3 rfl rfl (by omega)) (by simp)
  simp only [exa_all] at c4
  have c5 := fun W v (h : CRow W v [q02, q40]) => same_any [q02, q40] [q02, q40] v _ _ (h.below (below_alloc W _)) (row_lit W [q02, q40] #[.int .u32 0, .int .u32 2, .int .u32 4, .int .u32 0] 2 rfl rfl (by omega)) (by simp)
  have c6 := fun W v (h : CRow W v [q20]) => same_any [q20] [q20] v _ _ (h.below (below_alloc W _)) (row_lit W [q20] #[.int .u32 2, .int .u32 0] 1 rfl rfl (by omega)) (by simp)
  simp only [decide_true] at c5 c6
  have hB : Below w.heap.size w w := Below.refl _ _
  go_enter Tryd.func4, Tryd.ntmps4
  have hb := below_alloc w (.cells #[.int .u32 0, .int .u32 2, .int .u32 1, .int .u32 0] 25)
  go_wp2_with fail
  refine (c1 w).mono ?_
  rintro e w1 ⟨v1, rfl, hO1, hB1⟩
  clear c1
  replace hb := chain hb hB1
  replace hB := chain hB hb
  clear hb hB1
  obtain ⟨p1, q1, e1⟩ := OwnsC.len hO1
  replace e1 : v1 = .slice p1 2 q1 := e1
  subst e1
  have hb := below_alloc w1 (.cells #[.int .u32 1, .int .u32 1] 25)
  go_wp2_with fail
  refine (c2 w1).mono ?_
  rintro e w2 ⟨v2, rfl, hO2, hB2⟩
  clear c2
  replace hb := chain hb hB2
  replace hB := chain hB hb
  replace hO1 := OwnsC.below hO1 hb
  clear hb hB2
  obtain ⟨p2, q2, e2⟩ := OwnsC.len hO2
  replace e2 : v2 = .slice p2 0 q2 := e2
  subst e2
  have hb := below_alloc w2 (.cells #[.int .u32 1, .int .u32 2, .int .u32 4, .int .u32 0] 25)
  go_wp2_with fail
  refine (c3 w2).mono ?_
  rintro e w3 ⟨v3, rfl, hO3, hB3⟩
  clear c3
  replace hb := chain hb hB3
  replace hB := chain hB hb
  replace hO1 := OwnsC.below hO1 hb
  replace hO2 := OwnsC.below hO2 hb
  clear hb hB3
  obtain ⟨p3, q3, e3⟩ := OwnsC.len hO3
  replace e3 : v3 = .slice p3 2 q3 := e3
  subst e3
  have hb := below_alloc w3 (.cells #[.int .u32 0, .int .u32 1, .int .u32 1, .int .u32 0, .int .u32 2, .int .u32 0] 25)
  go_wp2_with fail
  refine (c4 w3).mono ?_
  rintro e w4 ⟨v4, rfl, hO4, hB4⟩
  clear c4
  replace hb := chain hb hB4
  replace hB := chain hB hb
  replace hO1 := OwnsC.below hO1 hb
  replace hO2 := OwnsC.below hO2 hb
  replace hO3 := OwnsC.below hO3 hb
  clear hb hB4
  obtain ⟨p4, q4, e4⟩ := OwnsC.len hO4
  replace e4 : v4 = .slice p4 1 q4 := e4
  subst e4
  have hb := below_alloc w4 (.cells #[.int .u32 0, .int .u32 2, .int .u32 4, .int .u32 0] 25)
  go_wp2_with fail
  refine (c5 w4 _ (OwnsC.row hO3)).mono ?_
  rintro e w5 ⟨rfl, hB5⟩
  clear c5
  replace hb := chain hb hB5
  replace hB := chain hB hb
  replace hO4 := OwnsC.below hO4 hb
  clear hb hB5
  have hb := below_alloc w5 (.cells #[.int .u32 2, .int .u32 0] 25)
  go_wp2_with fail
  refine (c6 w5 _ (OwnsC.row hO4)).mono ?_
  rintro e w6 ⟨rfl, hB6⟩
  clear c6
  replace hb := chain hb hB6
  replace hB := chain hB hb
  go_wp2
  go_ret
  exact ⟨rfl, hB⟩
end Go.Proofs.YtdikaomebbpmhabDoor
