/- The chapter's examples hold at the code: works() returns true; nothing that lay before the call turns. told. -/
import Derived.Test.YtkklmioejgpknaaFPutC
namespace Go.Proofs.Ytkklmioejgpknaa
open Go.RowKit
set_option linter.unusedVariables false
set_option linter.unusedSimpArgs false

def cl01 : C := (⟨0, by decide⟩, ⟨1, by decide⟩)
def cl02 : C := (⟨0, by decide⟩, ⟨2, by decide⟩)
def cl11 : C := (⟨1, by decide⟩, ⟨1, by decide⟩)
theorem ex_dim : dimF 0 = ([cl10], 0) := by decide +kernel
theorem ex_not : notF [cl30] = ([cl01, cl02], 0) := by decide +kernel
theorem ex_meet : meetF [cl10] [cl01] = ([cl11], 0) := by decide +kernel
theorem ex_put : putF [cl01, cl10] 0 [] = ([top0], 0) := by decide +kernel
theorem frow_lit (w : World) (l : List C) (cs : Array Value) (n : Nat) (h : cs.toList = flat l) (hn : l.length = n) (hm : n ≤ 1000) : FRow (w.alloc (.cells cs 52)) (.slice (some ⟨w.heap.size, 0, none⟩) n n) l :=
  ⟨row_lit w l cs n h hn (by omega), ⟨_, _, _, rfl, Nat.le_refl _⟩⟩
theorem frow_nil (w : World) : FRow w (.slice none 0 0) [] := ⟨.inl ⟨_, _, rfl, rfl⟩, ⟨_, _, _, rfl, Nat.le_refl _⟩⟩

set_option maxRecDepth 100000 in
set_option maxHeartbeats 2000000 in
theorem fworks_any (w : World) : Calls Try.prog 10 #[] w fun e w' => e = .returned (.bool true) ∧ Below w.heap.size w w' := by
  have c1 := dim_any 0 w
  rw [ex_dim] at c1
  have c2 := fun W => Not_any [cl30] _ _ (frow_lit W [cl30] #[.int .u32 3, .int .u32 0] 1 rfl rfl (by omega)) (by simp)
  simp only [ex_not] at c2
  have c3 := fun W v (h : FRow W v [cl10]) => Meet_any [cl10] [cl01] v _ _ (h.below (below_alloc W _)) (frow_lit W [cl01] #[.int .u32 0, .int .u32 1] 1 rfl rfl (by omega)) (by simp) (by simp)
  simp only [ex_meet] at c3
  have c4 := fun W => Put_any [cl01, cl10] [] 0 _ _ _ (frow_lit W [cl01, cl10] #[.int .u32 0, .int .u32 1, .int .u32 1, .int .u32 0] 2 rfl rfl (by omega)) (frow_nil _) (by simp) (by simp)
  simp only [ex_put] at c4
  have c5 := fun W v (h : CRow W v [cl01, cl02]) => same_any [cl01, cl02] [cl01, cl02] v _ _ (h.below (below_alloc W _)) (row_lit W [cl01, cl02] #[.int .u32 0, .int .u32 1, .int .u32 0, .int .u32 2] 2 rfl rfl (by omega)) (by simp)
  have c6 := fun W v (h : CRow W v [cl11]) => same_any [cl11] [cl11] v _ _ (h.below (below_alloc W _)) (row_lit W [cl11] #[.int .u32 1, .int .u32 1] 1 rfl rfl (by omega)) (by simp)
  have c7 := fun W v u (h : CRow W v [top0]) (h' : CRow W u [top0]) => same_any [top0] [top0] v u W h h' (by simp)
  simp only [decide_true] at c5 c6 c7
  go_enter Try.func10, Try.ntmps10
  go_wp2_with fail
  refine c1.mono ?_
  rintro e w1 ⟨v1, rfl, hO1, hB1⟩
  clear c1
  obtain ⟨p1, q1, rfl⟩ := OwnsC.len hO1
  have hb1 := below_alloc w1 (.cells #[.int .u32 3, .int .u32 0] 52)
  go_wp2_with fail
  refine (c2 w1).mono ?_
  rintro e w2 ⟨v2, rfl, hO2, hB2⟩
  clear c2
  obtain ⟨p2, q2, rfl⟩ := OwnsC.len hO2
  have hB12 := chain hb1 hB2
  have hO1' := OwnsC.below hO1 hB12
  have hb2 := below_alloc w2 (.cells #[.int .u32 0, .int .u32 1] 52)
  go_wp2_with fail
  refine (c3 w2 _ (OwnsC.frow hO1')).mono ?_
  rintro e w3 ⟨v3, rfl, hO3, hB3⟩
  clear c3
  obtain ⟨p3, q3, rfl⟩ := OwnsC.len hO3
  have hB23 := chain hb2 hB3
  have hO2' := OwnsC.below hO2 hB23
  have hb3 := below_alloc w3 (.cells #[.int .u32 0, .int .u32 1, .int .u32 1, .int .u32 0] 52)
  go_wp2_with fail
  refine (c4 w3).mono ?_
  rintro e w4 ⟨v4, rfl, hO4, hB4⟩
  clear c4
  obtain ⟨p4, q4, rfl⟩ := OwnsC.len hO4
  have hB34 := chain hb3 hB4
  have hO2'' := OwnsC.below hO2' hB34
  have hO3' := OwnsC.below hO3 hB34
  have hb4 := below_alloc w4 (.cells #[.int .u32 0, .int .u32 1, .int .u32 0, .int .u32 2] 52)
  go_wp2_with fail
  refine (c5 w4 _ (OwnsC.row hO2'')).mono ?_
  rintro e w5 ⟨rfl, hB5⟩
  clear c5
  have hB45 := chain hb4 hB5
  have hO3'' := OwnsC.below hO3' hB45
  have hO4' := OwnsC.below hO4 hB45
  have hb5 := below_alloc w5 (.cells #[.int .u32 1, .int .u32 1] 52)
  go_wp2_with fail
  refine (c6 w5 _ (OwnsC.row hO3'')).mono ?_
  rintro e w6 ⟨rfl, hB6⟩
  clear c6
  have hB56 := chain hb5 hB6
  have hO4'' := OwnsC.below hO4' hB56
  go_wp2_with fail
  refine (one_any w6).mono ?_
  rintro e w7 ⟨v7, rfl, hO7, hB7⟩
  have cc := c7 w7 _ _ (OwnsC.row (OwnsC.below hO4'' hB7)) (OwnsC.row hO7)
  obtain ⟨p7, q7, rfl⟩ := OwnsC.len hO7
  clear c7
  go_wp2_with fail
  refine cc.mono ?_
  rintro e w8 ⟨rfl, hB8⟩
  clear cc
  go_wp2_with (go_at_call 31; refine (zero_any _).mono ?_; rintro e w9 ⟨rfl, hw9⟩; replace hw9 := hw9.symm; subst hw9)
  go_ret
  exact ⟨rfl, chain (chain (chain (chain (chain (chain (chain hB1 hB12) hB23) hB34) hB45) hB56) hB7) hB8⟩
theorem told_any (v : Value) (er : Int) (w : World) (hv : ∃ a n c, v = .slice a n c) : Calls Try.prog 29 #[v, .int .i64 er] w fun e w' => e = .returned (.tuple #[v, .bool (er == 0)]) ∧ w' = w := by
  obtain ⟨a, n, c, rfl⟩ := hv
  go_enter Try.func29, Try.ntmps29
  go_wp2
  go_ret2
  exact ⟨rfl, rfl⟩
end Go.Proofs.Ytkklmioejgpknaa
