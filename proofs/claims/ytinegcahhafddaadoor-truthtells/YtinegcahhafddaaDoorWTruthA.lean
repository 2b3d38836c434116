/- The walks of the laws TruthValues, TruthEvals, TruthTells and TruthDecides. -/
import Derived.Test.YtinegcahhafddaaDoorTWorks
import Derived.Test.YtinegcahhafddaaDoorRTell
namespace Go.Proofs.YtinegcahhafddaaDoor
open Go.RowKit
set_option linter.unusedVariables false
set_option linter.unusedSimpArgs false

set_option maxRecDepth 100000 in
set_option maxHeartbeats 2000000 in
theorem walk_TruthValues (a : Int) (ha : (Lit.int .i64 a).wf = true) (b : Int) (hb : (Lit.int .i64 b).wf = true) (w : World) (hT : Tabs w) :
    Calls Tryd.prog 3 #[.int .i64 a, .int .i64 b] w fun e w' => e = .returned (.bool true) ∧ Below w.heap.size w w' := by
  have c1 := tMeet_any a b w hT
  have c2 := fun W => rtMeet_any a b W
  have c3 := fun W (h : Below w.heap.size w W) => tJoin_any a b W (hT.below h)
  have c4 := fun W => rtJoin_any a b W
  have c5 := fun W (h : Below w.heap.size w W) => tNot_any a W (hT.below h)
  have c6 := fun W => rtNot_any a W
  have c7 := fun W (h : Below w.heap.size w W) => tworks_any W (hT.below h)
  clear hT ha hb
  generalize mtV a b = x1 at *
  generalize jnV a b = x2 at *
  generalize ntV a = x3 at *
  go_enter Tryd.func3, Tryd.ntmps3
  go_wp2_with fail
  refine c1.mono ?_
  rintro e w1 ⟨rfl, hB⟩
  clear c1
  go_wp2_with fail
  refine (c2 w1).mono ?_
  rintro e w0 ⟨rfl, hw0⟩
  replace hw0 := hw0.symm
  subst hw0
  clear c2
  replace c3 := c3 w1 hB
  go_wp2_with fail
  refine c3.mono ?_
  rintro e w2 ⟨rfl, hB2⟩
  clear c3
  replace hB := chain hB hB2
  clear hB2
  go_wp2_with fail
  refine (c4 w2).mono ?_
  rintro e w0 ⟨rfl, hw0⟩
  replace hw0 := hw0.symm
  subst hw0
  clear c4
  replace c5 := c5 w2 hB
  go_wp2_with fail
  refine c5.mono ?_
  rintro e w3 ⟨rfl, hB2⟩
  clear c5
  replace hB := chain hB hB2
  clear hB2
  go_wp2_with fail
  refine (c6 w3).mono ?_
  rintro e w0 ⟨rfl, hw0⟩
  replace hw0 := hw0.symm
  subst hw0
  clear c6
  replace c7 := c7 w3 hB
  go_wp2_with fail
  refine c7.mono ?_
  rintro e w4 ⟨rfl, hB2⟩
  clear c7
  replace hB := chain hB hB2
  clear hB2
  go_wp2
  go_ret
  exact ⟨rfl, hB⟩

set_option maxRecDepth 100000 in
set_option maxHeartbeats 2000000 in
theorem walk_TruthEvals (f : List C) (vf : Value) (l : List Int) (va : Value) (w : World) (hf : FRow w vf f) (ha : RowZ w va l) (hT : Tabs w) :
    Calls Tryd.prog 4 #[vf, va] w fun e w' => e = .returned (.bool true) ∧ Below w.heap.size w w' := by
  by_cases hbig : 80 < f.length
  · have c1 := tworks_any w hT
    obtain ⟨pf, cf, rfl⟩ := hf.len
    clear hf ha hT
    generalize f.length = nf at *
    have hbig' : (80 : Int) < (nf : Int) := by omega
    go_enter Tryd.func4, Tryd.ntmps4
    go_wp2_with fail
    refine c1.mono ?_
    rintro e w1 ⟨rfl, hB⟩
    clear c1
    go_wp2
    go_ret
    exact ⟨rfl, hB⟩
  · have c1 := Eval_any f l vf va w hT hf ha (by omega)
    have c2 := fun W (h : Below w.heap.size w W) => rEval_any f l vf va W (hf.row.below h) (ha.below h) (by omega)
    have c3 := fun W (h : Below w.heap.size w W) => tworks_any W (hT.below h)
    obtain ⟨pf, cf, rfl⟩ := hf.len
    obtain ⟨pa, ca, rfl⟩ := ha.len
    clear hf ha hT
    generalize f.length = nf at *
    generalize l.length = nl at *
    have hbig' : ¬ ((80 : Int) < (nf : Int)) := by omega
    generalize evalF f (atZ l) = P at *
    obtain ⟨M, er⟩ := P
    simp only at c1 c2
    go_enter Tryd.func4, Tryd.ntmps4
    go_wp2_with fail
    refine c1.mono ?_
    rintro e w1 ⟨rfl, hB⟩
    clear c1
    replace c2 := c2 w1 hB
    go_wp2_with fail
    refine c2.mono ?_
    rintro e w2 ⟨rfl, hB2⟩
    clear c2
    replace hB := chain hB hB2
    clear hB2
    replace c3 := c3 w2 hB
    go_wp2_with fail
    refine c3.mono ?_
    rintro e w3 ⟨rfl, hB2⟩
    clear c3
    replace hB := chain hB hB2
    clear hB2
    go_wp2
    go_ret
    exact ⟨rfl, hB⟩

set_option maxRecDepth 100000 in
set_option maxHeartbeats 2000000 in
theorem tells_big (f g : List C) (vf vg : Value) (w : World) (hf : FRow w vf f) (hg : FRow w vg g) (hT : Tabs w) (hbig : 80 < f.length ∨ 80 < g.length) :
    Calls Tryd.prog 5 #[vf, vg] w fun e w' => e = .returned (.bool true) ∧ Below w.heap.size w w' := by
  have c1 := tworks_any w hT
  obtain ⟨pf, cf, rfl⟩ := hf.len
  obtain ⟨pg, cg, rfl⟩ := hg.len
  clear hf hg hT
  generalize f.length = nf at *
  generalize g.length = ng at *
  by_cases h1 : 80 < nf
  · have h1' : (80 : Int) < (nf : Int) := by omega
    clear hbig
    go_enter Tryd.func5, Tryd.ntmps5
    go_wp2_with fail
    refine c1.mono ?_
    rintro e w1 ⟨rfl, hB⟩
    clear c1
    go_wp2
    go_ret
    exact ⟨rfl, hB⟩
  · have h2 : 80 < ng := by omega
    have h1' : ¬ ((80 : Int) < (nf : Int)) := by omega
    have h2' : (80 : Int) < (ng : Int) := by omega
    clear hbig
    go_enter Tryd.func5, Tryd.ntmps5
    go_wp2_with fail
    refine c1.mono ?_
    rintro e w1 ⟨rfl, hB⟩
    clear c1
    go_wp2
    go_ret
    exact ⟨rfl, hB⟩
set_option maxRecDepth 100000 in
set_option maxHeartbeats 2000000 in
theorem walk_TruthTells (f : List C) (vf : Value) (g : List C) (vg : Value) (w : World) (hf : FRow w vf f) (hg : FRow w vg g) (hT : Tabs w) :
    Calls Tryd.prog 5 #[vf, vg] w fun e w' => e = .returned (.bool true) ∧ Below w.heap.size w w' := by
  by_cases hbig : 80 < f.length ∨ 80 < g.length
  · exact tells_big f g vf vg w hf hg hT hbig
  have c1 := Tell_any f g vf vg w hT hf hg (by omega) (by omega)
  have c2 := fun W (h : Below w.heap.size w W) => rTell_any f g vf vg W (hf.row.below h) (hg.row.below h) (by omega) (by omega)
  have c3 := fun W (h : Below w.heap.size w W) => Same_any f g vf vg W (hT.below h) (hf.below h) (hg.below h) (by omega) (by omega)
  have c4 := fun W v u (hv : RowAt W v (tellF f g).1) (hu : RowAt W u (tellF f g).1) => refInts_same (tellF f g).1 v u W hv hu (by have := tellF_len f g; omega)
  have c5 := fun W (h : Below w.heap.size w W) => tworks_any W (hT.below h)
  have HS : sameV f g = (decide ((tellF f g).2 = 0) && decide ((tellF f g).1 = [])) := rfl
  have h1 : ¬ 80 < f.length := fun h => hbig (.inl h)
  have h2 : ¬ 80 < g.length := fun h => hbig (.inr h)
  obtain ⟨pf, cf, rfl⟩ := hf.len
  obtain ⟨pg, cg, rfl⟩ := hg.len
  clear hf hg hT hbig
  generalize f.length = nf at *
  generalize g.length = ng at *
  have h1' : ¬ ((80 : Int) < (nf : Int)) := by omega
  have h2' : ¬ ((80 : Int) < (ng : Int)) := by omega
  generalize tellF f g = P at *
  obtain ⟨M, er⟩ := P
  simp only [len_zero] at c1 c2 c3 c4 HS
  rw [HS] at c3
  clear HS
  by_cases he : er = 0
  · subst he
    simp only [decide_true, Bool.true_and] at c3
    go_enter Tryd.func5, Tryd.ntmps5
    go_wp2_with fail
    refine c1.mono ?_
    rintro e w1 ⟨va, rfl, hOa, hB⟩
    clear c1
    replace c2 := c2 w1 hB
    obtain ⟨pa, qa, rfl⟩ := hOa.len
    replace hOa := hOa.rowAt
    go_wp2_with fail
    refine c2.mono ?_
    rintro e w2 ⟨vb, rfl, hOb, hB2⟩
    clear c2
    replace hOa := hOa.below hB2
    replace hB := chain hB hB2
    clear hB2
    replace c3 := c3 w2 hB
    obtain ⟨pb, qb, rfl⟩ := hOb.len
    replace hOb := hOb.rowAt
    go_wp2_with fail
    refine c3.mono ?_
    rintro e w3 ⟨rfl, hB2⟩
    clear c3
    replace hOa := hOa.below hB2
    replace hOb := hOb.below hB2
    replace hB := chain hB hB2
    clear hB2
    replace c4 := c4 w3 _ _ hOa hOb
    clear hOa hOb
    generalize M.length = nm at *
    go_wp2_with fail
    refine c4.mono ?_
    rintro e w4 ⟨rfl, hB2⟩
    clear c4
    replace hB := chain hB hB2
    clear hB2
    replace c5 := c5 w4 hB
    go_wp2_with fail
    refine c5.mono ?_
    rintro e w5 ⟨rfl, hB2⟩
    clear c5
    replace hB := chain hB hB2
    clear hB2
    go_wp2
    go_ret
    exact ⟨rfl, hB⟩
  · have he' : (er == 0) = false := by simp [he]
    have he2 : decide (er = 0) = false := by simp [he]
    rw [he2] at c3
    clear he he2
    simp only [Bool.false_and] at c3
    go_enter Tryd.func5, Tryd.ntmps5
    go_wp2_with fail
    refine c1.mono ?_
    rintro e w1 ⟨va, rfl, hOa, hB⟩
    clear c1
    replace c2 := c2 w1 hB
    obtain ⟨pa, qa, rfl⟩ := hOa.len
    replace hOa := hOa.rowAt
    go_wp2_with fail
    refine c2.mono ?_
    rintro e w2 ⟨vb, rfl, hOb, hB2⟩
    clear c2
    replace hOa := hOa.below hB2
    replace hB := chain hB hB2
    clear hB2
    replace c3 := c3 w2 hB
    obtain ⟨pb, qb, rfl⟩ := hOb.len
    replace hOb := hOb.rowAt
    go_wp2_with fail
    refine c3.mono ?_
    rintro e w3 ⟨rfl, hB2⟩
    clear c3
    replace hOa := hOa.below hB2
    replace hOb := hOb.below hB2
    replace hB := chain hB hB2
    clear hB2
    replace c4 := c4 w3 _ _ hOa hOb
    clear hOa hOb
    generalize M.length = nm at *
    go_wp2_with fail
    refine c4.mono ?_
    rintro e w4 ⟨rfl, hB2⟩
    clear c4
    replace hB := chain hB hB2
    clear hB2
    replace c5 := c5 w4 hB
    go_wp2_with fail
    refine c5.mono ?_
    rintro e w5 ⟨rfl, hB2⟩
    clear c5
    replace hB := chain hB hB2
    clear hB2
    go_wp2
    go_ret
    exact ⟨rfl, hB⟩
end Go.Proofs.YtinegcahhafddaaDoor
