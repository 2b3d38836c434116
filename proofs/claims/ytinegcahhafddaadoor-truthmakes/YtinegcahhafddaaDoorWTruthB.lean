/- The walks of the laws TruthDecides and TruthMakes. -/
import Derived.Test.YtinegcahhafddaaDoorTWorks
import Derived.Test.YtinegcahhafddaaDoorCSame
namespace Go.Proofs.YtinegcahhafddaaDoor
open Go.RowKit
set_option linter.unusedVariables false
set_option linter.unusedSimpArgs false

theorem evalF_right {f : List C} (h : rightF f = true) (v : Nat → Int) : evalF f v = (valF f v, 0) := by unfold evalF; rw [h]; rfl
theorem evalF_wrong {f : List C} (h : rightF f = false) (v : Nat → Int) : evalF f v = (0, 2) := by unfold evalF; rw [h]; rfl
theorem evalF_join {f g : List C} (h : (joinF f g).2 = 0) (v : Nat → Int) : evalF (joinF f g).1 v = (jnV (valF f v) (valF g v), 0) := by rw [evalF_right (joinF_right f g), val_join h]
theorem evalF_meet {f g : List C} (h : (meetF f g).2 = 0) (v : Nat → Int) : evalF (meetF f g).1 v = (mtV (valF f v) (valF g v), 0) := by rw [evalF_right (meetF_right f g), val_meet h]
theorem evalF_not {f : List C} (h : (notF f).2 = 0) (v : Nat → Int) : evalF (notF f).1 v = (ntV (valF f v), 0) := by rw [evalF_right (notF_right f), val_not h]
theorem sameV_no {f g : List C} (h : (tellF f g).2 ≠ 0) : sameV f g = false := by unfold sameV; simp [h]

set_option maxRecDepth 100000 in
set_option maxHeartbeats 2000000 in
theorem walk_TruthDecides (f : List C) (vf : Value) (g : List C) (vg : Value) (w : World) (hf : FRow w vf f) (hg : FRow w vg g) (hT : Tabs w) :
    Calls Tryd.prog 6 #[vf, vg] w fun e w' => e = .returned (.bool true) ∧ Below w.heap.size w w' := by
  have c1 := tworks_any w hT
  by_cases hbig : 80 < f.length ∨ 80 < g.length
  · obtain ⟨pf, cf, rfl⟩ := hf.len
    obtain ⟨pg, cg, rfl⟩ := hg.len
    clear hf hg hT
    generalize f.length = nf at *
    generalize g.length = ng at *
    by_cases h1 : 80 < nf
    · have h1' : (80 : Int) < (nf : Int) := by omega
      clear hbig
      go_enter Tryd.func6, Tryd.ntmps6
      go_wp2_with fail
      refine c1.mono ?_
      rintro e w1 ⟨rfl, hB⟩
      clear c1
      go_wp2
      go_ret
      exact ⟨rfl, hB⟩
    · have h2 : 80 < ng := by omega
      have h1' : ¬ ((80 : Int) < (nf : Int)) := by omega
      have h2' : (80 : Int) < (ng : Int) := by omega
      clear hbig
      go_enter Tryd.func6, Tryd.ntmps6
      go_wp2_with fail
      refine c1.mono ?_
      rintro e w1 ⟨rfl, hB⟩
      clear c1
      go_wp2
      go_ret
      exact ⟨rfl, hB⟩
  have c2 := fun W (h : Below w.heap.size w W) => Same_any f g vf vg W (hT.below h) (hf.below h) (hg.below h) (by omega) (by omega)
  have c3 := fun W (h : Below w.heap.size w W) => same_any f g vf vg W (hf.row.below h) (hg.row.below h) (by omega)
  have h1 : ¬ 80 < f.length := fun h => hbig (.inl h)
  have h2 : ¬ 80 < g.length := fun h => hbig (.inr h)
  have hS0 : (tellF f g).2 = 0 → sameV f g = decide (f = g) := sameV_iff
  have hS1 : (tellF f g).2 ≠ 0 → sameV f g = false := sameV_no
  have hE := tellF_er f g
  obtain ⟨pf, cf, rfl⟩ := hf.len
  obtain ⟨pg, cg, rfl⟩ := hg.len
  clear hf hg hT hbig
  generalize f.length = nf at *
  generalize g.length = ng at *
  have h1' : ¬ ((80 : Int) < (nf : Int)) := by omega
  have h2' : ¬ ((80 : Int) < (ng : Int)) := by omega
  generalize sameV f g = s at *
  generalize decide (f = g) = t at *
  generalize (tellF f g).2 = er at *
  rcases hE with rfl | rfl | rfl
  · obtain rfl := hS0 rfl
    clear hS0 hS1
    go_enter Tryd.func6, Tryd.ntmps6
    go_wp2_with fail
    refine c1.mono ?_
    rintro e w1 ⟨rfl, hB⟩
    clear c1
    replace c2 := c2 w1 hB
    go_wp2_with fail
    refine c2.mono ?_
    rintro e w2 ⟨rfl, hB2⟩
    clear c2
    replace hB := chain hB hB2
    clear hB2
    replace c3 := c3 w2 hB
    go_wp2_with fail
    refine c3.mono ?_
    rintro e w3 ⟨rfl, hB2⟩
    clear c3
    replace hB := chain hB hB2
    clear hB2
    go_wp2
    go_ret
    exact ⟨rfl, hB⟩
  all_goals
    obtain rfl := hS1 (by decide)
    clear hS0 hS1 c3
    go_enter Tryd.func6, Tryd.ntmps6
    go_wp2_with fail
    refine c1.mono ?_
    rintro e w1 ⟨rfl, hB⟩
    clear c1
    replace c2 := c2 w1 hB
    go_wp2_with fail
    refine c2.mono ?_
    rintro e w2 ⟨rfl, hB2⟩
    clear c2
    replace hB := chain hB hB2
    clear hB2
    go_wp2
    go_ret
    exact ⟨rfl, hB⟩

set_option maxRecDepth 100000 in
set_option maxHeartbeats 2000000 in
theorem makes_big (f g : List C) (vf vg va : Value) (w : World) (hf : FRow w vf f) (hg : FRow w vg g) (hT : Tabs w) (hbig : 24 < f.length ∨ 24 < g.length) :
    Calls Tryd.prog 7 #[vf, vg, va] w fun e w' => e = .returned (.bool true) ∧ Below w.heap.size w w' := by
  have c1 := tworks_any w hT
  obtain ⟨pf, cf, rfl⟩ := hf.len
  obtain ⟨pg, cg, rfl⟩ := hg.len
  clear hf hg hT
  generalize f.length = nf at *
  generalize g.length = ng at *
  by_cases h1 : 24 < nf
  · have h1' : (24 : Int) < (nf : Int) := by omega
    clear hbig
    go_enter Tryd.func7, Tryd.ntmps7
    go_wp2_with fail
    refine c1.mono ?_
    rintro e w1 ⟨rfl, hB⟩
    clear c1
    go_wp2
    go_ret
    exact ⟨rfl, hB⟩
  · have h2 : 24 < ng := by omega
    have h1' : ¬ ((24 : Int) < (nf : Int)) := by omega
    have h2' : (24 : Int) < (ng : Int) := by omega
    clear hbig
    go_enter Tryd.func7, Tryd.ntmps7
    go_wp2_with fail
    refine c1.mono ?_
    rintro e w1 ⟨rfl, hB⟩
    clear c1
    go_wp2
    go_ret
    exact ⟨rfl, hB⟩

set_option maxRecDepth 100000 in
set_option maxHeartbeats 2000000 in
theorem makes_wrong (f g : List C) (l : List Int) (vf vg va : Value) (w : World) (hf : FRow w vf f) (hg : FRow w vg g) (ha : RowZ w va l) (hT : Tabs w) (h1 : f.length ≤ 24) (h2 : g.length ≤ 24) (hr : (rightF f && rightF g) = false) :
    Calls Tryd.prog 7 #[vf, vg, va] w fun e w' => e = .returned (.bool true) ∧ Below w.heap.size w w' := by
  have c1 := tworks_any w hT
  have c2 := fun W (h : Below w.heap.size w W) => Eval_any f l vf va W (hT.below h) (hf.below h) (ha.below h) (by omega)
  have c3 := fun W (h : Below w.heap.size w W) => Eval_any g l vg va W (hT.below h) (hg.below h) (ha.below h) (by omega)
  obtain ⟨pf, cf, rfl⟩ := hf.len
  obtain ⟨pg, cg, rfl⟩ := hg.len
  obtain ⟨pa, ca, rfl⟩ := ha.len
  clear hf hg ha hT
  generalize f.length = nf at *
  generalize g.length = ng at *
  generalize l.length = nl at *
  have h1' : ¬ ((24 : Int) < (nf : Int)) := by omega
  have h2' : ¬ ((24 : Int) < (ng : Int)) := by omega
  cases hf1 : rightF f
  · simp only [evalF_wrong hf1] at c2
    clear hr hf1
    generalize evalF g (atZ l) = P at *
    obtain ⟨M, er⟩ := P
    simp only at c3
    go_enter Tryd.func7, Tryd.ntmps7
    go_wp2_with fail
    refine c1.mono ?_
    rintro e w1 ⟨rfl, hB⟩
    clear c1
    replace c2 := c2 w1 hB
    go_wp2_with fail
    refine c2.mono ?_
    rintro e w2 ⟨rfl, hB2⟩
    clear c2
    replace hB := chain hB hB2
    clear hB2
    replace c3 := c3 w2 hB
    go_wp2_with fail
    refine c3.mono ?_
    rintro e w3 ⟨rfl, hB2⟩
    clear c3
    replace hB := chain hB hB2
    clear hB2
    go_wp2
    go_ret
    exact ⟨rfl, hB⟩
  · have hg1 : rightF g = false := by rw [hf1] at hr; simpa using hr
    simp only [evalF_right hf1] at c2
    simp only [evalF_wrong hg1] at c3
    clear hr hf1 hg1
    generalize valF f (atZ l) = xa at *
    go_enter Tryd.func7, Tryd.ntmps7
    go_wp2_with fail
    refine c1.mono ?_
    rintro e w1 ⟨rfl, hB⟩
    clear c1
    replace c2 := c2 w1 hB
    go_wp2_with fail
    refine c2.mono ?_
    rintro e w2 ⟨rfl, hB2⟩
    clear c2
    replace hB := chain hB hB2
    clear hB2
    replace c3 := c3 w2 hB
    go_wp2_with fail
    refine c3.mono ?_
    rintro e w3 ⟨rfl, hB2⟩
    clear c3
    replace hB := chain hB hB2
    clear hB2
    go_wp2
    go_ret
    exact ⟨rfl, hB⟩

set_option maxRecDepth 100000 in
set_option maxHeartbeats 4000000 in
theorem walk_TruthMakes (f : List C) (vf : Value) (g : List C) (vg : Value) (l : List Int) (va : Value) (w : World) (hf : FRow w vf f) (hg : FRow w vg g) (ha : RowZ w va l) (hT : Tabs w) :
    Calls Tryd.prog 7 #[vf, vg, va] w fun e w' => e = .returned (.bool true) ∧ Below w.heap.size w w' := by
  by_cases hbig : 24 < f.length ∨ 24 < g.length
  · exact makes_big f g vf vg va w hf hg hT hbig
  have h1 : ¬ 24 < f.length := fun h => hbig (.inl h)
  have h2 : ¬ 24 < g.length := fun h => hbig (.inr h)
  cases hr : rightF f && rightF g
  · exact makes_wrong f g l vf vg va w hf hg ha hT (by omega) (by omega) hr
  rw [Bool.and_eq_true] at hr
  have c1 := tworks_any w hT
  have c2 := fun W (h : Below w.heap.size w W) => Eval_any f l vf va W (hT.below h) (hf.below h) (ha.below h) (by omega)
  have c3 := fun W (h : Below w.heap.size w W) => Eval_any g l vg va W (hT.below h) (hg.below h) (ha.below h) (by omega)
  simp only [evalF_right hr.1] at c2
  simp only [evalF_right hr.2] at c3
  have d1 := fun W (h : Below w.heap.size w W) => Join_any f g vf vg W (hf.below h) (hg.below h) (by omega) (by omega)
  have d2 := fun W (h : Below w.heap.size w W) => Meet_any f g vf vg W (hf.below h) (hg.below h) (by omega) (by omega)
  have d3 := fun W (h : Below w.heap.size w W) => Not_any f vf W (hf.below h) (by omega)
  have e1 := fun v W (h : Below w.heap.size w W) (h2 : OwnsC W w.heap.size v (joinF f g).1) => Eval_any (joinF f g).1 l v va W (hT.below h) (OwnsC.frow h2) (ha.below h) (by have := joinF_len f g; omega)
  have e2 := fun v W (h : Below w.heap.size w W) (h2 : OwnsC W w.heap.size v (meetF f g).1) => Eval_any (meetF f g).1 l v va W (hT.below h) (OwnsC.frow h2) (ha.below h) (by have := meetF_len f g; omega)
  have e3 := fun v W (h : Below w.heap.size w W) (h2 : OwnsC W w.heap.size v (notF f).1) => Eval_any (notF f).1 l v va W (hT.below h) (OwnsC.frow h2) (ha.below h) (by have := notF_len f; omega)
  have t1 : (joinF f g).2 = 0 → evalF (joinF f g).1 (atZ l) = (jnV (valF f (atZ l)) (valF g (atZ l)), 0) := fun h => evalF_join h _
  have t2 : (meetF f g).2 = 0 → evalF (meetF f g).1 (atZ l) = (mtV (valF f (atZ l)) (valF g (atZ l)), 0) := fun h => evalF_meet h _
  have t3 : (notF f).2 = 0 → evalF (notF f).1 (atZ l) = (ntV (valF f (atZ l)), 0) := fun h => evalF_not h _
  have k1 := fun a b W (h : Below w.heap.size w W) => tJoin_any a b W (hT.below h)
  have k2 := fun a b W (h : Below w.heap.size w W) => tMeet_any a b W (hT.below h)
  have k3 := fun a W (h : Below w.heap.size w W) => tNot_any a W (hT.below h)
  obtain ⟨pf, cf, rfl⟩ := hf.len
  obtain ⟨pg, cg, rfl⟩ := hg.len
  obtain ⟨pa, ca, rfl⟩ := ha.len
  clear hf hg ha hT hbig hr
  generalize f.length = nf at *
  generalize g.length = ng at *
  generalize l.length = nl at *
  have h1' : ¬ ((24 : Int) < (nf : Int)) := by omega
  have h2' : ¬ ((24 : Int) < (ng : Int)) := by omega
  generalize valF f (atZ l) = xa at *
  generalize valF g (atZ l) = xb at *
  generalize joinF f g = J at *
  obtain ⟨X1, r1⟩ := J
  generalize meetF f g = J at *
  obtain ⟨X2, r2⟩ := J
  generalize notF f = J at *
  obtain ⟨X3, r3⟩ := J
  simp only at d1 d2 d3 e1 e2 e3 t1 t2 t3
  have T1 : Hid (r1 = 0 → evalF X1 (atZ l) = (jnV xa xb, 0)) := t1
  have T2 : Hid (r2 = 0 → evalF X2 (atZ l) = (mtV xa xb, 0)) := t2
  have T3 : Hid (r3 = 0 → evalF X3 (atZ l) = (ntV xa, 0)) := t3
  clear t1 t2 t3
  go_enter Tryd.func7, Tryd.ntmps7
  go_wp2_with fail
  refine c1.mono ?_
  rintro e w1 ⟨rfl, hB⟩
  clear c1
  replace c2 := c2 w1 hB
  go_wp2_with fail
  refine c2.mono ?_
  rintro e w2 ⟨rfl, hB2⟩
  clear c2
  replace hB := chain hB hB2
  clear hB2
  replace c3 := c3 w2 hB
  go_wp2_with fail
  refine c3.mono ?_
  rintro e w3 ⟨rfl, hB2⟩
  clear c3
  replace hB := chain hB hB2
  clear hB2
  replace d1 := d1 w3 hB
  go_wp2_with fail
  refine d1.mono ?_
  rintro e w4 ⟨v1, rfl, hO, hB2⟩
  clear d1
  replace hO := OwnsC.mono hO hB.size
  replace hB := chain hB hB2
  clear hB2
  by_cases hr1 : r1 = 0
  · subst hr1
    replace e1 := e1 v1 w4 hB hO
    rw [T1.out rfl] at e1
    clear T1
    obtain ⟨p1, q1, rfl⟩ := OwnsC.len hO
    clear hO
    go_wp2_with fail
    refine e1.mono ?_
    rintro e w5 ⟨rfl, hB2⟩
    clear e1
    replace hB := chain hB hB2
    clear hB2
    have kk := k1 xa xb w5 hB
    clear k1
    go_wp2_with fail
    refine kk.mono ?_
    rintro e w6 ⟨rfl, hB2⟩
    clear kk
    replace hB := chain hB hB2
    clear hB2
    replace d2 := d2 w6 hB
    go_wp2_with fail
    refine d2.mono ?_
    rintro e w7 ⟨v2, rfl, hO, hB2⟩
    clear d2
    replace hO := OwnsC.mono hO hB.size
    replace hB := chain hB hB2
    clear hB2
    by_cases hr2 : r2 = 0
    · subst hr2
      replace e2 := e2 v2 w7 hB hO
      rw [T2.out rfl] at e2
      clear T2
      obtain ⟨p2, q2, rfl⟩ := OwnsC.len hO
      clear hO
      go_wp2_with fail
      refine e2.mono ?_
      rintro e w8 ⟨rfl, hB2⟩
      clear e2
      replace hB := chain hB hB2
      clear hB2
      have kk := k2 xa xb w8 hB
      clear k2
      go_wp2_with fail
      refine kk.mono ?_
      rintro e w9 ⟨rfl, hB2⟩
      clear kk
      replace hB := chain hB hB2
      clear hB2
      replace d3 := d3 w9 hB
      go_wp2_with fail
      refine d3.mono ?_
      rintro e w10 ⟨v3, rfl, hO, hB2⟩
      clear d3
      replace hO := OwnsC.mono hO hB.size
      replace hB := chain hB hB2
      clear hB2
      by_cases hr3 : r3 = 0
      · subst hr3
        replace e3 := e3 v3 w10 hB hO
        rw [T3.out rfl] at e3
        clear T3
        obtain ⟨p3, q3, rfl⟩ := OwnsC.len hO
        clear hO
        go_wp2_with fail
        refine e3.mono ?_
        rintro e w11 ⟨rfl, hB2⟩
        clear e3
        replace hB := chain hB hB2
        clear hB2
        have kk := k3 xa w11 hB
        clear k3
        go_wp2_with fail
        refine kk.mono ?_
        rintro e w12 ⟨rfl, hB2⟩
        clear kk
        replace hB := chain hB hB2
        clear hB2
        go_wp2
        go_ret
        exact ⟨rfl, hB⟩
      · have hr3' : (r3 == 0) = false := by simp [hr3]
        clear hr3 T3 e3 k3
        obtain ⟨p3, q3, rfl⟩ := OwnsC.len hO
        clear hO
        go_wp2
        go_ret
        exact ⟨rfl, hB⟩
    · have hr2' : (r2 == 0) = false := by simp [hr2]
      clear hr2 T2 e2 k2
      obtain ⟨p2, q2, rfl⟩ := OwnsC.len hO
      clear hO
      replace d3 := d3 w7 hB
      go_wp2_with fail
      refine d3.mono ?_
      rintro e w8 ⟨v3, rfl, hO, hB2⟩
      clear d3
      replace hO := OwnsC.mono hO hB.size
      replace hB := chain hB hB2
      clear hB2
      by_cases hr3 : r3 = 0
      · subst hr3
        replace e3 := e3 v3 w8 hB hO
        rw [T3.out rfl] at e3
        clear T3
        obtain ⟨p3, q3, rfl⟩ := OwnsC.len hO
        clear hO
        go_wp2_with fail
        refine e3.mono ?_
        rintro e w9 ⟨rfl, hB2⟩
        clear e3
        replace hB := chain hB hB2
        clear hB2
        have kk := k3 xa w9 hB
        clear k3
        go_wp2_with fail
        refine kk.mono ?_
        rintro e w10 ⟨rfl, hB2⟩
        clear kk
        replace hB := chain hB hB2
        clear hB2
        go_wp2
        go_ret
        exact ⟨rfl, hB⟩
      · have hr3' : (r3 == 0) = false := by simp [hr3]
        clear hr3 T3 e3 k3
        obtain ⟨p3, q3, rfl⟩ := OwnsC.len hO
        clear hO
        go_wp2
        go_ret
        exact ⟨rfl, hB⟩
  · have hr1' : (r1 == 0) = false := by simp [hr1]
    clear hr1 T1 e1 k1
    obtain ⟨p1, q1, rfl⟩ := OwnsC.len hO
    clear hO
    replace d2 := d2 w4 hB
    go_wp2_with fail
    refine d2.mono ?_
    rintro e w5 ⟨v2, rfl, hO, hB2⟩
    clear d2
    replace hO := OwnsC.mono hO hB.size
    replace hB := chain hB hB2
    clear hB2
    by_cases hr2 : r2 = 0
    · subst hr2
      replace e2 := e2 v2 w5 hB hO
      rw [T2.out rfl] at e2
      clear T2
      obtain ⟨p2, q2, rfl⟩ := OwnsC.len hO
      clear hO
      go_wp2_with fail
      refine e2.mono ?_
      rintro e w6 ⟨rfl, hB2⟩
      clear e2
      replace hB := chain hB hB2
      clear hB2
      have kk := k2 xa xb w6 hB
      clear k2
      go_wp2_with fail
      refine kk.mono ?_
      rintro e w7 ⟨rfl, hB2⟩
      clear kk
      replace hB := chain hB hB2
      clear hB2
      replace d3 := d3 w7 hB
      go_wp2_with fail
      refine d3.mono ?_
      rintro e w8 ⟨v3, rfl, hO, hB2⟩
      clear d3
      replace hO := OwnsC.mono hO hB.size
      replace hB := chain hB hB2
      clear hB2
      by_cases hr3 : r3 = 0
      · subst hr3
        replace e3 := e3 v3 w8 hB hO
        rw [T3.out rfl] at e3
        clear T3
        obtain ⟨p3, q3, rfl⟩ := OwnsC.len hO
        clear hO
        go_wp2_with fail
        refine e3.mono ?_
        rintro e w9 ⟨rfl, hB2⟩
        clear e3
        replace hB := chain hB hB2
        clear hB2
        have kk := k3 xa w9 hB
        clear k3
        go_wp2_with fail
        refine kk.mono ?_
        rintro e w10 ⟨rfl, hB2⟩
        clear kk
        replace hB := chain hB hB2
        clear hB2
        go_wp2
        go_ret
        exact ⟨rfl, hB⟩
      · have hr3' : (r3 == 0) = false := by simp [hr3]
        clear hr3 T3 e3 k3
        obtain ⟨p3, q3, rfl⟩ := OwnsC.len hO
        clear hO
        go_wp2
        go_ret
        exact ⟨rfl, hB⟩
    · have hr2' : (r2 == 0) = false := by simp [hr2]
      clear hr2 T2 e2 k2
      obtain ⟨p2, q2, rfl⟩ := OwnsC.len hO
      clear hO
      replace d3 := d3 w5 hB
      go_wp2_with fail
      refine d3.mono ?_
      rintro e w6 ⟨v3, rfl, hO, hB2⟩
      clear d3
      replace hO := OwnsC.mono hO hB.size
      replace hB := chain hB hB2
      clear hB2
      by_cases hr3 : r3 = 0
      · subst hr3
        replace e3 := e3 v3 w6 hB hO
        rw [T3.out rfl] at e3
        clear T3
        obtain ⟨p3, q3, rfl⟩ := OwnsC.len hO
        clear hO
        go_wp2_with fail
        refine e3.mono ?_
        rintro e w7 ⟨rfl, hB2⟩
        clear e3
        replace hB := chain hB hB2
        clear hB2
        have kk := k3 xa w7 hB
        clear k3
        go_wp2_with fail
        refine kk.mono ?_
        rintro e w8 ⟨rfl, hB2⟩
        clear kk
        replace hB := chain hB hB2
        clear hB2
        go_wp2
        go_ret
        exact ⟨rfl, hB⟩
      · have hr3' : (r3 == 0) = false := by simp [hr3]
        clear hr3 T3 e3 k3
        obtain ⟨p3, q3, rfl⟩ := OwnsC.len hO
        clear hO
        go_wp2
        go_ret
        exact ⟨rfl, hB⟩
end Go.Proofs.YtinegcahhafddaaDoor
