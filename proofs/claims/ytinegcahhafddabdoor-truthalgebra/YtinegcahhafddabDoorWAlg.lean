/- The walk of the law TruthAlgebra: the four values are a De Morgan algebra. -/
import Derived.Test.YtinegcahhafddabDoorTWorks
namespace Go.Proofs.YtinegcahhafddabDoor
open Go.RowKit
set_option linter.unusedVariables false
set_option linter.unusedSimpArgs false

theorem mtV_comm (a b : Int) : mtV a b = mtV b a := by unfold mtV; rw [Bool.and_comm, Bool.and_comm (pB a)]
theorem jnV_comm (a b : Int) : jnV a b = jnV b a := by unfold jnV; rw [Bool.or_comm, Bool.or_comm (pB a)]
theorem mtV_assoc (a b c : Int) : mtV (mtV a b) c = mtV a (mtV b c) := by
  unfold mtV
  rw [pA_vOf, pB_vOf, pA_vOf, pB_vOf, Bool.and_assoc, Bool.and_assoc]
theorem jnV_assoc (a b c : Int) : jnV (jnV a b) c = jnV a (jnV b c) := by
  unfold jnV
  rw [pA_vOf, pB_vOf, pA_vOf, pB_vOf, Bool.or_assoc, Bool.or_assoc]
theorem mt_jn (p q : Bool) (b : Int) : mtV (vOf p q) (jnV (vOf p q) b) = vOf p q := by
  unfold mtV jnV
  simp only [pA_vOf, pB_vOf]
  cases p <;> cases q <;> simp
theorem jn_mt (p q : Bool) (b : Int) : jnV (vOf p q) (mtV (vOf p q) b) = vOf p q := by
  unfold mtV jnV
  simp only [pA_vOf, pB_vOf]
  cases p <;> cases q <;> simp
theorem mt_dist (a b c : Int) : jnV (mtV a b) (mtV a c) = mtV a (jnV b c) := by
  unfold mtV jnV
  simp only [pA_vOf, pB_vOf]
  rw [Bool.and_or_distrib_left, Bool.and_or_distrib_left]
theorem nt_nt (p q : Bool) : ntV (ntV (vOf p q)) = vOf p q := by cases p <;> cases q <;> decide
theorem nt_mt (a b : Int) : jnV (ntV a) (ntV b) = ntV (mtV a b) := by
  unfold mtV jnV ntV
  simp only [pA_vOf, pB_vOf, Bool.not_and]
theorem nt_0 : ntV 0 = 1 := by decide

set_option maxRecDepth 100000 in
set_option maxHeartbeats 4000000 in
theorem walk_TruthAlgebra (a : Int) (ha : (Lit.int .i64 a).wf = true) (b : Int) (hb : (Lit.int .i64 b).wf = true) (c : Int) (hc : (Lit.int .i64 c).wf = true) (w : World) (hT : Tabs w) :
    Calls Tryd.prog 3 #[.int .i64 a, .int .i64 b, .int .i64 c] w fun e w' => e = .returned (.bool true) ∧ Below w.heap.size w w' := by
  have cW := tworks_any w hT
  have M := fun a b W (h : Below w.heap.size w W) => tMeet_any a b W (hT.below h)
  have J := fun a b W (h : Below w.heap.size w W) => tJoin_any a b W (hT.below h)
  have N := fun a W (h : Below w.heap.size w W) => tNot_any a W (hT.below h)
  have c01 := J 0 a
  have c02 := J 0 b
  have c03 := J 0 c
  obtain ⟨p, q, hx⟩ : ∃ p q, jnV 0 a = vOf p q := ⟨_, _, rfl⟩
  rw [hx] at c01
  generalize jnV 0 b = y at *
  generalize jnV 0 c = z at *
  clear ha hb hc hT hx
  have c_xy := M (vOf p q) y
  have c_yx := M y (vOf p q)
  rw [mtV_comm y (vOf p q)] at c_yx
  have c_jxy := J (vOf p q) y
  have c_jyx := J y (vOf p q)
  rw [jnV_comm y (vOf p q)] at c_jyx
  have c_myz := M y z
  have c_a1 := M (vOf p q) (mtV y z)
  have c_a2 := M (mtV (vOf p q) y) z
  rw [mtV_assoc (vOf p q) y z] at c_a2
  have c_jyz := J y z
  have c_b1 := J (vOf p q) (jnV y z)
  have c_b2 := J (jnV (vOf p q) y) z
  rw [jnV_assoc (vOf p q) y z] at c_b2
  have c_ab := M (vOf p q) (jnV (vOf p q) y)
  rw [mt_jn p q y] at c_ab
  have c_ab2 := J (vOf p q) (mtV (vOf p q) y)
  rw [jn_mt p q y] at c_ab2
  have c_d1 := M (vOf p q) (jnV y z)
  have c_mxz := M (vOf p q) z
  have c_d2 := J (mtV (vOf p q) y) (mtV (vOf p q) z)
  rw [mt_dist (vOf p q) y z] at c_d2
  have c_nx := N (vOf p q)
  have c_nnx := N (ntV (vOf p q))
  rw [nt_nt p q] at c_nnx
  have c_e1 := N (mtV (vOf p q) y)
  have c_ny := N y
  have c_e2 := J (ntV (vOf p q)) (ntV y)
  rw [nt_mt (vOf p q) y] at c_e2
  have c_n0 := N 0
  rw [nt_0] at c_n0
  clear M J N
  generalize mtV (vOf p q) (mtV y z) = A1 at *
  generalize jnV (vOf p q) (jnV y z) = B1 at *
  generalize mtV (vOf p q) (jnV y z) = D1 at *
  generalize ntV (mtV (vOf p q) y) = E1 at *
  generalize mtV y z = m1 at *
  generalize jnV y z = j1 at *
  generalize mtV (vOf p q) y = m2 at *
  generalize jnV (vOf p q) y = j2 at *
  generalize mtV (vOf p q) z = m3 at *
  generalize ntV (vOf p q) = n1 at *
  generalize ntV y = n2 at *
  generalize vOf p q = x at *
  go_enter Tryd.func3, Tryd.ntmps3
  go_wp2_with fail
  refine cW.mono ?_
  rintro e w0 ⟨rfl, hB⟩
  clear cW
  go_wp2_with fail
  refine (c01 w0 hB).mono ?_
  rintro e w1 ⟨rfl, hB2⟩
  replace hB := chain hB hB2
  clear hB2
  go_wp2_with fail
  refine (c02 w1 hB).mono ?_
  rintro e w2 ⟨rfl, hB2⟩
  replace hB := chain hB hB2
  clear hB2
  go_wp2_with fail
  refine (c03 w2 hB).mono ?_
  rintro e w3 ⟨rfl, hB2⟩
  replace hB := chain hB hB2
  clear hB2
  go_wp2_with fail
  refine (c_xy w3 hB).mono ?_
  rintro e w4 ⟨rfl, hB2⟩
  replace hB := chain hB hB2
  clear hB2
  go_wp2_with fail
  refine (c_yx w4 hB).mono ?_
  rintro e w5 ⟨rfl, hB2⟩
  replace hB := chain hB hB2
  clear hB2
  go_wp2_with fail
  refine (c_jxy w5 hB).mono ?_
  rintro e w6 ⟨rfl, hB2⟩
  replace hB := chain hB hB2
  clear hB2
  go_wp2_with fail
  refine (c_jyx w6 hB).mono ?_
  rintro e w7 ⟨rfl, hB2⟩
  replace hB := chain hB hB2
  clear hB2
  go_wp2_with fail
  refine (c_myz w7 hB).mono ?_
  rintro e w8 ⟨rfl, hB2⟩
  replace hB := chain hB hB2
  clear hB2
  go_wp2_with fail
  refine (c_a1 w8 hB).mono ?_
  rintro e w9 ⟨rfl, hB2⟩
  replace hB := chain hB hB2
  clear hB2
  go_wp2_with fail
  refine (c_xy w9 hB).mono ?_
  rintro e w10 ⟨rfl, hB2⟩
  replace hB := chain hB hB2
  clear hB2
  go_wp2_with fail
  refine (c_a2 w10 hB).mono ?_
  rintro e w11 ⟨rfl, hB2⟩
  replace hB := chain hB hB2
  clear hB2
  go_wp2_with fail
  refine (c_jyz w11 hB).mono ?_
  rintro e w12 ⟨rfl, hB2⟩
  replace hB := chain hB hB2
  clear hB2
  go_wp2_with fail
  refine (c_b1 w12 hB).mono ?_
  rintro e w13 ⟨rfl, hB2⟩
  replace hB := chain hB hB2
  clear hB2
  go_wp2_with fail
  refine (c_jxy w13 hB).mono ?_
  rintro e w14 ⟨rfl, hB2⟩
  replace hB := chain hB hB2
  clear hB2
  go_wp2_with fail
  refine (c_b2 w14 hB).mono ?_
  rintro e w15 ⟨rfl, hB2⟩
  replace hB := chain hB hB2
  clear hB2
  go_wp2_with fail
  refine (c_jxy w15 hB).mono ?_
  rintro e w16 ⟨rfl, hB2⟩
  replace hB := chain hB hB2
  clear hB2
  go_wp2_with fail
  refine (c_ab w16 hB).mono ?_
  rintro e w17 ⟨rfl, hB2⟩
  replace hB := chain hB hB2
  clear hB2
  go_wp2_with fail
  refine (c_xy w17 hB).mono ?_
  rintro e w18 ⟨rfl, hB2⟩
  replace hB := chain hB hB2
  clear hB2
  go_wp2_with fail
  refine (c_ab2 w18 hB).mono ?_
  rintro e w19 ⟨rfl, hB2⟩
  replace hB := chain hB hB2
  clear hB2
  go_wp2_with fail
  refine (c_jyz w19 hB).mono ?_
  rintro e w20 ⟨rfl, hB2⟩
  replace hB := chain hB hB2
  clear hB2
  go_wp2_with fail
  refine (c_d1 w20 hB).mono ?_
  rintro e w21 ⟨rfl, hB2⟩
  replace hB := chain hB hB2
  clear hB2
  go_wp2_with fail
  refine (c_xy w21 hB).mono ?_
  rintro e w22 ⟨rfl, hB2⟩
  replace hB := chain hB hB2
  clear hB2
  go_wp2_with fail
  refine (c_mxz w22 hB).mono ?_
  rintro e w23 ⟨rfl, hB2⟩
  replace hB := chain hB hB2
  clear hB2
  go_wp2_with fail
  refine (c_d2 w23 hB).mono ?_
  rintro e w24 ⟨rfl, hB2⟩
  replace hB := chain hB hB2
  clear hB2
  go_wp2_with fail
  refine (c_nx w24 hB).mono ?_
  rintro e w25 ⟨rfl, hB2⟩
  replace hB := chain hB hB2
  clear hB2
  go_wp2_with fail
  refine (c_nnx w25 hB).mono ?_
  rintro e w26 ⟨rfl, hB2⟩
  replace hB := chain hB hB2
  clear hB2
  go_wp2_with fail
  refine (c_xy w26 hB).mono ?_
  rintro e w27 ⟨rfl, hB2⟩
  replace hB := chain hB hB2
  clear hB2
  go_wp2_with fail
  refine (c_e1 w27 hB).mono ?_
  rintro e w28 ⟨rfl, hB2⟩
  replace hB := chain hB hB2
  clear hB2
  go_wp2_with fail
  refine (c_nx w28 hB).mono ?_
  rintro e w29 ⟨rfl, hB2⟩
  replace hB := chain hB hB2
  clear hB2
  go_wp2_with fail
  refine (c_ny w29 hB).mono ?_
  rintro e w30 ⟨rfl, hB2⟩
  replace hB := chain hB hB2
  clear hB2
  go_wp2_with fail
  refine (c_e2 w30 hB).mono ?_
  rintro e w31 ⟨rfl, hB2⟩
  replace hB := chain hB hB2
  clear hB2
  go_wp2_with fail
  refine (c_n0 w31 hB).mono ?_
  rintro e w32 ⟨rfl, hB2⟩
  replace hB := chain hB hB2
  clear hB2
  clear c01 c02 c03 c_a1 c_a2 c_ab c_ab2 c_b1 c_b2 c_d1 c_d2 c_e1 c_e2 c_jxy c_jyx c_jyz c_mxz c_myz c_n0 c_nnx c_nx c_ny c_xy c_yx
  go_wp2
  go_ret
  exact ⟨rfl, hB⟩
end Go.Proofs.YtinegcahhafddabDoor
