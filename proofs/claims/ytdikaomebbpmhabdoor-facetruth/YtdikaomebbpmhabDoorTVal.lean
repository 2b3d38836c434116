/- The four values: what truth.Meet, Join and Not and the document's hand back. -/
import Derived.WalkKit
import Derived.Deep.QuietTactic
import Derived.BigQuiet
import Derived.WalkSmall
import Derived.Test.YtdikaomebbpmhabDoorCRows
import Derived.Test.YtdikaomebbpmhabDoorTMathB
namespace Go.Proofs.YtdikaomebbpmhabDoor
open Go.RowKit
set_option linter.unusedVariables false
set_option linter.unusedSimpArgs false

/-- What a number leaves when divided by four. -/
def m4 (a : Int) : Nat := (a % 4).toNat
theorem m4_lt (a : Int) : m4 a < 4 := by unfold m4; omega
theorem m4_val (a : Int) : ((m4 a : Nat) : Int) = a % 4 := by unfold m4; omega
theorem bits_and3 (a : Int) : bits BinOp.and IntKind.i64 a 3 = ((m4 a : Nat) : Int) := by
  show IntKind.i64.wrap ((BitVec.ofInt 64 a &&& BitVec.ofInt 64 3).toNat : Int) = _
  have h : (BitVec.ofInt 64 a &&& BitVec.ofInt 64 3).toNat = m4 a := by
    rw [BitVec.toNat_and]
    have h3 : (BitVec.ofInt 64 3).toNat = 2 ^ 2 - 1 := by decide
    rw [h3, Nat.and_two_pow_sub_one_eq_mod, BitVec.toNat_ofInt]
    unfold m4
    omega
  rw [h]
  have := m4_lt a
  rw [IntKind.wrap_i64]
  omega

/-- The tables lie as they were laid. -/
structure Tabs (w : World) : Prop where
  lt : 1 < w.heap.size ∧ 0 < w.heap.size ∧ 2 < w.heap.size
  m : ∀ x y : Nat, x < 4 → y < 4 → w.cell? ⟨1, x * 4 + y, none⟩ = some (.int .i64 (mtV x y))
  j : ∀ x y : Nat, x < 4 → y < 4 → w.cell? ⟨0, x * 4 + y, none⟩ = some (.int .i64 (jnV x y))
  n : ∀ x : Nat, x < 4 → w.cell? ⟨2, x, none⟩ = some (.int .i64 (ntV x))
theorem Tabs.below {w w' : World} (h : Tabs w) (hb : Below w.heap.size w w') : Tabs w' :=
  ⟨⟨Nat.lt_of_lt_of_le h.lt.1 hb.size, Nat.lt_of_lt_of_le h.lt.2.1 hb.size, Nat.lt_of_lt_of_le h.lt.2.2 hb.size⟩,
   fun x y hx hy => (hb.cell (p := ⟨1, x * 4 + y, none⟩) h.lt.1).trans (h.m x y hx hy),
   fun x y hx hy => (hb.cell (p := ⟨0, x * 4 + y, none⟩) h.lt.2.1).trans (h.j x y hx hy),
   fun x hx => (hb.cell (p := ⟨2, x, none⟩) h.lt.2.2).trans (h.n x hx)⟩
theorem pA_m4 (a : Int) : pA ((m4 a : Nat) : Int) = pA a := by rw [m4_val]; unfold pA; rw [Int.emod_emod]
theorem pB_m4 (a : Int) : pB ((m4 a : Nat) : Int) = pB a := by rw [m4_val]; unfold pB; rw [Int.emod_emod]
theorem mtV_m4 (a b : Int) : mtV (m4 a : Nat) (m4 b : Nat) = mtV a b := by unfold mtV; rw [pA_m4, pA_m4, pB_m4, pB_m4]
theorem jnV_m4 (a b : Int) : jnV (m4 a : Nat) (m4 b : Nat) = jnV a b := by unfold jnV; rw [pA_m4, pA_m4, pB_m4, pB_m4]
theorem ntV_m4 (a : Int) : ntV (m4 a : Nat) = ntV a := by unfold ntV; rw [pA_m4, pB_m4]

theorem value_any (a : Int) (w : World) :
    Calls Tryd.prog 50 #[.int .i64 a] w fun e w' => e = .returned (.int .i64 ((m4 a : Nat) : Int)) ∧ w' = w := by
  have H : Hid (bits BinOp.and IntKind.i64 a 3 = ((m4 a : Nat) : Int)) := bits_and3 a
  go_enter Tryd.func50, Tryd.ntmps50
  go_wp2
  go_ret
  exact ⟨ret_int H.out, rfl⟩

theorem tNot_any (a : Int) (w : World) (hT : Tabs w) :
    Calls Tryd.prog 53 #[.int .i64 a] w fun e w' => e = .returned (.int .i64 (ntV a)) ∧ Below w.heap.size w w' := by
  have hx := m4_lt a
  have hc := hT.n (m4 a) hx
  rw [ntV_m4] at hc
  have cV := value_any a w
  clear hT
  generalize m4 a = x at hx hc cV
  go_enter Tryd.func53, Tryd.ntmps53
  go_wp2_with fail
  refine cV.mono ?_
  rintro e w' ⟨rfl, hw⟩
  replace hw := hw.symm
  subst hw
  clear cV
  go_wp2
  go_ret
  exact ⟨rfl, Below.refl _ _⟩

set_option maxRecDepth 100000 in
theorem tMeet_any (a b : Int) (w : World) (hT : Tabs w) :
    Calls Tryd.prog 51 #[.int .i64 a, .int .i64 b] w fun e w' => e = .returned (.int .i64 (mtV a b)) ∧ Below w.heap.size w w' := by
  have hx := m4_lt a
  have hy := m4_lt b
  have hc := hT.m (m4 a) (m4 b) hx hy
  rw [mtV_m4] at hc
  have cV := fun W => value_any a W
  have cW := fun W => value_any b W
  clear hT
  generalize m4 a = x at hx hc cV
  generalize m4 b = y at hy hc cW
  go_enter Tryd.func51, Tryd.ntmps51
  go_wp2
  go_quiet (first | (go_at_call 50; exact Calls.quiet_of_same (cV _)) | (go_at_call 50; exact Calls.quiet_of_same (cW _)))
  go_wp2
  go_ret
  exact ⟨rfl, below_drewN (Below.refl _ _) _⟩

set_option maxRecDepth 100000 in
theorem tJoin_any (a b : Int) (w : World) (hT : Tabs w) :
    Calls Tryd.prog 34 #[.int .i64 a, .int .i64 b] w fun e w' => e = .returned (.int .i64 (jnV a b)) ∧ Below w.heap.size w w' := by
  have hx := m4_lt a
  have hy := m4_lt b
  have hc := hT.j (m4 a) (m4 b) hx hy
  rw [jnV_m4] at hc
  have cV := fun W => value_any a W
  have cW := fun W => value_any b W
  clear hT
  generalize m4 a = x at hx hc cV
  generalize m4 b = y at hy hc cW
  go_enter Tryd.func34, Tryd.ntmps34
  go_wp2
  go_quiet (first | (go_at_call 50; exact Calls.quiet_of_same (cV _)) | (go_at_call 50; exact Calls.quiet_of_same (cW _)))
  go_wp2
  go_ret
  exact ⟨rfl, below_drewN (Below.refl _ _) _⟩

theorem tmod4 (a : Int) : -3 ≤ Int.tmod a 4 ∧ Int.tmod a 4 ≤ 3 ∧ Int.tmod (Int.tmod a 4 + 4) 4 = a % 4 := by
  have h := Int.tmod_eq_emod (a := a) (b := 4)
  have h2 : ∀ x : Int, 0 ≤ x → Int.tmod x 4 = x % 4 := fun x hx => Int.tmod_eq_emod_of_nonneg hx
  have hb : -3 ≤ Int.tmod a 4 ∧ Int.tmod a 4 ≤ 3 := by
    rw [h]; split <;> simp <;> omega
  refine ⟨hb.1, hb.2, ?_⟩
  rw [h2 _ (by omega), h]
  split <;> simp <;> omega
theorem mod4_cases (a : Int) : a % 4 = 0 ∨ a % 4 = 1 ∨ a % 4 = 2 ∨ a % 4 = 3 := by omega

end Go.Proofs.YtdikaomebbpmhabDoor
