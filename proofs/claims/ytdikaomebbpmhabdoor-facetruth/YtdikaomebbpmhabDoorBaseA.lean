/- What mask.Right and the document's power, Right and Has hand back; they leave the world as it is. -/
import Derived.WalkKit
import Derived.Test.YtdikaomebbpmhabDoorProg
import Derived.Test.YtdikaomebbpmhabDoorMathAll
import Derived.Test.YtdikaomebbpmhabDoorBase
namespace Go.Proofs.YtdikaomebbpmhabDoor
open Go.RowKit

theorem right_bits (s : Nat) (hs : s < 4294967296) : (bits BinOp.andNot IntKind.u32 (s : Int) 16777215 == 0) = rightB s := by
  have h := bits_andNot32 s 16777215
  have h' : bits BinOp.andNot IntKind.u32 (s : Int) 16777215 = ((andNot32 s 16777215 : Nat) : Int) := h
  rw [h', rightB, Bool.eq_iff_iff]
  simp only [beq_iff_eq, decide_eq_true_eq]
  have e : (16777215 : Nat) = 2 ^ 24 - 1 := by decide
  constructor
  · intro hz
    have hz' : andNot32 s 16777215 = 0 := by omega
    exact Nat.lt_pow_two_of_testBit (n := 24) _ (fun k hk => by
      have := testBit_andNot32 s 16777215 k hs
      rw [hz', Nat.zero_testBit, e, Nat.testBit_two_pow_sub_one] at this
      have hk' : ¬ k < 24 := by omega
      simp [hk'] at this
      exact this)
  · intro hlt
    have : andNot32 s 16777215 = 0 := by
      apply Nat.eq_of_testBit_eq
      intro k
      rw [testBit_andNot32 s 16777215 k hs, Nat.zero_testBit, e, Nat.testBit_two_pow_sub_one]
      by_cases hk : k < 24
      · simp [hk]
      · have hp : 2 ^ 24 ≤ 2 ^ k := Nat.pow_le_pow_right (by decide) (by omega)
        have : s.testBit k = false := Nat.testBit_lt_two_pow (Nat.lt_of_lt_of_le hlt hp)
        simp [this]
    omega

set_option maxHeartbeats 400000 in
theorem right_any (s : Nat) (w : World) (hs : s < 4294967296) :
    Calls Tryd.prog 15 #[.int .u32 s] w fun e w' => e = .returned (.bool (rightB s)) ∧ w' = w := by
  have H : Hid ((bits BinOp.andNot IntKind.u32 (s : Int) 16777215 == 0) = rightB s) := right_bits s hs
  go_enter Tryd.func15, Tryd.ntmps15
  go_wp2
  go_ret
  exact ⟨ret_bool H.out, rfl⟩

def powI (n : Nat) : Int := ((2 ^ n : Nat) : Int)
theorem powI_succ (n : Nat) : powI (n + 1) = powI n * 2 := by simp [powI, Nat.pow_succ]
theorem powI_bd {n : Nat} (h : n ≤ 24) : 1 ≤ powI n ∧ powI n ≤ 16777216 := by
  have h1 : (2 : Nat) ^ n ≤ 2 ^ 24 := Nat.pow_le_pow_right (by decide) h
  have h2 : 0 < (2 : Nat) ^ n := Nat.two_pow_pos n
  unfold powI; omega

theorem refHas_num (s j : Nat) : (((s : Int) / powI j) % 2 == 1) = s.testBit j := by
  have e : ((s : Int) / powI j) % 2 = ((s / 2 ^ j % 2 : Nat) : Int) := by simp [powI]
  rw [e, Nat.testBit_eq_decide_div_mod_eq, Bool.eq_iff_iff]
  simp only [beq_iff_eq, decide_eq_true_eq]
  omega

theorem quo_bd (s j : Nat) (hs : s < 4294967296) : 0 ≤ (s : Int) / powI j ∧ (s : Int) / powI j ≤ 4294967295 := by
  have e : (s : Int) / powI j = ((s / 2 ^ j : Nat) : Int) := by simp [powI]
  have := Nat.div_le_self s (2 ^ j)
  rw [e]
  generalize s / 2 ^ j = q at *
  omega

end Go.Proofs.YtdikaomebbpmhabDoor
