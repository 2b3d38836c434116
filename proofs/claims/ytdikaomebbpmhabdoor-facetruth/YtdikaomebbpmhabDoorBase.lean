/- What the small functions of the layer mask, and those of the document's answer that call few others, hand back; they leave the world as it is. -/
import Derived.WalkKit
import Derived.Test.YtdikaomebbpmhabDoorProg
import Derived.Test.YtdikaomebbpmhabDoorMathAll
namespace Go.Proofs.YtdikaomebbpmhabDoor
open Go.RowKit

theorem ret_bool {a b : Bool} (h : a = b) : Ending.returned (.bool a) = .returned (.bool b) := by rw [h]
theorem ret_int {k : IntKind} {a b : Int} (h : a = b) : Ending.returned (.int k a) = .returned (.int k b) := by rw [h]

set_option maxHeartbeats 400000 in
theorem isDim_any (i : Int) (w : World) :
    Calls Tryd.prog 46 #[.int .i64 i] w fun e w' => e = .returned (.bool (isDimB i)) ∧ w' = w := by
  by_cases h0 : 0 ≤ i
  · by_cases h1 : i < 24
    · go_enter Tryd.func46, Tryd.ntmps46
      go_wp2
      go_ret
      exact ⟨ret_bool (by simp [isDimB, h0, h1]), rfl⟩
    · go_enter Tryd.func46, Tryd.ntmps46
      go_wp2
      go_ret
      exact ⟨ret_bool (by simp [isDimB, h1]), rfl⟩
  · go_enter Tryd.func46, Tryd.ntmps46
    go_wp2
    go_ret
    exact ⟨ret_bool (by simp [isDimB]; omega), rfl⟩

theorem has_bits (s i : Nat) (hs : s < 4294967296) : (bits BinOp.and IntKind.u32 ((s : Int) / 2 ^ i) 1 == 1) = s.testBit i := by
  have e : ((s : Int) / 2 ^ i) = ((s / 2 ^ i : Nat) : Int) := by simp
  have h2 : s / 2 ^ i < 4294967296 := Nat.lt_of_le_of_lt (Nat.div_le_self _ _) hs
  have h3 := bits_and32 (s / 2 ^ i) 1 h2 (by omega)
  rw [e]
  have h4 : bits BinOp.and IntKind.u32 (((s / 2 ^ i : Nat)) : Int) 1 = ((s / 2 ^ i &&& 1 : Nat) : Int) := h3
  rw [h4, Nat.testBit_eq_decide_div_mod_eq, Nat.and_one_is_mod, Bool.eq_iff_iff]
  simp only [beq_iff_eq, decide_eq_true_eq]
  omega

set_option maxHeartbeats 400000 in
theorem has_any (s : Nat) (i : Int) (w : World) (hs : s < 4294967296) :
    Calls Tryd.prog 31 #[.int .u32 s, .int .i64 i] w fun e w' => e = .returned (.bool (hasB s i)) ∧ w' = w := by
  by_cases hd : isDimB i = true
  · have h' : 0 ≤ i ∧ i < 24 := by simpa [isDimB] using hd
    obtain ⟨j, rfl⟩ := Int.eq_ofNat_of_zero_le h'.1
    have hj : j < 24 := by omega
    have hb := has_bits s j hs
    have H : Hid (hasB s (j : Int) = s.testBit j) := hasB_nat hj
    clear h'
    go_enter Tryd.func31, Tryd.ntmps31
    go_wp2_with (go_at_call 46; refine (isDim_any _ _).mono ?_; rintro e w' ⟨rfl, rfl⟩; rw [hd])
    go_ret
    exact ⟨ret_bool (by rw [H.out, ← hb]), rfl⟩
  · have hd : isDimB i = false := by simpa using hd
    have H : Hid (hasB s i = false) := hasB_no hd
    go_enter Tryd.func31, Tryd.ntmps31
    go_wp2_with (go_at_call 46; refine (isDim_any _ _).mono ?_; rintro e w' ⟨rfl, rfl⟩; rw [hd])
    go_ret
    exact ⟨ret_bool (by rw [H.out]), rfl⟩

theorem and_low (s : Nat) (hs : s < 4294967296) : bits BinOp.and IntKind.u32 (s : Int) 16777215 = ((s &&& 16777215 : Nat) : Int) := bits_and32 s 16777215 hs (by decide)
theorem with_bits (s j : Nat) (hs : s < 4294967296) (hj : j < 24) : bits BinOp.or IntKind.u32 (bits BinOp.and IntKind.u32 (s : Int) 16777215) (2 ^ j % 4294967296) = ((withN s (j : Int) : Nat) : Int) := by
  rw [and_low s hs, pow_mod32 j hj, bits_or32 _ _ (by have := low_lt s; omega) (pow_lt j hj), withN, isDimB_nat hj]
  simp
theorem without_bits (s j : Nat) (hs : s < 4294967296) (hj : j < 24) : bits BinOp.andNot IntKind.u32 (bits BinOp.and IntKind.u32 (s : Int) 16777215) (2 ^ j % 4294967296) = ((withoutN s (j : Int) : Nat) : Int) := by
  rw [and_low s hs, pow_mod32 j hj, bits_andNot32, withoutN, isDimB_nat hj]
  simp

set_option maxHeartbeats 400000 in
theorem with_any (s : Nat) (i : Int) (w : World) (hs : s < 4294967296) :
    Calls Tryd.prog 45 #[.int .u32 s, .int .i64 i] w fun e w' => e = .returned (.int .u32 (withN s i : Nat)) ∧ w' = w := by
  by_cases hd : isDimB i = true
  · have h' : 0 ≤ i ∧ i < 24 := by simpa [isDimB] using hd
    obtain ⟨j, rfl⟩ := Int.eq_ofNat_of_zero_le h'.1
    have hj : j < 24 := by omega
    have H : Hid (bits BinOp.or IntKind.u32 (bits BinOp.and IntKind.u32 (s : Int) 16777215) (2 ^ j % 4294967296) = ((withN s (j : Int) : Nat) : Int)) := with_bits s j hs hj
    clear h'
    go_enter Tryd.func45, Tryd.ntmps45
    go_wp2_with (go_at_call 46; refine (isDim_any _ _).mono ?_; rintro e w' ⟨rfl, rfl⟩; rw [hd])
    go_ret
    exact ⟨ret_int H.out, rfl⟩
  · have hd : isDimB i = false := by simpa using hd
    have H : Hid (bits BinOp.and IntKind.u32 (s : Int) 16777215 = ((withN s i : Nat) : Int)) := (and_low s hs).trans (by rw [withN_no hd])
    go_enter Tryd.func45, Tryd.ntmps45
    go_wp2_with (go_at_call 46; refine (isDim_any _ _).mono ?_; rintro e w' ⟨rfl, rfl⟩; rw [hd])
    go_ret
    exact ⟨ret_int H.out, rfl⟩

end Go.Proofs.YtdikaomebbpmhabDoor
