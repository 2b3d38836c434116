/- The walks of the laws MaskAsks, MaskLists, MaskLifts, MaskDrops: each call returns true; nothing that lay before it turns. -/
import Derived.OpenShut
import Derived.Test.YthchanjbonoppaaWorks
namespace Go.Proofs.Ythchanjbonoppaa
open Go.RowKit

set_option maxRecDepth 100000 in
set_option maxHeartbeats 2000000 in
theorem walk_MaskAsks (a0 a1 : Int) (w0 : (Lit.int .u32 a0).wf = true) (_ : (Lit.int .i64 a1).wf = true) (w : World) :
    Calls Try.prog 3 #[.int .u32 a0, .int .i64 a1] w fun e w' => e = .returned (.bool true) ∧ Below w.heap.size w w' := by
  have hb := bounds_u32 w0
  obtain ⟨s, rfl⟩ := Int.eq_ofNat_of_zero_le hb.1
  have hs : s < 4294967296 := by omega
  clear hb w0
  go_enter Try.func3, Try.ntmps3
  go_wp2_with (first
    | (go_at_call 9; refine (right_any _ _ hs).mono ?_; rintro e wa ⟨rfl, rfl⟩)
    | (go_at_call 10; refine (refRight_any _ _ hs).mono ?_; rintro e wa ⟨rfl, rfl⟩)
    | (go_at_call 11; refine (has_any _ _ _ hs).mono ?_; rintro e wa ⟨rfl, rfl⟩)
    | (go_at_call 12; refine (refHas_any _ _ _ hs).mono ?_; rintro e wa ⟨rfl, rfl⟩)
    | (go_at_call 13; refine (with_any _ _ _ hs).mono ?_; rintro e wa ⟨rfl, rfl⟩)
    | (go_at_call 14; refine (refWith_any _ _ _ hs).mono ?_; rintro e w1 ⟨rfl, hB1⟩)
    | (go_at_call 15; refine (without_any _ _ _ hs).mono ?_; rintro e wa ⟨rfl, rfl⟩)
    | (go_at_call 16; refine (refWithout_any _ _ _ hs).mono ?_; rintro e w2 ⟨rfl, hB2⟩)
    | (go_at_call 17; refine (works_any _).mono ?_; rintro e w3 ⟨rfl, hB3⟩))
  go_ret
  exact ⟨rfl, chain (chain hB1 hB2) hB3⟩

theorem rows_len {w : World} {v : Value} {l : List Nat} (h : RowAt w v l) : ∃ p c, v = .slice p l.length c := by
  rcases h with ⟨rfl, rfl⟩ | ⟨g, cap, rfl, _⟩
  · exact ⟨_, _, rfl⟩
  · exact ⟨_, _, rfl⟩
theorem refList_row (s : Nat) (w : World) (hs : s < 4294967296) :
    Calls Try.prog 19 #[.int .u32 s] w fun e w' => ∃ p c, e = .returned (.slice p (countN s) c) ∧ RowAt w' (.slice p (countN s) c) (dimsOf s) ∧ Below w.heap.size w w' := by
  refine (refList_any s w hs).mono ?_
  rintro e w' ⟨v, rfl, hL, hB⟩
  obtain ⟨p, c, rfl⟩ := rows_len hL.rowAt
  exact ⟨p, c, rfl, hL.rowAt, hB⟩
theorem list_row (s : Nat) (w : World) (hs : s < 4294967296) :
    Calls Try.prog 21 #[.int .u32 s] w fun e w' => ∃ p c, e = .returned (.slice p (countN s) c) ∧ RowAt w' (.slice p (countN s) c) (dimsOf s) ∧ Below w.heap.size w w' := by
  refine (list_any s w hs).mono ?_
  rintro e w' ⟨v, rfl, hL, hB⟩
  obtain ⟨p, c, rfl⟩ := rows_len hL.rowAt
  exact ⟨p, c, rfl, hL.rowAt, hB⟩

set_option maxRecDepth 100000 in
set_option maxHeartbeats 2000000 in
theorem walk_MaskLists (a0 : Int) (w0 : (Lit.int .u32 a0).wf = true) (w : World) :
    Calls Try.prog 4 #[.int .u32 a0] w fun e w' => e = .returned (.bool true) ∧ Below w.heap.size w w' := by
  have hb := bounds_u32 w0
  obtain ⟨s, rfl⟩ := Int.eq_ofNat_of_zero_le hb.1
  have hs : s < 4294967296 := by omega
  have hcl : countN s ≤ 24 := dimsOf_length_le s
  have HL : Hid ((dimsOf s).length ≤ 64) := by have := dimsOf_length_le s; show _ ≤ _; omega
  clear hb w0
  go_enter Try.func4, Try.ntmps4
  go_wp2_with (first
    | (go_at_call 18; refine (count_any _ _ hs).mono ?_; rintro e w1 ⟨rfl, hB1⟩)
    | (go_at_call 21; refine (list_row _ _ hs).mono ?_; rintro e w3 ⟨p3, c3, rfl, hR3, hB3⟩)
    | (go_at_call 19; refine (refList_row _ _ hs).mono ?_; rintro e w2 ⟨p2, c2, rfl, hR2, hB2⟩)
    | (go_at_call 20; refine (refInts_same _ _ _ _ (hR3.below hB2) hR2 HL.out).mono ?_; rintro e w4 ⟨rfl, hB4⟩)
    | (go_at_call 22; refine (free_any _ _ hs).mono ?_; rintro e w5 ⟨rfl, hB5⟩)
    | (go_at_call 23; refine (refFree_any _ _ hs).mono ?_; rintro e wa ⟨rfl, rfl⟩)
    | (go_at_call 17; refine (works_any _).mono ?_; rintro e w6 ⟨rfl, hB6⟩))
  rename_i wb pb cb hRb hBb
  go_ret
  exact ⟨rfl, chain (chain (chain (chain (chain (chain hB1 hBb) hB3) hB2) hB4) hB5) hB6⟩

set_option maxRecDepth 100000 in
set_option maxHeartbeats 2000000 in
theorem walk_MaskLifts (a0 a1 a2 : Int) (w0 : (Lit.int .u32 a0).wf = true) (_ : (Lit.int .i64 a1).wf = true) (_ : (Lit.int .i64 a2).wf = true) (w : World) :
    Calls Try.prog 5 #[.int .u32 a0, .int .i64 a1, .int .i64 a2] w fun e w' => e = .returned (.bool true) ∧ Below w.heap.size w w' := by
  have hb := bounds_u32 w0
  obtain ⟨s, rfl⟩ := Int.eq_ofNat_of_zero_le hb.1
  have hs : s < 4294967296 := by omega
  clear hb w0
  go_enter Try.func5, Try.ntmps5
  go_wp2_with (first
    | (go_at_call 24; refine (lift_any _ _ _ _ hs).mono ?_; rintro e w1 ⟨rfl, hB1⟩)
    | (go_at_call 25; refine (refLift_any _ _ _ _ hs).mono ?_; rintro e w2 ⟨rfl, hB2⟩)
    | (go_at_call 17; refine (works_any _).mono ?_; rintro e w3 ⟨rfl, hB3⟩))
  go_ret
  exact ⟨rfl, chain (chain hB1 hB2) hB3⟩

set_option maxRecDepth 100000 in
set_option maxHeartbeats 2000000 in
theorem walk_MaskDrops (a0 a1 : Int) (w0 : (Lit.int .u32 a0).wf = true) (_ : (Lit.int .i64 a1).wf = true) (w : World) :
    Calls Try.prog 6 #[.int .u32 a0, .int .i64 a1] w fun e w' => e = .returned (.bool true) ∧ Below w.heap.size w w' := by
  have hb := bounds_u32 w0
  obtain ⟨s, rfl⟩ := Int.eq_ofNat_of_zero_le hb.1
  have hs : s < 4294967296 := by omega
  clear hb w0
  go_enter Try.func6, Try.ntmps6
  go_wp2_with (first
    | (go_at_call 26; refine (drop_any _ _ _ hs).mono ?_; rintro e w1 ⟨rfl, hB1⟩)
    | (go_at_call 27; refine (refDrop_any _ _ _ hs).mono ?_; rintro e w2 ⟨rfl, hB2⟩)
    | (go_at_call 17; refine (works_any _).mono ?_; rintro e w3 ⟨rfl, hB3⟩))
  go_ret
  exact ⟨rfl, chain (chain hB1 hB2) hB3⟩
end Go.Proofs.Ythchanjbonoppaa
