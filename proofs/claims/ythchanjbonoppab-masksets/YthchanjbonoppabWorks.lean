/- The chapter's examples hold at the code: works() returns true; nothing that lay before the call turns. -/
import Derived.Test.YthchanjbonoppabLoopsD
namespace Go.Proofs.Ythchanjbonoppab
open Go.RowKit

theorem chain {a b c : World} (h1 : Below a.heap.size a b) (h2 : Below b.heap.size b c) : Below a.heap.size a c := h1.trans (h2.mono h1.size)
def liftZ (a fr by_ : Int) : Int := (liftN a.toNat fr by_ : Nat)
def liftEZ (a fr by_ : Int) : Int := liftE a.toNat fr by_
def freeZ (a : Int) : Int := freeI a.toNat
def dropZ (a i : Int) : Int := (dropN a.toNat i : Nat)
theorem lift_int (a fr by_ : Int) (w : World) (h0 : 0 ≤ a) (h1 : a < 4294967296) :
    Calls Try.prog 9 #[.int .u32 a, .int .i64 fr, .int .i64 by_] w fun e W' => e = .returned (.tuple #[.int .u32 (liftZ a fr by_), .int .i64 (liftEZ a fr by_)]) ∧ Below w.heap.size w W' := by
  obtain ⟨s, rfl⟩ := Int.eq_ofNat_of_zero_le h0
  exact lift_any s fr by_ w (by omega)
theorem free_int (a : Int) (w : World) (h0 : 0 ≤ a) (h1 : a < 4294967296) :
    Calls Try.prog 12 #[.int .u32 a] w fun e W' => e = .returned (.int .i64 (freeZ a)) ∧ Below w.heap.size w W' := by
  obtain ⟨s, rfl⟩ := Int.eq_ofNat_of_zero_le h0
  exact free_any s w (by omega)
theorem drop_int (a i : Int) (w : World) (h0 : 0 ≤ a) (h1 : a < 4294967296) :
    Calls Try.prog 13 #[.int .u32 a, .int .i64 i] w fun e W' => e = .returned (.int .u32 (dropZ a i)) ∧ Below w.heap.size w W' := by
  obtain ⟨s, rfl⟩ := Int.eq_ofNat_of_zero_le h0
  exact drop_any s i w (by omega)
theorem list_13 (w : World) :
    Calls Try.prog 11 #[.int .u32 13] w fun e W' => ∃ v, e = .returned v ∧ RowAt W' v [0, 2, 3] ∧ Below w.heap.size w W' := by
  have hd : dimsOf 13 = [0, 2, 3] := by decide +kernel
  have h := list_any 13 w (by decide)
  refine Calls.mono h ?_
  rintro e W' ⟨v, rfl, hL, hB⟩
  rw [hd] at hL
  exact ⟨v, rfl, hL.rowAt, hB⟩
theorem row_023 (w : World) : RowAt (w.alloc (.cells #[.int .i64 0, .int .i64 2, .int .i64 3] 3)) (.slice (some ⟨w.heap.size, 0, none⟩) 3 3) [0, 2, 3] := by
  have h := World.ownsRow_lit (base := 0) (e := 3) (size := 1) w #[.int .i64 0, .int .i64 2, .int .i64 3] 3 (by omega) (by unfold maxLen; omega) rfl
  have h2 : OwnsL (w.alloc (.cells #[.int .i64 0, .int .i64 2, .int .i64 3] 3)) 0 (.slice (some ⟨w.heap.size, 0, none⟩) 3 3) [0, 2, 3] := h
  exact h2.rowAt

set_option maxRecDepth 100000 in
set_option maxHeartbeats 2000000 in
theorem works_any (w : World) : Calls Try.prog 4 #[] w fun e w' => e = .returned (.bool true) ∧ Below w.heap.size w w' := by
  have e1 : liftZ 13 1 2 = 49 := by decide +kernel
  have e2 : liftEZ 13 1 2 = 0 := by decide +kernel
  have e4 : liftEZ 8388608 0 1 = 10 := by decide +kernel
  have e5 : freeZ 13 = 1 := by decide +kernel
  have e6 : dropZ 49 1 = 25 := by decide +kernel
  go_enter Try.func4, Try.ntmps4
  go_wp2_with (first
    | (go_at_call 9; refine (lift_int _ _ _ _ (by omega) (by omega)).mono ?_; rintro e w1 ⟨rfl, hB1⟩)
    | (go_at_call 11; refine (list_13 _).mono ?_; rintro e w3 ⟨v, rfl, hR, hB3⟩; have hR2 := hR.below ((Below.refl w3.heap.size w3).alloc (Nat.le_refl _) (.cells #[.int .i64 0, .int .i64 2, .int .i64 3] 3)); have hR3 := row_023 w3)
    | (go_at_call 10; refine (refInts_same [0, 2, 3] _ _ _ hR2 hR3 (by simp)).mono ?_; rintro e w4 ⟨rfl, hB4⟩)
    | (go_at_call 12; refine (free_int _ _ (by omega) (by omega)).mono ?_; rintro e w5 ⟨rfl, hB5⟩)
    | (go_at_call 13; refine (drop_int _ _ _ (by omega) (by omega)).mono ?_; rintro e w6 ⟨rfl, hB6⟩))
  rename_i wa hBa
  go_ret
  exact ⟨rfl, chain (chain (chain (chain (chain (chain hBa hB1) hB3) ((Below.refl _ _).alloc (Nat.le_refl _) _)) hB4) hB5) hB6⟩
end Go.Proofs.Ythchanjbonoppab
