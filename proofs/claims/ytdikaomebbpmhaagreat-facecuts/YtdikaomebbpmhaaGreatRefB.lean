/- The document's answer: With and Free: what they hand back; nothing that lay before the call turns. -/
import Derived.WalkKit
import Derived.Maps.AppendAt
import Derived.RangeFuncBox
import Derived.Deep.QuietTactic
import Derived.BigQuiet
import Derived.WalkSmall
import Derived.Test.YtdikaomebbpmhaaGreatProg
import Derived.Test.YtdikaomebbpmhaaGreatMathAll
import Derived.Test.YtdikaomebbpmhaaGreatBase
import Derived.Test.YtdikaomebbpmhaaGreatBaseA
import Derived.Test.YtdikaomebbpmhaaGreatRefA
import Derived.Test.YtdikaomebbpmhaaGreatInts
namespace Go.Proofs.YtdikaomebbpmhaaGreat
open Go.RowKit

set_option maxRecDepth 100000 in
set_option maxHeartbeats 1000000 in
theorem refWith_any (s : Nat) (i : Int) (w : World) (hs : s < 4294967296) :
    Calls Tryz.prog 71 #[.int .u32 s, .int .i64 i] w fun e w' => e = .returned (.int .u32 (withN s i : Nat)) ∧ Below w.heap.size w w' := by
  by_cases h0 : i < 0
  · have HE : Hid (withoutN s (-1) = withN s i) := (withoutN_no (isDimB_lo (by omega))).trans (withN_no (isDimB_lo h0)).symm
    go_enter Tryz.func71, Tryz.ntmps71
    go_wp2_with (go_at_call 38; refine (refWithout_any _ _ _ hs).mono ?_; rintro e w1 ⟨rfl, hB1⟩)
    go_ret
    exact ⟨ret_int (by rw [HE.out]), hB1⟩
  · by_cases h1 : 24 ≤ i
    · have HE : Hid (withoutN s (-1) = withN s i) := (withoutN_no (isDimB_lo (by omega))).trans (withN_no (isDimB_hi h1)).symm
      go_enter Tryz.func71, Tryz.ntmps71
      go_wp2_with (go_at_call 38; refine (refWithout_any _ _ _ hs).mono ?_; rintro e w1 ⟨rfl, hB1⟩)
      go_ret
      exact ⟨ret_int (by rw [HE.out]), hB1⟩
    · obtain ⟨j, rfl⟩ := Int.eq_ofNat_of_zero_le (by omega : 0 ≤ i)
      have hj : j < 24 := by omega
      have hxl : withoutN s (j : Int) < 4294967296 := by have := withoutN_lt s (j : Int); omega
      have hdl := dimsOf_length_le (withoutN s (j : Int))
      have HE : Hid (sumAll (dimsOf (withoutN s (j : Int)) ++ [j]) = withN s (j : Int)) := with_sum s j hj
      have H24 : Hid (∀ k ∈ dimsOf (withoutN s (j : Int)) ++ [j], k < 24) := fun k hk => by
        rcases List.mem_append.1 hk with h | h
        · exact dimsOf_lt k h
        · simp at h; omega
      obtain ⟨i0, hi, hz0, hz1, hz2⟩ := info_parts Tryz.infoInt
      obtain ⟨x, hx⟩ : ∃ x, x = withoutN s (j : Int) := ⟨_, rfl⟩
      have hw := refWithout_any s (j : Int) w hs
      rw [← hx] at hxl hdl HE H24 hw
      clear hx
      go_enter Tryz.func71, Tryz.ntmps71
      go_wp2_with (first
        | (go_at_call 38; refine hw.mono ?_; rintro e w1 ⟨rfl, hB1⟩)
        | (go_at_call 50; refine (refList_any _ _ hxl).mono ?_; rintro e w2 ⟨v, rfl, hL, hB2⟩)
        | (at_builtin; refine wpList_append_own _ rfl _ _ 55 rfl w1.heap.size 3 i0 (.int .i64 0) 1 8 Tryz.underlying55 hi hz0 hz1 hz2 rfl (by decide) _ _ _ rfl (World.ownsRow.alloc hL _) ⟨_, 0, none⟩ 1 1 [.int .i64 j] rfl rfl (cell_one_new _ _ _) (by simp [Value.oneCell']) (by unfold maxLen; omega) (by omega) (by have := hB2.size; simp; omega) ?_; intro v' w3 hown' hgrow _; have hL3 : OwnsL w3 w1.heap.size v' (dimsOf x ++ [j]) := (by simpa [OwnsL, encI] using hown'); have hR3 := hL3.rowAt; have hB3 : Below w1.heap.size w1 w3 := (hB2.alloc hB2.size _).grown hgrow (by have := hB2.size; simp; omega) (fun k' e => (World.ownsRow.lt hL k' e).1); clear hL3 hown' hgrow)
        | (go_at_call 61; refine (refSet_any _ _ _ hR3 H24.out (by simp; omega)).mono ?_; rintro e w4 ⟨rfl, rfl⟩))
      go_ret
      exact ⟨ret_int (by rw [HE.out]), hB1.trans (hB3.mono hB1.size)⟩

end Go.Proofs.YtdikaomebbpmhaaGreat
