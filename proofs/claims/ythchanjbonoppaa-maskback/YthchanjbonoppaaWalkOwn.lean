/- The walks of the laws MaskBack and MaskAdds: each call returns true; nothing that lay before it turns. -/
import Derived.OpenShut
import Derived.Test.YthchanjbonoppaaWalkRef
import Derived.Test.YthchanjbonoppaaMathC
namespace Go.Proofs.Ythchanjbonoppaa
open Go.RowKit

set_option maxRecDepth 100000 in
set_option maxHeartbeats 2000000 in
theorem walk_MaskBack (a0 a1 : Int) (w0 : (Lit.int .u32 a0).wf = true) (_ : (Lit.int .i64 a1).wf = true) (w : World) :
    Calls Try.prog 7 #[.int .u32 a0, .int .i64 a1] w fun e w' => e = .returned (.bool true) ∧ Below w.heap.size w w' := by
  have hb := bounds_u32 w0
  obtain ⟨s, rfl⟩ := Int.eq_ofNat_of_zero_le hb.1
  have hs : s < 4294967296 := by omega
  clear hb w0
  by_cases h0 : a1 < 0
  · go_enter Try.func7, Try.ntmps7
    go_wp2_with (go_at_call 17; refine (works_any _).mono ?_; rintro e w1 ⟨rfl, hB1⟩)
    go_ret
    exact ⟨rfl, hB1⟩
  · by_cases h1 : 24 ≤ a1
    · go_enter Try.func7, Try.ntmps7
      go_wp2_with (go_at_call 17; refine (works_any _).mono ?_; rintro e w1 ⟨rfl, hB1⟩)
      go_ret
      exact ⟨rfl, hB1⟩
    · obtain ⟨j, rfl⟩ := Int.eq_ofNat_of_zero_le (by omega : 0 ≤ a1)
      have hj : j < 24 := by omega
      rcases liftE_cases (s := s) (fr := (j : Int)) (by_ := 1) (by omega) (by omega) with ⟨hE, hbad⟩ | ⟨hE, hbad⟩
      · obtain ⟨e1, e2, e3⟩ := back_ok hj hbad
        have hx : liftN s (j : Int) 1 < 4294967296 := by have := liftN_lt s (j : Int) 1; omega
        have hl := fun w => lift_any s (j : Int) 1 w hs
        clear hbad
        obtain ⟨x, hxe⟩ : ∃ x, x = liftN s (j : Int) 1 := ⟨_, rfl⟩
        rw [← hxe] at e1 e2 e3 hx hl
        rw [hE] at hl
        clear hxe hE
        go_enter Try.func7, Try.ntmps7
        go_wp2_with (first
          | (go_at_call 17; refine (works_any _).mono ?_; rintro e w1 ⟨rfl, hB1⟩)
          | (go_at_call 24; refine (hl _).mono ?_; clear hl; rintro e w2 ⟨rfl, hB2⟩)
          | (go_at_call 11; refine (has_any _ _ _ hx).mono ?_; rintro e wa ⟨rfl, rfl⟩)
          | (go_at_call 18; refine (count_any _ _ (by assumption)).mono ?_; rintro e w3 ⟨rfl, hB3⟩)
          | (go_at_call 26; refine (drop_any _ _ _ hx).mono ?_; rintro e w4 ⟨rfl, hB4⟩)
          | (go_at_call 15; refine (without_any _ _ _ hs).mono ?_; rintro e wa ⟨rfl, rfl⟩))
        rename_i wc hBc
        go_ret
        exact ⟨rfl, chain (chain (chain (chain hB1 hB2) hBc) hB3) hB4⟩
      · have e1 := back_bad hbad
        clear hbad
        go_enter Try.func7, Try.ntmps7
        go_wp2_with (first
          | (go_at_call 17; refine (works_any _).mono ?_; rintro e w1 ⟨rfl, hB1⟩)
          | (go_at_call 24; refine (lift_any _ _ _ _ hs).mono ?_; rintro e w2 ⟨rfl, hB2⟩)
          | (go_at_call 11; refine (has_any _ _ _ hs).mono ?_; rintro e wa ⟨rfl, rfl⟩))
        go_ret
        exact ⟨rfl, chain hB1 hB2⟩
end Go.Proofs.Ythchanjbonoppaa
