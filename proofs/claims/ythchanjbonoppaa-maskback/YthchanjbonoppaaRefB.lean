/- The document's answer: With, Free, Ints, Lift, Drop: what they hand back; nothing that lay before the call turns. -/
import Derived.WalkKit
import Derived.Maps.AppendAt
import Derived.RangeFuncBox
import Derived.Deep.QuietTactic
import Derived.BigQuiet
import Derived.WalkSmall
import Derived.Test.YthchanjbonoppaaProg
import Derived.Test.YthchanjbonoppaaMath
import Derived.Test.YthchanjbonoppaaMathB
import Derived.Test.YthchanjbonoppaaBase
import Derived.Test.YthchanjbonoppaaBaseA
import Derived.Test.YthchanjbonoppaaRefA
namespace Go.Proofs.Ythchanjbonoppaa
open Go.RowKit

set_option maxRecDepth 100000 in
set_option maxHeartbeats 1000000 in
theorem refWith_any (s : Nat) (i : Int) (w : World) (hs : s < 4294967296) :
    Calls Try.prog 14 #[.int .u32 s, .int .i64 i] w fun e w' => e = .returned (.int .u32 (withN s i : Nat)) ∧ Below w.heap.size w w' := by
  by_cases h0 : i < 0
  · have HE : Hid (withoutN s (-1) = withN s i) := (withoutN_no (isDimB_lo (by omega))).trans (withN_no (isDimB_lo h0)).symm
    go_enter Try.func14, Try.ntmps14
    go_wp2_with (go_at_call 16; refine (refWithout_any _ _ _ hs).mono ?_; rintro e w1 ⟨rfl, hB1⟩)
    go_ret
    exact ⟨ret_int (by rw [HE.out]), hB1⟩
  · by_cases h1 : 24 ≤ i
    · have HE : Hid (withoutN s (-1) = withN s i) := (withoutN_no (isDimB_lo (by omega))).trans (withN_no (isDimB_hi h1)).symm
      go_enter Try.func14, Try.ntmps14
      go_wp2_with (go_at_call 16; refine (refWithout_any _ _ _ hs).mono ?_; rintro e w1 ⟨rfl, hB1⟩)
      go_ret
      exact ⟨ret_int (by rw [HE.out]), hB1⟩
    · obtain ⟨j, rfl⟩ := Int.eq_ofNat_of_zero_le (by omega : 0 ≤ i)
      have hj : j < 24 := by omega
      have hxl : withoutN s (j : Int) < 4294967296 := by have := withoutN_lt s (j : Int); omega
      have hdl := dimsOf_length_le (withoutN s (j : Int))
      have HE : Hid (sumAll (dimsOf (withoutN s (j : Int)) ++ [j]) = withN s (j : Int)) := with_sum s j hj
      have H24 : Hid (∀ k ∈ dimsOf (withoutN s (j : Int)) ++ [j], k < 24) := fun k hk => by
        rcases List.mem_append.1 hk with h | h
        · exact dimsOf_lt k h
        · simp at h; omega
      obtain ⟨i0, hi, hz0, hz1, hz2⟩ := info_parts Try.infoInt
      obtain ⟨x, hx⟩ : ∃ x, x = withoutN s (j : Int) := ⟨_, rfl⟩
      have hw := refWithout_any s (j : Int) w hs
      rw [← hx] at hxl hdl HE H24 hw
      clear hx
      go_enter Try.func14, Try.ntmps14
      go_wp2_with (first
        | (go_at_call 16; refine hw.mono ?_; rintro e w1 ⟨rfl, hB1⟩)
        | (go_at_call 19; refine (refList_any _ _ hxl).mono ?_; rintro e w2 ⟨v, rfl, hL, hB2⟩)
        | (at_builtin; refine wpList_append_own _ rfl _ _ 28 rfl w1.heap.size 3 i0 (.int .i64 0) 1 8 Try.underlying28 hi hz0 hz1 hz2 rfl (by decide) _ _ _ rfl (World.ownsRow.alloc hL _) ⟨_, 0, none⟩ 1 1 [.int .i64 j] rfl rfl (cell_one_new _ _ _) (by simp [Value.oneCell']) (by unfold maxLen; omega) (by omega) (by have := hB2.size; simp; omega) ?_; intro v' w3 hown' hgrow _; have hL3 : OwnsL w3 w1.heap.size v' (dimsOf x ++ [j]) := (by simpa [OwnsL, encI] using hown'); have hR3 := hL3.rowAt; have hB3 : Below w1.heap.size w1 w3 := (hB2.alloc hB2.size _).grown hgrow (by have := hB2.size; simp; omega) (fun k' e => (World.ownsRow.lt hL k' e).1); clear hL3 hown' hgrow)
        | (go_at_call 30; refine (refSet_any _ _ _ hR3 H24.out (by simp; omega)).mono ?_; rintro e w4 ⟨rfl, rfl⟩))
      go_ret
      exact ⟨ret_int (by rw [HE.out]), hB1.trans (hB3.mono hB1.size)⟩

set_option maxRecDepth 100000 in
set_option maxHeartbeats 1000000 in
theorem refFree_any (s : Nat) (w : World) (hs : s < 4294967296) :
    Calls Try.prog 23 #[.int .u32 s] w fun e w' => e = .returned (.int .i64 (freeI s)) ∧ w' = w := by
  go_enter Try.func23, Try.ntmps23
  go_wp2
  go_loop [3] (fun i => ∃ k : Nat, k ≤ 24 ∧ i = .int .i64 k ∧ Hid (∀ j, j < k → s.testBit j = true)) (fun i => 24 - (intOf i).toNat)
  case atStart => exact ⟨0, by omega, rfl, fun j hj => by omega⟩
  case round =>
    obtain ⟨k, hk, rfl, HA⟩ := hrel
    by_cases hlt : k < 24
    · by_cases hb : s.testBit k = true
      · have hh : hasB s (k : Int) = true := by rw [hasB_nat hlt]; exact hb
        have HU : Hid (∀ j, j < k + 1 → s.testBit j = true) := fun j hj => by
          by_cases e : j = k
          · rw [e]; exact hb
          · exact HA.out j (by omega)
        clear hb
        go_wp2_with (go_at_call 12; refine (refHas_any _ _ _ hs).mono ?_; rintro e w' ⟨rfl, rfl⟩; rw [hh])
        go_round
        case rel => exact ⟨k + 1, by omega, by go_num, HU⟩
        case measure => simp [intOf]; omega
      · have hb : s.testBit k = false := by simpa using hb
        have hh : hasB s (k : Int) = false := by rw [hasB_nat hlt]; exact hb
        have HU : Hid (freeI s = (k : Int)) := freeI_at HA.out hlt hb
        clear hb
        go_wp2_with (go_at_call 12; refine (refHas_any _ _ _ hs).mono ?_; rintro e w' ⟨rfl, rfl⟩; rw [hh])
        go_ret
        exact ⟨ret_int HU.out.symm, rfl⟩
    · obtain rfl : k = 24 := by omega
      have HU : Hid (freeI s = -1) := freeI_none HA.out
      go_wp2
      go_ret
      exact ⟨ret_int HU.out.symm, rfl⟩

set_option maxRecDepth 100000 in
set_option maxHeartbeats 1000000 in
theorem refInts_same (l : List Nat) (a b : Value) (w : World) (ha : RowAt w a l) (hb : RowAt w b l) (hl : l.length ≤ 64) :
    Calls Try.prog 20 #[a, b] w fun e w' => e = .returned (.bool true) ∧ Below w.heap.size w w' := by
  by_cases hz : l = []
  · subst hz
    have nil_len : ∀ v, RowAt w v [] → ∃ p c, v = .slice p 0 c := fun v h => by
      rcases h with ⟨rfl, _⟩ | ⟨g, cap, rfl, _⟩
      · exact ⟨_, _, rfl⟩
      · exact ⟨_, _, rfl⟩
    obtain ⟨p, c, rfl⟩ := nil_len a ha
    obtain ⟨q, d, rfl⟩ := nil_len b hb
    clear ha hb
    go_enter Try.func20, Try.ntmps20
    go_wp2
    go_loop [5] (fun i => i = .int .i64 0) (fun _ => 0)
    case atStart => rfl
    case round =>
      subst hrel
      go_wp2
      go_ret
      exact ⟨rfl, Below.refl _ _⟩
  · rcases ha with ⟨_, h⟩ | ⟨g, cap, rfl, hg, hc⟩
    · exact absurd h hz
    rcases hb with ⟨_, h⟩ | ⟨g2, cap2, rfl, hg2, hc2⟩
    · exact absurd h hz
    obtain ⟨n, hn⟩ : ∃ n, n = l.length := ⟨_, rfl⟩
    rw [← hn] at hc hc2 hl ⊢
    clear hn
    go_enter Try.func20, Try.ntmps20
    go_wp2
    go_loopw [5] (fun i wr => ∃ k : Nat, k ≤ n ∧ i = .int .i64 k ∧ Below w.heap.size w wr) (fun i _ => n - (intOf i).toNat)
    case atStart => exact ⟨0, by omega, rfl, Below.refl _ _⟩
    case round =>
      obtain ⟨k, hk, rfl, hB⟩ := hrel
      by_cases hlt : k < n
      · have hck := (hB.cell (p := ⟨g, k, none⟩) hg).trans (hc k hlt)
        have hck2 := (hB.cell (p := ⟨g2, k, none⟩) hg2).trans (hc2 k hlt)
        clear hc hc2
        go_wp2
        go_quiet (fail)
        go_wp2
        go_roundw
        case rel => exact ⟨k + 1, by omega, by go_num, below_drewN hB _⟩
        case measure => simp [intOf]; omega
      · go_wp2
        go_ret
        exact ⟨rfl, hB⟩
end Go.Proofs.Ythchanjbonoppaa
