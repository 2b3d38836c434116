/- What is asked of a node: its number, its name. -/
import Derived.Deep.QuietTactic
import Derived.BigQuiet
import Derived.WalkSmall
import Derived.Test.YtocfamcclfhkcaaGreatFB
import Derived.Test.YtocfamcclfhkcaaGreatYKinds
namespace Go.Proofs.YtocfamcclfhkcaaGreat
open Go.RowKit
set_option linter.unusedVariables false
set_option linter.unusedSimpArgs false

set_option maxRecDepth 100000 in
set_option maxHeartbeats 1000000 in
theorem letter_any (c : UInt8) (w : World) : Calls Tryz.prog 170 #[.int .u8 (c.toNat : Int)] w fun e w' => e = .returned (.bool (letterU c)) ∧ w' = w := by
  have hc : c.toNat < 256 := c.toNat_lt
  have HL : Hid (letterU c = ((97 ≤ c.toNat && c.toNat ≤ 122) || (65 ≤ c.toNat && c.toNat ≤ 90) || c.toNat == 95)) := rfl
  generalize c.toNat = n at *
  go_enter Tryz.func170, Tryz.ntmps170
  go_wp2
  all_goals
    go_ret
    refine ⟨ret_bool ?_, rfl⟩
    rw [HL.out, Bool.eq_iff_iff]
    simp
    omega
theorem bdrewN {n : Nat} {w w' : World} (h : Below n w w') (k : Nat) : Below n w (w'.drewN k) := ⟨h.os, h.tape, h.output, h.size, h.block⟩
def outV (V : Int) (D : Nat) (o : Bool) : Value := .agg #[.int .i64 V, .int .i64 (D : Int), .bool o]
set_option maxRecDepth 100000 in
set_option maxHeartbeats 2000000 in
theorem number_any (V : Int) (D : Nat) (o : Bool) (bv bd g off : Nat) (t : Tm) (w : World) (hl : g < w.heap.size) (h0 : w.cell? ⟨g, off, none⟩ = some (.int .i64 t.kind)) (h1 : w.cell? ⟨g, off + 1, none⟩ = some (.int .i64 t.n)) (hn : I64 t.n) (hb : bv ≤ 1000000) :
    Calls Tryz.prog 151 #[.agg #[.int .i64 V, .int .i64 (D : Int), .bool o], .pointer (some ⟨g, off, none⟩), .agg #[.int .i64 (bv : Int), .int .i64 (bd : Int)]] w fun e w' => e = .returned (.bool (numB o V bv t.kind t.n)) ∧ Below w.heap.size w w' := by
  obtain ⟨k, hk⟩ : ∃ k, k = t.kind := ⟨_, rfl⟩
  obtain ⟨n, hnn⟩ : ∃ n, n = t.n := ⟨_, rfl⟩
  rw [← hk] at h0
  rw [← hnn] at h1 hn
  have HR : Hid (numB o V bv t.kind t.n = if k = 1 then decide (0 ≤ n) && (o || decide (n - bv < V)) else decide (n = 0)) := by show _ = _; rw [hk, hnn]; rfl
  clear hk hnn
  obtain ⟨w2, hw2⟩ : ∃ w2, w2 = (w.alloc (.cells #[.int .i64 V, .int .i64 (D : Int), .bool o] 48)).alloc (.cells #[.int .i64 (bv : Int), .int .i64 (bd : Int)] 90) := ⟨_, rfl⟩
  have hb2 : Below w.heap.size w w2 := by rw [hw2]; exact bchain (belowA _ _) (belowA _ _)
  have m1 : w2.heap[w.heap.size]? = some (.cells #[.int .i64 V, .int .i64 (D : Int), .bool o] 48 (0, 0)) := by
    rw [hw2]; exact (Below.heap_alloc _ _ _ (by simp)).trans (heapNew w _)
  have m2 : w2.heap[w.heap.size + 1]? = some (.cells #[.int .i64 (bv : Int), .int .i64 (bd : Int)] 90 (0, 0)) := by
    rw [hw2]; have := heapNew (w.alloc (.cells #[.int .i64 V, .int .i64 (D : Int), .bool o] 48)) (.cells #[.int .i64 (bv : Int), .int .i64 (bd : Int)] 90); rwa [World.size_alloc] at this
  have x0 : w2.cell? ⟨w.heap.size, 0, none⟩ = some (.int .i64 V) := by unfold World.cell?; simp [m1]
  have x2 : w2.cell? ⟨w.heap.size, 2, none⟩ = some (.bool o) := by unfold World.cell?; simp [m1]
  have y0 : w2.cell? ⟨w.heap.size + 1, 0, none⟩ = some (.int .i64 (bv : Int)) := by unfold World.cell?; simp [m2]
  have d0 := (hb2.cell (p := ⟨g, off, none⟩) hl).trans h0
  have d1 := (hb2.cell (p := ⟨g, off + 1, none⟩) hl).trans h1
  have H2 : Hid (_ = _) := hw2
  clear hw2 m1 m2
  unfold I64 at hn
  go_enter Tryz.func151, Tryz.ntmps151
  go_upto_region 1 with fail
  rw [← H2.out]
  by_cases hk : k = 1
  · subst hk
    by_cases hn0 : 0 ≤ n
    · cases o with
      | true =>
        go_wp2
        go_quiet (fail)
        go_wp2
        go_ret
        exact ⟨ret_bool (by rw [HR.out]; simp [hn0]), bdrewN hb2 _⟩
      | false =>
        have wr1 : IntKind.i64.wrap (n - (bv : Int)) = n - (bv : Int) := by simp [IntKind.wrap, IntKind.bits, IntKind.signed]; omega
        go_wp2
        go_quiet (fail)
        go_wp2
        go_ret
        exact ⟨ret_bool (by rw [HR.out]; simp [hn0]), bdrewN hb2 _⟩
    · have hnf : decide (0 ≤ n) = false := by simpa using hn0
      go_wp2
      go_quiet (fail)
      go_wp2
      go_ret
      exact ⟨ret_bool (by rw [HR.out]; simp [hnf]), bdrewN hb2 _⟩
  · go_wp2
    all_goals
      go_ret
      exact ⟨ret_bool (by rw [HR.out, if_neg hk]; rw [Bool.eq_iff_iff]; simp), hb2⟩
end Go.Proofs.YtocfamcclfhkcaaGreat
