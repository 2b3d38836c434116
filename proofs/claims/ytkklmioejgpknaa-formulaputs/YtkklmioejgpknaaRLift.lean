/- The document's answers of the layer formula: Lift, Dims. -/
import Derived.Test.YtkklmioejgpknaaFLift
import Derived.Test.YtkklmioejgpknaaRTurn
import Derived.Test.YtkklmioejgpknaaFDims
namespace Go.Proofs.Ytkklmioejgpknaa
open Go.RowKit
set_option linter.unusedVariables false
set_option linter.unusedSimpArgs false

set_option maxRecDepth 100000 in
set_option maxHeartbeats 4000000 in
theorem rLift_any (l : List C) (fr by_ : Int) (a : Value) (w : World) (ha : CRow w a l) (hl : l.length ≤ 40000) :
    Calls Try.prog 26 #[a, .int .i64 fr, .int .i64 by_] w fun e w' => ∃ v, e = .returned (.tuple #[v, .int .i64 (liftFF l fr by_).2]) ∧ OwnsC w' w.heap.size v (liftFF l fr by_).1 ∧ Below w.heap.size w w' := by
  have c1 := rfright_any l a w ha (by omega)
  have Ha : Hid (∀ w1, Below w.heap.size w w1 → CRow w1 a l) := fun w1 h => ha.below h
  have HJ : Hid (liftFF l fr by_ = if rightF l then (if (liftS l fr by_).2 = 0 then leastF (liftS l fr by_).1 else ([], (liftS l fr by_).2)) else ([], 2)) := rfl
  obtain ⟨pa, ca, rfl⟩ := ha.len
  clear ha
  obtain ⟨n, hn⟩ : ∃ n, n = l.length := ⟨_, rfl⟩
  have Hn : Hid (n = l.length) := hn
  rw [← hn] at hl Ha c1 ⊢
  clear hn
  cases hf : rightF l
  · rw [hf] at c1 HJ
    go_enter Try.func26, Try.ntmps26
    go_wp2_with fail
    refine c1.mono ?_
    rintro e w1 ⟨rfl, hB1⟩
    clear c1
    go_wp2
    go_ret2
    rw [HJ.out]
    exact ⟨_, rfl, World.ownsRow_nil _ _ _ _, hB1⟩
  · rw [hf] at c1 HJ
    go_enter Try.func26, Try.ntmps26
    go_wp2_with fail
    refine c1.mono ?_
    rintro e w1 ⟨rfl, hB1⟩
    clear c1
    go_wp2_with fail
    go_loopw [8, 9] (fun v i wr => ∃ k : Nat, k ≤ n ∧ i = .int .i64 k ∧ (liftS (l.take k) fr by_).2 = 0 ∧ OwnsC wr w.heap.size v (liftS (l.take k) fr by_).1 ∧ Below w.heap.size w wr) (fun _ i _ => n - (intOf i).toNat)
    case atStart => exact ⟨0, Nat.zero_le _, rfl, rfl, World.ownsRow_nil _ _ _ _, hB1⟩
    case round =>
      obtain ⟨k, hk, rfl, hz, hO, hny⟩ := hrel
      have HZ : Hid ((liftS (l.take k) fr by_).2 = 0) := hz
      clear hz
      have hlen := liftS_len (l.take k) fr by_
      have hlen2 : (l.take k).length ≤ n := by rw [List.length_take, ← Hn.out]; omega
      by_cases hlt : k < n
      · obtain ⟨c, hck⟩ := get_some (l := l) (k := k) (by rw [← Hn.out]; exact hlt)
        obtain ⟨g, off, rfl, hg, x0, x1⟩ := (Ha.out _ hny).at hck
        have HS : Hid (liftS (l.take (k + 1)) fr by_ = if liftCE c fr by_ = 0 then ((liftS (l.take k) fr by_).1 ++ [liftC c fr by_], 0) else ([], liftCE c fr by_)) := liftS_take_step hck HZ.out
        have HK : Hid ((liftS (l.take (k + 1)) fr by_).2 ≠ 0 → liftS l fr by_ = liftS (l.take (k + 1)) fr by_) := fun h => liftS_stuck (k + 1) h
        have HL : Hid ((liftS (l.take k) fr by_).1.length + [liftC c fr by_].length ≤ 200000) := by show (liftS (l.take k) fr by_).1.length + 1 ≤ 200000; omega
        clear hck
        obtain ⟨p9, q9, rfl⟩ := OwnsC.len hO
        have cL := refclift_any c fr by_ wr
        generalize liftC c fr by_ = d at cL HS HL
        generalize liftCE c fr by_ = er at cL HS
        go_wp2_with fail
        refine cL.mono ?_
        rintro e w2 ⟨rfl, hB2⟩
        clear cL
        have hB02 := chain hny hB2
        have hO2 := OwnsC.below hO hB2
        by_cases h0 : er = 0
        · subst h0
          have HS2 : Hid (liftS (l.take (k + 1)) fr by_ = ((liftS (l.take k) fr by_).1 ++ [d], 0)) := HS.out
          go_wp2_with (at_builtin; refine wpList_append_row rfl _ _ rfl w.heap.size _ _ _ [d] rfl rfl (OwnsC.below (OwnsC.below hO2 (below_alloc w2 (.cells #[.int .u32 (d.1.val : Int), .int .u32 (d.2.val : Int)] 52))) (below_alloc _ _)) (row_one1 _ _ _) HL.out (Nat.le_trans hB02.size (by simp; omega)) ?_; intro v4 w4 hO4 hg4 hv4)
          have bX := chain hB02 (chain (below_alloc w2 (.cells #[.int .u32 (d.1.val : Int), .int .u32 (d.2.val : Int)] 52)) (below_alloc _ (.cells #[.int .u32 (d.1.val : Int), .int .u32 (d.2.val : Int)] 52)))
          have hOX := OwnsC.below (OwnsC.below hO2 (below_alloc w2 (.cells #[.int .u32 (d.1.val : Int), .int .u32 (d.2.val : Int)] 52))) (below_alloc _ (.cells #[.int .u32 (d.1.val : Int), .int .u32 (d.2.val : Int)] 52))
          have hBB := bX.trans (own_grown hOX hg4 bX.size)
          go_roundw
          case rel => exact ⟨k + 1, by omega, by go_num, by rw [HS2.out], by rw [HS2.out]; exact hO4, hBB⟩
          case measure => simp [intOf]; omega
        · have HS2 : Hid (liftS (l.take (k + 1)) fr by_ = ([], er)) := HS.out.trans (if_neg h0)
          have HE : Hid (liftFF l fr by_ = ([], er)) := by
            have h1 : liftS l fr by_ = ([], er) := (HK.out (by rw [HS2.out]; exact h0)).trans HS2.out
            show liftFF l fr by_ = ([], er)
            rw [HJ.out, h1]
            simp [h0]
          go_wp2
          go_ret2
          rw [HE.out]
          exact ⟨_, rfl, World.ownsRow_nil _ _ _ _, chain hB02 (below_alloc _ _)⟩
      · obtain rfl : k = n := by omega
        have e : l.take k = l := List.take_of_length_le (by rw [← Hn.out]; exact Nat.le_refl _)
        rw [e] at hO hlen HZ
        have HE : Hid (liftFF l fr by_ = leastF (liftS l fr by_).1) := HJ.out.trans (by simp [HZ.out])
        have cL := refleastC _ _ wr (OwnsC.row hO) (by rw [← Hn.out] at hlen; omega)
        obtain ⟨p9, q9, rfl⟩ := OwnsC.len hO
        go_wp2_with fail
        refine cL.mono ?_
        rintro e w3 ⟨v3, rfl, hO3, hB3⟩
        clear cL
        go_wp2
        go_ret2
        rw [HE.out]
        exact ⟨_, rfl, OwnsC.mono hO3 hny.size, chain hny hB3⟩
end Go.Proofs.Ytkklmioejgpknaa
