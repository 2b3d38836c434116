/- works of the statements. -/
import Derived.Test.YtahnbigkdfmpbaaDoorXLaw
namespace Go.Proofs.YtahnbigkdfmpbaaDoor
open Go.RowKit
set_option linter.unusedVariables false
set_option linter.unusedSimpArgs false

set_option maxRecDepth 100000 in
set_option maxHeartbeats 4000000 in
theorem lawWorks_any (w : World) : Calls Tryd.prog 4 #[] w fun e w' => e = .returned (.bool true) ∧ Below w.heap.size w w' := by
  have q1 := bs_beqS [92, 120, 46, 32, 102, 32, 40, 103, 32, 120, 41] [92, 120, 46, 32, 102, 32, 40, 103, 32, 120, 41]
  have q2 := bs_beqS [40, 40, 120, 32, 58, 32, 65, 41, 41, 32, 45, 62, 32, 66] [40, 40, 120, 32, 58, 32, 65, 41, 41, 32, 45, 62, 32, 66]
  rw [decide_eq_true rfl] at q1 q2
  obtain ⟨w1, hw1⟩ : ∃ w1, w1 = w.alloc (.cells #[.string ⟨#[120]⟩] 9) := ⟨_, rfl⟩
  have hb1 : Below w.heap.size w w1 := by rw [hw1]; exact below_alloc _ _
  have hc1 : w1.cell? ⟨w.heap.size, 0, none⟩ = some (.string (bs [120])) := by rw [hw1]; exact cell_at w #[.string ⟨#[120]⟩] _ 0 _ rfl
  have hs1 : w1.heap.size = w.heap.size + 1 := by rw [hw1]; exact alloc_size1 _ _
  have Hw1 : Hid (_ = _) := hw1
  clear hw1
  go_enter Tryd.func4, Tryd.ntmps4
  go_wp2_with fail
  rw [← Hw1.out]
  clear Hw1
  refine (lawN_any [102] w1).mono ?_
  rintro e w2 ⟨rfl, hb2⟩
  go_wp2_with fail
  refine (lawN_any [103] w2).mono ?_
  rintro e w3 ⟨rfl, hb3⟩
  go_wp2_with fail
  refine (lawN_any [120] w3).mono ?_
  rintro e w4 ⟨rfl, hb4⟩
  go_wp2_with fail
  refine (lawTwo_any 6 w4.heap.size (lN [103]) (lN [120]) _ _ w4 (lN_in _ _ _) (lN_in _ _ _) (Nat.le_refl _)).mono ?_
  rintro e w5 ⟨v5, rfl, h5, hb5⟩
  go_wp2_with fail
  refine (lawTwo_any 6 w5.heap.size (lN [102]) _ _ v5 w5 (lN_in _ _ _) h5 (Nat.le_refl _)).mono ?_
  rintro e w6 ⟨v6, rfl, h6, hb6⟩
  obtain ⟨ka, kc, na, nc, rfl, _, _⟩ := h6.form
  obtain ⟨w7, hw7⟩ : ∃ w7, w7 = w6.alloc (.cells #[.int .i64 6, .string (bs []), .slice ka 2 kc, .slice na 0 nc, .int .i64 0] 25) := ⟨_, rfl⟩
  have hb7 : Below w6.heap.size w6 w7 := by rw [hw7]; exact below_alloc _ _
  have hk7 := kdp_one 25 h6 (Nat.le_refl _) w7 hw7
  have Hw7 : Hid (_ = _) := hw7
  clear hw7
  have hb17 := chain (chain (chain (chain (chain hb2 hb3) hb4) hb5) hb6) hb7
  have hal7 := chain hb1 hb17
  have hN7 : NmS w7.heap.size w7 [[120]] (.slice (some ⟨w.heap.size, 0, none⟩) 1 1) := ⟨_, 1, rfl, Nat.le_refl _, fun j x hx => by
    match j, hx with
    | 0, hx =>
      simp at hx; subst hx
      exact ⟨w.heap.size, 0, rfl, by have := hb17.size; omega, (hb17.cell (p := ⟨w.heap.size, 0, none⟩) (by show w.heap.size < _; omega)).trans hc1⟩
    | j + 1, hx => simp at hx⟩
  have cT := sTerm_any w7.heap.size lw1 _ w7 (.mk 2 [] _ [[120]] 0 _ _ 1 hN7 hk7) (Nat.le_refl _) lw1_blk
  rw [lw1_eq] at cT
  clear hk7 hN7 h5 h6 hc1
  go_wp2_with fail
  rw [← Hw7.out]
  clear Hw7
  refine cT.mono ?_
  rintro e x1 ⟨rfl, hx1⟩
  clear cT
  have hal8 := chain hal7 hx1
  go_wp2_with fail
  refine (lawN_any [120] x1).mono ?_
  rintro e x2 ⟨rfl, hx2⟩
  go_wp2_with fail
  refine (lawN_any [65] x2).mono ?_
  rintro e x3 ⟨rfl, hx3⟩
  go_wp2_with fail
  refine (lawTwo_any 9 x3.heap.size (lN [120]) (lN [65]) _ _ x3 (lN_in _ _ _) (lN_in _ _ _) (Nat.le_refl _)).mono ?_
  rintro e x4 ⟨v4, rfl, h4, hx4⟩
  go_wp2_with fail
  refine (lawN_any [66] x4).mono ?_
  rintro e x5 ⟨rfl, hx5⟩
  go_wp2_with fail
  refine (lawTwo_any 4 x4.heap.size _ (lN [66]) v4 _ x5 (h4.keep hx5) (lN_in _ _ _) hx5.size).mono ?_
  rintro e x6 ⟨v6', rfl, h6', hx6⟩
  have cT := sTerm_any x6.heap.size lw2 v6' x6 h6' (Nat.le_refl _) lw2_blk
  rw [lw2_eq] at cT
  go_wp2_with fail
  refine cT.mono ?_
  rintro e x7 ⟨rfl, hx7⟩
  clear cT
  have hal9 := chain (chain (chain (chain (chain (chain hal8 hx2) hx3) hx4) hx5) hx6) hx7
  go_wp2_with fail
  go_ret
  exact ⟨rfl, hal9⟩
end Go.Proofs.YtahnbigkdfmpbaaDoor
