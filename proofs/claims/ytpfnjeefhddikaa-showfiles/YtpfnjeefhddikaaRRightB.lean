/- Right, by the document's answer. -/
import Derived.Test.YtpfnjeefhddikaaRBoxR
namespace Go.Proofs.Ytpfnjeefhddikaa
open Go.RowKit
set_option linter.unusedVariables false
set_option linter.unusedSimpArgs false

set_option maxRecDepth 100000 in
set_option maxHeartbeats 8000000 in
theorem rRight_step (f : Nat) (IH : ∀ m, m ≤ f → RRi m) : RRi (f + 1) := by
  intro n t v w h hn hb hf
  obtain ⟨ka, kc, na, nc, rfl, hN, hK⟩ := h.form
  have hkl : t.kids.length ≤ 1000000 := by have := blk_klen t; omega
  have hnl : t.names.length ≤ 1000000 := by have := blk_nlen t; omega
  obtain ⟨w1, hw1⟩ : ∃ w1, w1 = w.alloc (.cells #[.int .i64 t.kind, .string (bs t.name), .slice ka t.kids.length kc, .slice na t.names.length nc, .int .i64 t.at_] 25) := ⟨_, rfl⟩
  have hal1 : Below w.heap.size w w1 := by rw [hw1]; exact below_alloc _ _
  have hB1 : Bx w1 w.heap.size (.int .i64 t.kind) (.string (bs t.name)) (.slice ka t.kids.length kc) (.slice na t.names.length nc) (.int .i64 t.at_) := by rw [hw1]; exact bx_new _ _ _ _ _ _
  have Hw1 : Hid (_ = _) := hw1
  clear hw1
  obtain ⟨x0, x1, x2, x3, x4⟩ := hB1.cells
  have e1 := bs_nil t.name
  have e2 := len_nil t.names
  have e3 := len_nilS t.kids
  have el1 : ((t.kids.length : Int) == 1) = decide (t.kids.length = 1) := by rw [Bool.eq_iff_iff]; simp; omega
  have el2 : ((t.kids.length : Int) == 2) = decide (t.kids.length = 2) := by rw [Bool.eq_iff_iff]; simp; omega
  have ed0 := bs_beqS t.name [48]
  have ed1 := bs_beqS t.name [49]
  obtain ⟨r, hr⟩ : ∃ r, termB (okF f) t = r := ⟨_, rfl⟩
  have hr2 : okF (f + 1) 0 t = r := by rw [← hr, okF_s]; rfl
  rw [hr2]
  clear hr2
  by_cases hk : t.kind = 1
  · have k1 : (t.kind == 1) = true := by rw [hk]; rfl
    have cc := rFormula_any (f + 1) n t _ w1 (h.keep (hal1.mono hn)) (Nat.le_trans hn hal1.size) hb hf
    have hz : okF (f + 1) 1 t = r := by
      rw [okF_s, ← hr]
      show dimB (okF f) t = _
      unfold dimB termB
      rw [if_pos hk, if_pos hk]
    rw [hz] at cc
    clear hz hr hk
    go_enter Try.func10, Try.ntmps10
    go_wp2_with fail
    rw [← Hw1.out]
    clear Hw1
    refine cc.mono ?_
    rintro e w2 ⟨rfl, hb2⟩
    go_wp2_with fail
    go_ret
    exact ⟨rfl, chain hal1 hb2⟩
  by_cases hk2 : t.kind = 2
  · have HR0 : (decide (t.name = []) && (t.names.all nameB && (decide (t.names ≠ []) && (decide (t.kids.length = 1) && okF f 0 (kd t 0))))) = r := by
      rw [← hr]; unfold termB
      rw [if_neg (by omega), if_pos (by omega)]
      try rw [are1_eq]
      try rw [are2_eq]
      cases decide (t.name = []) <;> cases t.names.all nameB <;> simp
    have HR : Hid (_ = _) := HR0
    clear HR0
    have k1 : (t.kind == 1) = false := by rw [hk2]; rfl
    have k2 : (t.kind == 2) = true := by rw [hk2]; rfl
    have k3 : (t.kind == 3) = false := by rw [hk2]; rfl
    have k4 : (t.kind == 4) = false := by rw [hk2]; rfl
    have k5 : (t.kind == 5) = false := by rw [hk2]; rfl
    have k6 : (t.kind == 6) = false := by rw [hk2]; rfl
    have k8 : (t.kind == 8) = false := by rw [hk2]; rfl
    have k9 : (t.kind == 9) = false := by rw [hk2]; rfl
    have k7 : (t.kind == 7) = false := by rw [hk2]; rfl
    have k10 : (t.kind == 10) = false := by rw [hk2]; rfl
    clear hk2 hr h
    cases hq0 : decide (t.name = [])
    · rw [hq0] at HR e1
      clear hq0
      go_enter Try.func10, Try.ntmps10
      go_wp2_with fail
      rw [← Hw1.out]
      clear Hw1
      go_ret
      exact ⟨ret_bool (by have h9 := HR.out; first | (simpa using h9) | (simp_all)), hal1⟩
    · rw [hq0] at HR e1
      clear hq0
      cases hq1 : t.names.all nameB
      · rw [hq1] at HR
        go_enter Try.func10, Try.ntmps10
        go_wp2_with fail
        rw [← Hw1.out]
        clear Hw1
        have cc := rNames_any n w1 t.names _ (hN.keep (hal1.mono hn)) (Nat.le_trans hn hal1.size) hnl (fun x hx => by have := blk_names hx; omega)
        rw [hq1] at cc
        refine cc.mono ?_
        rintro e w2 ⟨rfl, hb2⟩
        clear cc
        have hal2 := chain hal1 hb2
        have hB2 := hB1.blw hb2
        clear x0 x1 x2 x3 x4
        obtain ⟨x0, x1, x2, x3, x4⟩ := hB2.cells
        go_wp2_with fail
        go_ret
        exact ⟨ret_bool (by have h9 := HR.out; first | (simpa using h9) | (simp_all)), hal2⟩
      · rw [hq1] at HR
        by_cases hq2 : t.names ≠ []
        · rw [decide_eq_true hq2] at HR
          have hp : (0 : Int) < (t.names.length : Int) := by have := List.length_pos_iff.2 hq2; omega
          clear hq2
          cases hq3 : decide (t.kids.length = 1)
          · rw [hq3] at HR el1
            clear hq3
            go_enter Try.func10, Try.ntmps10
            go_wp2_with fail
            rw [← Hw1.out]
            clear Hw1
            have cc := rNames_any n w1 t.names _ (hN.keep (hal1.mono hn)) (Nat.le_trans hn hal1.size) hnl (fun x hx => by have := blk_names hx; omega)
            rw [hq1] at cc
            refine cc.mono ?_
            rintro e w2 ⟨rfl, hb2⟩
            clear cc
            have hal2 := chain hal1 hb2
            have hB2 := hB1.blw hb2
            clear x0 x1 x2 x3 x4
            obtain ⟨x0, x1, x2, x3, x4⟩ := hB2.cells
            go_wp2_with fail
            go_ret
            exact ⟨ret_bool (by have h9 := HR.out; first | (simpa using h9) | (simp_all)), hal2⟩
          · rw [hq3] at HR el1
            have hlen := of_decide_eq_true hq3
            obtain ⟨a, hl⟩ : ∃ a, t.kids = [a] := List.length_eq_one_iff.1 hlen
            have hk0 : kd t 0 = a := by rw [kd_kids hl]; rfl
            rw [hk0] at HR
            obtain ⟨g, off, ka0, kc0, na0, nc0, rfl, hg, hxx0, c00, c01, c02, c03, c04⟩ := hK.at (j := 0) (x := a) (by rw [hl]; rfl)
            simp only [Nat.zero_mul, Nat.one_mul, Nat.add_zero] at c00 c01 c02 c03 c04
            have hp0 : 0 < t.kids.length := by omega
            have hba : blk a < blk t := blk_kid (by rw [hl]; simp)
            clear hl hlen hk0 hq3
            generalize hz : okF f 0 a = z at *
            have r00 := (hal1.cell (p := ⟨g, off, none⟩) (by show g < _; omega)).trans c00
            have d00 := r00
            rw [Hw1.out] at r00
            have r01 := (hal1.cell (p := ⟨g, off + 1, none⟩) (by show g < _; omega)).trans c01
            have d01 := r01
            rw [Hw1.out] at r01
            have r02 := (hal1.cell (p := ⟨g, off + 2, none⟩) (by show g < _; omega)).trans c02
            have d02 := r02
            rw [Hw1.out] at r02
            have r03 := (hal1.cell (p := ⟨g, off + 3, none⟩) (by show g < _; omega)).trans c03
            have d03 := r03
            rw [Hw1.out] at r03
            have r04 := (hal1.cell (p := ⟨g, off + 4, none⟩) (by show g < _; omega)).trans c04
            have d04 := r04
            rw [Hw1.out] at r04
            go_enter Try.func10, Try.ntmps10
            go_wp2_with fail
            rw [← Hw1.out]
            clear Hw1
            have cc := rNames_any n w1 t.names _ (hN.keep (hal1.mono hn)) (Nat.le_trans hn hal1.size) hnl (fun x hx => by have := blk_names hx; omega)
            rw [hq1] at cc
            refine cc.mono ?_
            rintro e w2 ⟨rfl, hb2⟩
            clear cc
            have hal2 := chain hal1 hb2
            have hB2 := hB1.blw hb2
            clear x0 x1 x2 x3 x4
            obtain ⟨x0, x1, x2, x3, x4⟩ := hB2.cells
            have d00 := (hal2.cell (p := ⟨g, off, none⟩) (by show g < _; omega)).trans c00
            have d01 := (hal2.cell (p := ⟨g, off + 1, none⟩) (by show g < _; omega)).trans c01
            have d02 := (hal2.cell (p := ⟨g, off + 2, none⟩) (by show g < _; omega)).trans c02
            have d03 := (hal2.cell (p := ⟨g, off + 3, none⟩) (by show g < _; omega)).trans c03
            have d04 := (hal2.cell (p := ⟨g, off + 4, none⟩) (by show g < _; omega)).trans c04
            go_wp2_with fail
            have cc := (IH f (Nat.le_refl _)) n a _ w2 (hxx0.keep (hal2.mono hn)) (Nat.le_trans hn hal2.size) (by omega) (by omega)
            rw [hz] at cc
            refine cc.mono ?_
            rintro e w3 ⟨rfl, hb3⟩
            clear cc
            have hal3 := chain hal2 hb3
            have hB3 := hB2.blw hb3
            clear x0 x1 x2 x3 x4
            obtain ⟨x0, x1, x2, x3, x4⟩ := hB3.cells
            have d00 := (hal3.cell (p := ⟨g, off, none⟩) (by show g < _; omega)).trans c00
            have d01 := (hal3.cell (p := ⟨g, off + 1, none⟩) (by show g < _; omega)).trans c01
            have d02 := (hal3.cell (p := ⟨g, off + 2, none⟩) (by show g < _; omega)).trans c02
            have d03 := (hal3.cell (p := ⟨g, off + 3, none⟩) (by show g < _; omega)).trans c03
            have d04 := (hal3.cell (p := ⟨g, off + 4, none⟩) (by show g < _; omega)).trans c04
            go_wp2_with fail
            go_ret
            exact ⟨ret_bool (by have h9 := HR.out; first | (simpa using h9) | (simp_all)), hal3⟩
        · rw [decide_eq_false hq2] at HR
          have hp : ¬ (0 : Int) < (t.names.length : Int) := by have h8 : t.names = [] := Classical.byContradiction hq2; rw [h8]; simp
          clear hq2
          go_enter Try.func10, Try.ntmps10
          go_wp2_with fail
          rw [← Hw1.out]
          clear Hw1
          have cc := rNames_any n w1 t.names _ (hN.keep (hal1.mono hn)) (Nat.le_trans hn hal1.size) hnl (fun x hx => by have := blk_names hx; omega)
          rw [hq1] at cc
          refine cc.mono ?_
          rintro e w2 ⟨rfl, hb2⟩
          clear cc
          have hal2 := chain hal1 hb2
          have hB2 := hB1.blw hb2
          clear x0 x1 x2 x3 x4
          obtain ⟨x0, x1, x2, x3, x4⟩ := hB2.cells
          go_wp2_with fail
          go_ret
          exact ⟨ret_bool (by have h9 := HR.out; first | (simpa using h9) | (simp_all)), hal2⟩
  by_cases hk3 : t.kind = 3
  · have HR0 : (decide (t.name = []) && (t.names.all nameB && (decide (t.names ≠ []) && (decide (t.kids.length = 1) && okF f 0 (kd t 0))))) = r := by
      rw [← hr]; unfold termB
      rw [if_neg (by omega), if_pos (by omega)]
      try rw [are1_eq]
      try rw [are2_eq]
      cases decide (t.name = []) <;> cases t.names.all nameB <;> simp
    have HR : Hid (_ = _) := HR0
    clear HR0
    have k1 : (t.kind == 1) = false := by rw [hk3]; rfl
    have k2 : (t.kind == 2) = false := by rw [hk3]; rfl
    have k3 : (t.kind == 3) = true := by rw [hk3]; rfl
    have k4 : (t.kind == 4) = false := by rw [hk3]; rfl
    have k5 : (t.kind == 5) = false := by rw [hk3]; rfl
    have k6 : (t.kind == 6) = false := by rw [hk3]; rfl
    have k8 : (t.kind == 8) = false := by rw [hk3]; rfl
    have k9 : (t.kind == 9) = false := by rw [hk3]; rfl
    have k7 : (t.kind == 7) = false := by rw [hk3]; rfl
    have k10 : (t.kind == 10) = false := by rw [hk3]; rfl
    clear hk3 hr h
    cases hq0 : decide (t.name = [])
    · rw [hq0] at HR e1
      clear hq0
      go_enter Try.func10, Try.ntmps10
      go_wp2_with fail
      rw [← Hw1.out]
      clear Hw1
      go_ret
      exact ⟨ret_bool (by have h9 := HR.out; first | (simpa using h9) | (simp_all)), hal1⟩
    · rw [hq0] at HR e1
      clear hq0
      cases hq1 : t.names.all nameB
      · rw [hq1] at HR
        go_enter Try.func10, Try.ntmps10
        go_wp2_with fail
        rw [← Hw1.out]
        clear Hw1
        have cc := rNames_any n w1 t.names _ (hN.keep (hal1.mono hn)) (Nat.le_trans hn hal1.size) hnl (fun x hx => by have := blk_names hx; omega)
        rw [hq1] at cc
        refine cc.mono ?_
        rintro e w2 ⟨rfl, hb2⟩
        clear cc
        have hal2 := chain hal1 hb2
        have hB2 := hB1.blw hb2
        clear x0 x1 x2 x3 x4
        obtain ⟨x0, x1, x2, x3, x4⟩ := hB2.cells
        go_wp2_with fail
        go_ret
        exact ⟨ret_bool (by have h9 := HR.out; first | (simpa using h9) | (simp_all)), hal2⟩
      · rw [hq1] at HR
        by_cases hq2 : t.names ≠ []
        · rw [decide_eq_true hq2] at HR
          have hp : (0 : Int) < (t.names.length : Int) := by have := List.length_pos_iff.2 hq2; omega
          clear hq2
          cases hq3 : decide (t.kids.length = 1)
          · rw [hq3] at HR el1
            clear hq3
            go_enter Try.func10, Try.ntmps10
            go_wp2_with fail
            rw [← Hw1.out]
            clear Hw1
            have cc := rNames_any n w1 t.names _ (hN.keep (hal1.mono hn)) (Nat.le_trans hn hal1.size) hnl (fun x hx => by have := blk_names hx; omega)
            rw [hq1] at cc
            refine cc.mono ?_
            rintro e w2 ⟨rfl, hb2⟩
            clear cc
            have hal2 := chain hal1 hb2
            have hB2 := hB1.blw hb2
            clear x0 x1 x2 x3 x4
            obtain ⟨x0, x1, x2, x3, x4⟩ := hB2.cells
            go_wp2_with fail
            go_ret
            exact ⟨ret_bool (by have h9 := HR.out; first | (simpa using h9) | (simp_all)), hal2⟩
          · rw [hq3] at HR el1
            have hlen := of_decide_eq_true hq3
            obtain ⟨a, hl⟩ : ∃ a, t.kids = [a] := List.length_eq_one_iff.1 hlen
            have hk0 : kd t 0 = a := by rw [kd_kids hl]; rfl
            rw [hk0] at HR
            obtain ⟨g, off, ka0, kc0, na0, nc0, rfl, hg, hxx0, c00, c01, c02, c03, c04⟩ := hK.at (j := 0) (x := a) (by rw [hl]; rfl)
            simp only [Nat.zero_mul, Nat.one_mul, Nat.add_zero] at c00 c01 c02 c03 c04
            have hp0 : 0 < t.kids.length := by omega
            have hba : blk a < blk t := blk_kid (by rw [hl]; simp)
            clear hl hlen hk0 hq3
            generalize hz : okF f 0 a = z at *
            have r00 := (hal1.cell (p := ⟨g, off, none⟩) (by show g < _; omega)).trans c00
            have d00 := r00
            rw [Hw1.out] at r00
            have r01 := (hal1.cell (p := ⟨g, off + 1, none⟩) (by show g < _; omega)).trans c01
            have d01 := r01
            rw [Hw1.out] at r01
            have r02 := (hal1.cell (p := ⟨g, off + 2, none⟩) (by show g < _; omega)).trans c02
            have d02 := r02
            rw [Hw1.out] at r02
            have r03 := (hal1.cell (p := ⟨g, off + 3, none⟩) (by show g < _; omega)).trans c03
            have d03 := r03
            rw [Hw1.out] at r03
            have r04 := (hal1.cell (p := ⟨g, off + 4, none⟩) (by show g < _; omega)).trans c04
            have d04 := r04
            rw [Hw1.out] at r04
            go_enter Try.func10, Try.ntmps10
            go_wp2_with fail
            rw [← Hw1.out]
            clear Hw1
            have cc := rNames_any n w1 t.names _ (hN.keep (hal1.mono hn)) (Nat.le_trans hn hal1.size) hnl (fun x hx => by have := blk_names hx; omega)
            rw [hq1] at cc
            refine cc.mono ?_
            rintro e w2 ⟨rfl, hb2⟩
            clear cc
            have hal2 := chain hal1 hb2
            have hB2 := hB1.blw hb2
            clear x0 x1 x2 x3 x4
            obtain ⟨x0, x1, x2, x3, x4⟩ := hB2.cells
            have d00 := (hal2.cell (p := ⟨g, off, none⟩) (by show g < _; omega)).trans c00
            have d01 := (hal2.cell (p := ⟨g, off + 1, none⟩) (by show g < _; omega)).trans c01
            have d02 := (hal2.cell (p := ⟨g, off + 2, none⟩) (by show g < _; omega)).trans c02
            have d03 := (hal2.cell (p := ⟨g, off + 3, none⟩) (by show g < _; omega)).trans c03
            have d04 := (hal2.cell (p := ⟨g, off + 4, none⟩) (by show g < _; omega)).trans c04
            go_wp2_with fail
            have cc := (IH f (Nat.le_refl _)) n a _ w2 (hxx0.keep (hal2.mono hn)) (Nat.le_trans hn hal2.size) (by omega) (by omega)
            rw [hz] at cc
            refine cc.mono ?_
            rintro e w3 ⟨rfl, hb3⟩
            clear cc
            have hal3 := chain hal2 hb3
            have hB3 := hB2.blw hb3
            clear x0 x1 x2 x3 x4
            obtain ⟨x0, x1, x2, x3, x4⟩ := hB3.cells
            have d00 := (hal3.cell (p := ⟨g, off, none⟩) (by show g < _; omega)).trans c00
            have d01 := (hal3.cell (p := ⟨g, off + 1, none⟩) (by show g < _; omega)).trans c01
            have d02 := (hal3.cell (p := ⟨g, off + 2, none⟩) (by show g < _; omega)).trans c02
            have d03 := (hal3.cell (p := ⟨g, off + 3, none⟩) (by show g < _; omega)).trans c03
            have d04 := (hal3.cell (p := ⟨g, off + 4, none⟩) (by show g < _; omega)).trans c04
            go_wp2_with fail
            go_ret
            exact ⟨ret_bool (by have h9 := HR.out; first | (simpa using h9) | (simp_all)), hal3⟩
        · rw [decide_eq_false hq2] at HR
          have hp : ¬ (0 : Int) < (t.names.length : Int) := by have h8 : t.names = [] := Classical.byContradiction hq2; rw [h8]; simp
          clear hq2
          go_enter Try.func10, Try.ntmps10
          go_wp2_with fail
          rw [← Hw1.out]
          clear Hw1
          have cc := rNames_any n w1 t.names _ (hN.keep (hal1.mono hn)) (Nat.le_trans hn hal1.size) hnl (fun x hx => by have := blk_names hx; omega)
          rw [hq1] at cc
          refine cc.mono ?_
          rintro e w2 ⟨rfl, hb2⟩
          clear cc
          have hal2 := chain hal1 hb2
          have hB2 := hB1.blw hb2
          clear x0 x1 x2 x3 x4
          obtain ⟨x0, x1, x2, x3, x4⟩ := hB2.cells
          go_wp2_with fail
          go_ret
          exact ⟨ret_bool (by have h9 := HR.out; first | (simpa using h9) | (simp_all)), hal2⟩
  by_cases hk4 : t.kind = 4
  · have HR0 : (decide (t.name = []) && (t.names.all nameB && (decide (t.names.length < 2) && (decide (t.kids.length = 2) && (okF f 0 (kd t 0) && okF f 0 (kd t 1)))))) = r := by
      rw [← hr]; unfold termB
      rw [if_neg (by omega), if_neg (by omega), if_pos (by omega)]
      try rw [are1_eq]
      try rw [are2_eq]
      cases decide (t.name = []) <;> cases t.names.all nameB <;> simp
    have HR : Hid (_ = _) := HR0
    clear HR0
    have k1 : (t.kind == 1) = false := by rw [hk4]; rfl
    have k2 : (t.kind == 2) = false := by rw [hk4]; rfl
    have k3 : (t.kind == 3) = false := by rw [hk4]; rfl
    have k4 : (t.kind == 4) = true := by rw [hk4]; rfl
    have k5 : (t.kind == 5) = false := by rw [hk4]; rfl
    have k6 : (t.kind == 6) = false := by rw [hk4]; rfl
    have k8 : (t.kind == 8) = false := by rw [hk4]; rfl
    have k9 : (t.kind == 9) = false := by rw [hk4]; rfl
    have k7 : (t.kind == 7) = false := by rw [hk4]; rfl
    have k10 : (t.kind == 10) = false := by rw [hk4]; rfl
    clear hk4 hr h
    cases hq0 : decide (t.name = [])
    · rw [hq0] at HR e1
      clear hq0
      go_enter Try.func10, Try.ntmps10
      go_wp2_with fail
      rw [← Hw1.out]
      clear Hw1
      go_ret
      exact ⟨ret_bool (by have h9 := HR.out; first | (simpa using h9) | (simp_all)), hal1⟩
    · rw [hq0] at HR e1
      clear hq0
      cases hq1 : t.names.all nameB
      · rw [hq1] at HR
        go_enter Try.func10, Try.ntmps10
        go_wp2_with fail
        rw [← Hw1.out]
        clear Hw1
        have cc := rNames_any n w1 t.names _ (hN.keep (hal1.mono hn)) (Nat.le_trans hn hal1.size) hnl (fun x hx => by have := blk_names hx; omega)
        rw [hq1] at cc
        refine cc.mono ?_
        rintro e w2 ⟨rfl, hb2⟩
        clear cc
        have hal2 := chain hal1 hb2
        have hB2 := hB1.blw hb2
        clear x0 x1 x2 x3 x4
        obtain ⟨x0, x1, x2, x3, x4⟩ := hB2.cells
        go_wp2_with fail
        go_ret
        exact ⟨ret_bool (by have h9 := HR.out; first | (simpa using h9) | (simp_all)), hal2⟩
      · rw [hq1] at HR
        by_cases hq2 : t.names.length < 2
        · rw [decide_eq_true hq2] at HR
          have hp : (t.names.length : Int) < 2 := by have := hq2; omega
          clear hq2
          cases hq3 : decide (t.kids.length = 2)
          · rw [hq3] at HR el2
            clear hq3
            go_enter Try.func10, Try.ntmps10
            go_wp2_with fail
            rw [← Hw1.out]
            clear Hw1
            have cc := rNames_any n w1 t.names _ (hN.keep (hal1.mono hn)) (Nat.le_trans hn hal1.size) hnl (fun x hx => by have := blk_names hx; omega)
            rw [hq1] at cc
            refine cc.mono ?_
            rintro e w2 ⟨rfl, hb2⟩
            clear cc
            have hal2 := chain hal1 hb2
            have hB2 := hB1.blw hb2
            clear x0 x1 x2 x3 x4
            obtain ⟨x0, x1, x2, x3, x4⟩ := hB2.cells
            go_wp2_with fail
            go_ret
            exact ⟨ret_bool (by have h9 := HR.out; first | (simpa using h9) | (simp_all)), hal2⟩
          · rw [hq3] at HR el2
            have hlen := of_decide_eq_true hq3
            obtain ⟨a, c, hl⟩ : ∃ a c, t.kids = [a, c] := len_two hlen
            have hk0 : kd t 0 = a := by rw [kd_kids hl]; rfl
            rw [hk0] at HR
            have hk1 : kd t 1 = c := by rw [kd_kids hl]; rfl
            rw [hk1] at HR
            obtain ⟨g, off, ka0, kc0, na0, nc0, rfl, hg, hxx0, c00, c01, c02, c03, c04⟩ := hK.at (j := 0) (x := a) (by rw [hl]; rfl)
            obtain ⟨g', off', ka1, kc1, na1, nc1, he, _, hxx1, c10, c11, c12, c13, c14⟩ := hK.at (j := 1) (x := c) (by rw [hl]; rfl)
            cases he
            simp only [Nat.zero_mul, Nat.one_mul, Nat.add_zero] at c00 c01 c02 c03 c04 c10 c11 c12 c13 c14
            have hp0 : 0 < t.kids.length := by omega
            have hp1 : 1 < t.kids.length := by omega
            have hba : blk a < blk t := blk_kid (by rw [hl]; simp)
            have hbc : blk c < blk t := blk_kid (by rw [hl]; simp)
            clear hl hlen hk0 hk1 hq3
            cases hq4 : okF f 0 a
            · rw [hq4] at HR
              have r00 := (hal1.cell (p := ⟨g, off, none⟩) (by show g < _; omega)).trans c00
              have d00 := r00
              rw [Hw1.out] at r00
              have r01 := (hal1.cell (p := ⟨g, off + 1, none⟩) (by show g < _; omega)).trans c01
              have d01 := r01
              rw [Hw1.out] at r01
              have r02 := (hal1.cell (p := ⟨g, off + 2, none⟩) (by show g < _; omega)).trans c02
              have d02 := r02
              rw [Hw1.out] at r02
              have r03 := (hal1.cell (p := ⟨g, off + 3, none⟩) (by show g < _; omega)).trans c03
              have d03 := r03
              rw [Hw1.out] at r03
              have r04 := (hal1.cell (p := ⟨g, off + 4, none⟩) (by show g < _; omega)).trans c04
              have d04 := r04
              rw [Hw1.out] at r04
              have r10 := (hal1.cell (p := ⟨g, off + 5, none⟩) (by show g < _; omega)).trans c10
              have d10 := r10
              rw [Hw1.out] at r10
              have r11 := (hal1.cell (p := ⟨g, off + 5 + 1, none⟩) (by show g < _; omega)).trans c11
              have d11 := r11
              rw [Hw1.out] at r11
              have r12 := (hal1.cell (p := ⟨g, off + 5 + 2, none⟩) (by show g < _; omega)).trans c12
              have d12 := r12
              rw [Hw1.out] at r12
              have r13 := (hal1.cell (p := ⟨g, off + 5 + 3, none⟩) (by show g < _; omega)).trans c13
              have d13 := r13
              rw [Hw1.out] at r13
              have r14 := (hal1.cell (p := ⟨g, off + 5 + 4, none⟩) (by show g < _; omega)).trans c14
              have d14 := r14
              rw [Hw1.out] at r14
              go_enter Try.func10, Try.ntmps10
              go_wp2_with fail
              rw [← Hw1.out]
              clear Hw1
              have cc := rNames_any n w1 t.names _ (hN.keep (hal1.mono hn)) (Nat.le_trans hn hal1.size) hnl (fun x hx => by have := blk_names hx; omega)
              rw [hq1] at cc
              refine cc.mono ?_
              rintro e w2 ⟨rfl, hb2⟩
              clear cc
              have hal2 := chain hal1 hb2
              have hB2 := hB1.blw hb2
              clear x0 x1 x2 x3 x4
              obtain ⟨x0, x1, x2, x3, x4⟩ := hB2.cells
              have d00 := (hal2.cell (p := ⟨g, off, none⟩) (by show g < _; omega)).trans c00
              have d01 := (hal2.cell (p := ⟨g, off + 1, none⟩) (by show g < _; omega)).trans c01
              have d02 := (hal2.cell (p := ⟨g, off + 2, none⟩) (by show g < _; omega)).trans c02
              have d03 := (hal2.cell (p := ⟨g, off + 3, none⟩) (by show g < _; omega)).trans c03
              have d04 := (hal2.cell (p := ⟨g, off + 4, none⟩) (by show g < _; omega)).trans c04
              have d10 := (hal2.cell (p := ⟨g, off + 5, none⟩) (by show g < _; omega)).trans c10
              have d11 := (hal2.cell (p := ⟨g, off + 5 + 1, none⟩) (by show g < _; omega)).trans c11
              have d12 := (hal2.cell (p := ⟨g, off + 5 + 2, none⟩) (by show g < _; omega)).trans c12
              have d13 := (hal2.cell (p := ⟨g, off + 5 + 3, none⟩) (by show g < _; omega)).trans c13
              have d14 := (hal2.cell (p := ⟨g, off + 5 + 4, none⟩) (by show g < _; omega)).trans c14
              go_wp2_with fail
              have cc := (IH f (Nat.le_refl _)) n a _ w2 (hxx0.keep (hal2.mono hn)) (Nat.le_trans hn hal2.size) (by omega) (by omega)
              rw [hq4] at cc
              refine cc.mono ?_
              rintro e w3 ⟨rfl, hb3⟩
              clear cc
              have hal3 := chain hal2 hb3
              have hB3 := hB2.blw hb3
              clear x0 x1 x2 x3 x4
              obtain ⟨x0, x1, x2, x3, x4⟩ := hB3.cells
              have d00 := (hal3.cell (p := ⟨g, off, none⟩) (by show g < _; omega)).trans c00
              have d01 := (hal3.cell (p := ⟨g, off + 1, none⟩) (by show g < _; omega)).trans c01
              have d02 := (hal3.cell (p := ⟨g, off + 2, none⟩) (by show g < _; omega)).trans c02
              have d03 := (hal3.cell (p := ⟨g, off + 3, none⟩) (by show g < _; omega)).trans c03
              have d04 := (hal3.cell (p := ⟨g, off + 4, none⟩) (by show g < _; omega)).trans c04
              have d10 := (hal3.cell (p := ⟨g, off + 5, none⟩) (by show g < _; omega)).trans c10
              have d11 := (hal3.cell (p := ⟨g, off + 5 + 1, none⟩) (by show g < _; omega)).trans c11
              have d12 := (hal3.cell (p := ⟨g, off + 5 + 2, none⟩) (by show g < _; omega)).trans c12
              have d13 := (hal3.cell (p := ⟨g, off + 5 + 3, none⟩) (by show g < _; omega)).trans c13
              have d14 := (hal3.cell (p := ⟨g, off + 5 + 4, none⟩) (by show g < _; omega)).trans c14
              go_wp2_with fail
              go_ret
              exact ⟨ret_bool (by have h9 := HR.out; first | (simpa using h9) | (simp_all)), hal3⟩
            · rw [hq4] at HR
              generalize hz : okF f 0 c = z at *
              have r00 := (hal1.cell (p := ⟨g, off, none⟩) (by show g < _; omega)).trans c00
              have d00 := r00
              rw [Hw1.out] at r00
              have r01 := (hal1.cell (p := ⟨g, off + 1, none⟩) (by show g < _; omega)).trans c01
              have d01 := r01
              rw [Hw1.out] at r01
              have r02 := (hal1.cell (p := ⟨g, off + 2, none⟩) (by show g < _; omega)).trans c02
              have d02 := r02
              rw [Hw1.out] at r02
              have r03 := (hal1.cell (p := ⟨g, off + 3, none⟩) (by show g < _; omega)).trans c03
              have d03 := r03
              rw [Hw1.out] at r03
              have r04 := (hal1.cell (p := ⟨g, off + 4, none⟩) (by show g < _; omega)).trans c04
              have d04 := r04
              rw [Hw1.out] at r04
              have r10 := (hal1.cell (p := ⟨g, off + 5, none⟩) (by show g < _; omega)).trans c10
              have d10 := r10
              rw [Hw1.out] at r10
              have r11 := (hal1.cell (p := ⟨g, off + 5 + 1, none⟩) (by show g < _; omega)).trans c11
              have d11 := r11
              rw [Hw1.out] at r11
              have r12 := (hal1.cell (p := ⟨g, off + 5 + 2, none⟩) (by show g < _; omega)).trans c12
              have d12 := r12
              rw [Hw1.out] at r12
              have r13 := (hal1.cell (p := ⟨g, off + 5 + 3, none⟩) (by show g < _; omega)).trans c13
              have d13 := r13
              rw [Hw1.out] at r13
              have r14 := (hal1.cell (p := ⟨g, off + 5 + 4, none⟩) (by show g < _; omega)).trans c14
              have d14 := r14
              rw [Hw1.out] at r14
              go_enter Try.func10, Try.ntmps10
              go_wp2_with fail
              rw [← Hw1.out]
              clear Hw1
              have cc := rNames_any n w1 t.names _ (hN.keep (hal1.mono hn)) (Nat.le_trans hn hal1.size) hnl (fun x hx => by have := blk_names hx; omega)
              rw [hq1] at cc
              refine cc.mono ?_
              rintro e w2 ⟨rfl, hb2⟩
              clear cc
              have hal2 := chain hal1 hb2
              have hB2 := hB1.blw hb2
              clear x0 x1 x2 x3 x4
              obtain ⟨x0, x1, x2, x3, x4⟩ := hB2.cells
              have d00 := (hal2.cell (p := ⟨g, off, none⟩) (by show g < _; omega)).trans c00
              have d01 := (hal2.cell (p := ⟨g, off + 1, none⟩) (by show g < _; omega)).trans c01
              have d02 := (hal2.cell (p := ⟨g, off + 2, none⟩) (by show g < _; omega)).trans c02
              have d03 := (hal2.cell (p := ⟨g, off + 3, none⟩) (by show g < _; omega)).trans c03
              have d04 := (hal2.cell (p := ⟨g, off + 4, none⟩) (by show g < _; omega)).trans c04
              have d10 := (hal2.cell (p := ⟨g, off + 5, none⟩) (by show g < _; omega)).trans c10
              have d11 := (hal2.cell (p := ⟨g, off + 5 + 1, none⟩) (by show g < _; omega)).trans c11
              have d12 := (hal2.cell (p := ⟨g, off + 5 + 2, none⟩) (by show g < _; omega)).trans c12
              have d13 := (hal2.cell (p := ⟨g, off + 5 + 3, none⟩) (by show g < _; omega)).trans c13
              have d14 := (hal2.cell (p := ⟨g, off + 5 + 4, none⟩) (by show g < _; omega)).trans c14
              go_wp2_with fail
              have cc := (IH f (Nat.le_refl _)) n a _ w2 (hxx0.keep (hal2.mono hn)) (Nat.le_trans hn hal2.size) (by omega) (by omega)
              rw [hq4] at cc
              refine cc.mono ?_
              rintro e w3 ⟨rfl, hb3⟩
              clear cc
              have hal3 := chain hal2 hb3
              have hB3 := hB2.blw hb3
              clear x0 x1 x2 x3 x4
              obtain ⟨x0, x1, x2, x3, x4⟩ := hB3.cells
              have d00 := (hal3.cell (p := ⟨g, off, none⟩) (by show g < _; omega)).trans c00
              have d01 := (hal3.cell (p := ⟨g, off + 1, none⟩) (by show g < _; omega)).trans c01
              have d02 := (hal3.cell (p := ⟨g, off + 2, none⟩) (by show g < _; omega)).trans c02
              have d03 := (hal3.cell (p := ⟨g, off + 3, none⟩) (by show g < _; omega)).trans c03
              have d04 := (hal3.cell (p := ⟨g, off + 4, none⟩) (by show g < _; omega)).trans c04
              have d10 := (hal3.cell (p := ⟨g, off + 5, none⟩) (by show g < _; omega)).trans c10
              have d11 := (hal3.cell (p := ⟨g, off + 5 + 1, none⟩) (by show g < _; omega)).trans c11
              have d12 := (hal3.cell (p := ⟨g, off + 5 + 2, none⟩) (by show g < _; omega)).trans c12
              have d13 := (hal3.cell (p := ⟨g, off + 5 + 3, none⟩) (by show g < _; omega)).trans c13
              have d14 := (hal3.cell (p := ⟨g, off + 5 + 4, none⟩) (by show g < _; omega)).trans c14
              go_wp2_with fail
              have cc := (IH f (Nat.le_refl _)) n c _ w3 (hxx1.keep (hal3.mono hn)) (Nat.le_trans hn hal3.size) (by omega) (by omega)
              rw [hz] at cc
              refine cc.mono ?_
              rintro e w4 ⟨rfl, hb4⟩
              clear cc
              have hal4 := chain hal3 hb4
              have hB4 := hB3.blw hb4
              clear x0 x1 x2 x3 x4
              obtain ⟨x0, x1, x2, x3, x4⟩ := hB4.cells
              have d00 := (hal4.cell (p := ⟨g, off, none⟩) (by show g < _; omega)).trans c00
              have d01 := (hal4.cell (p := ⟨g, off + 1, none⟩) (by show g < _; omega)).trans c01
              have d02 := (hal4.cell (p := ⟨g, off + 2, none⟩) (by show g < _; omega)).trans c02
              have d03 := (hal4.cell (p := ⟨g, off + 3, none⟩) (by show g < _; omega)).trans c03
              have d04 := (hal4.cell (p := ⟨g, off + 4, none⟩) (by show g < _; omega)).trans c04
              have d10 := (hal4.cell (p := ⟨g, off + 5, none⟩) (by show g < _; omega)).trans c10
              have d11 := (hal4.cell (p := ⟨g, off + 5 + 1, none⟩) (by show g < _; omega)).trans c11
              have d12 := (hal4.cell (p := ⟨g, off + 5 + 2, none⟩) (by show g < _; omega)).trans c12
              have d13 := (hal4.cell (p := ⟨g, off + 5 + 3, none⟩) (by show g < _; omega)).trans c13
              have d14 := (hal4.cell (p := ⟨g, off + 5 + 4, none⟩) (by show g < _; omega)).trans c14
              go_wp2_with fail
              go_ret
              exact ⟨ret_bool (by have h9 := HR.out; first | (simpa using h9) | (simp_all)), hal4⟩
        · rw [decide_eq_false hq2] at HR
          have hp : ¬ (t.names.length : Int) < 2 := by have := hq2; omega
          clear hq2
          go_enter Try.func10, Try.ntmps10
          go_wp2_with fail
          rw [← Hw1.out]
          clear Hw1
          have cc := rNames_any n w1 t.names _ (hN.keep (hal1.mono hn)) (Nat.le_trans hn hal1.size) hnl (fun x hx => by have := blk_names hx; omega)
          rw [hq1] at cc
          refine cc.mono ?_
          rintro e w2 ⟨rfl, hb2⟩
          clear cc
          have hal2 := chain hal1 hb2
          have hB2 := hB1.blw hb2
          clear x0 x1 x2 x3 x4
          obtain ⟨x0, x1, x2, x3, x4⟩ := hB2.cells
          go_wp2_with fail
          go_ret
          exact ⟨ret_bool (by have h9 := HR.out; first | (simpa using h9) | (simp_all)), hal2⟩
  by_cases hk5 : t.kind = 5
  · have HR0 : (decide (t.name = []) && (t.names.all nameB && (decide (t.names.length < 2) && (decide (t.kids.length = 2) && (okF f 0 (kd t 0) && okF f 0 (kd t 1)))))) = r := by
      rw [← hr]; unfold termB
      rw [if_neg (by omega), if_neg (by omega), if_pos (by omega)]
      try rw [are1_eq]
      try rw [are2_eq]
      cases decide (t.name = []) <;> cases t.names.all nameB <;> simp
    have HR : Hid (_ = _) := HR0
    clear HR0
    have k1 : (t.kind == 1) = false := by rw [hk5]; rfl
    have k2 : (t.kind == 2) = false := by rw [hk5]; rfl
    have k3 : (t.kind == 3) = false := by rw [hk5]; rfl
    have k4 : (t.kind == 4) = false := by rw [hk5]; rfl
    have k5 : (t.kind == 5) = true := by rw [hk5]; rfl
    have k6 : (t.kind == 6) = false := by rw [hk5]; rfl
    have k8 : (t.kind == 8) = false := by rw [hk5]; rfl
    have k9 : (t.kind == 9) = false := by rw [hk5]; rfl
    have k7 : (t.kind == 7) = false := by rw [hk5]; rfl
    have k10 : (t.kind == 10) = false := by rw [hk5]; rfl
    clear hk5 hr h
    cases hq0 : decide (t.name = [])
    · rw [hq0] at HR e1
      clear hq0
      go_enter Try.func10, Try.ntmps10
      go_wp2_with fail
      rw [← Hw1.out]
      clear Hw1
      go_ret
      exact ⟨ret_bool (by have h9 := HR.out; first | (simpa using h9) | (simp_all)), hal1⟩
    · rw [hq0] at HR e1
      clear hq0
      cases hq1 : t.names.all nameB
      · rw [hq1] at HR
        go_enter Try.func10, Try.ntmps10
        go_wp2_with fail
        rw [← Hw1.out]
        clear Hw1
        have cc := rNames_any n w1 t.names _ (hN.keep (hal1.mono hn)) (Nat.le_trans hn hal1.size) hnl (fun x hx => by have := blk_names hx; omega)
        rw [hq1] at cc
        refine cc.mono ?_
        rintro e w2 ⟨rfl, hb2⟩
        clear cc
        have hal2 := chain hal1 hb2
        have hB2 := hB1.blw hb2
        clear x0 x1 x2 x3 x4
        obtain ⟨x0, x1, x2, x3, x4⟩ := hB2.cells
        go_wp2_with fail
        go_ret
        exact ⟨ret_bool (by have h9 := HR.out; first | (simpa using h9) | (simp_all)), hal2⟩
      · rw [hq1] at HR
        by_cases hq2 : t.names.length < 2
        · rw [decide_eq_true hq2] at HR
          have hp : (t.names.length : Int) < 2 := by have := hq2; omega
          clear hq2
          cases hq3 : decide (t.kids.length = 2)
          · rw [hq3] at HR el2
            clear hq3
            go_enter Try.func10, Try.ntmps10
            go_wp2_with fail
            rw [← Hw1.out]
            clear Hw1
            have cc := rNames_any n w1 t.names _ (hN.keep (hal1.mono hn)) (Nat.le_trans hn hal1.size) hnl (fun x hx => by have := blk_names hx; omega)
            rw [hq1] at cc
            refine cc.mono ?_
            rintro e w2 ⟨rfl, hb2⟩
            clear cc
            have hal2 := chain hal1 hb2
            have hB2 := hB1.blw hb2
            clear x0 x1 x2 x3 x4
            obtain ⟨x0, x1, x2, x3, x4⟩ := hB2.cells
            go_wp2_with fail
            go_ret
            exact ⟨ret_bool (by have h9 := HR.out; first | (simpa using h9) | (simp_all)), hal2⟩
          · rw [hq3] at HR el2
            have hlen := of_decide_eq_true hq3
            obtain ⟨a, c, hl⟩ : ∃ a c, t.kids = [a, c] := len_two hlen
            have hk0 : kd t 0 = a := by rw [kd_kids hl]; rfl
            rw [hk0] at HR
            have hk1 : kd t 1 = c := by rw [kd_kids hl]; rfl
            rw [hk1] at HR
            obtain ⟨g, off, ka0, kc0, na0, nc0, rfl, hg, hxx0, c00, c01, c02, c03, c04⟩ := hK.at (j := 0) (x := a) (by rw [hl]; rfl)
            obtain ⟨g', off', ka1, kc1, na1, nc1, he, _, hxx1, c10, c11, c12, c13, c14⟩ := hK.at (j := 1) (x := c) (by rw [hl]; rfl)
            cases he
            simp only [Nat.zero_mul, Nat.one_mul, Nat.add_zero] at c00 c01 c02 c03 c04 c10 c11 c12 c13 c14
            have hp0 : 0 < t.kids.length := by omega
            have hp1 : 1 < t.kids.length := by omega
            have hba : blk a < blk t := blk_kid (by rw [hl]; simp)
            have hbc : blk c < blk t := blk_kid (by rw [hl]; simp)
            clear hl hlen hk0 hk1 hq3
            cases hq4 : okF f 0 a
            · rw [hq4] at HR
              have r00 := (hal1.cell (p := ⟨g, off, none⟩) (by show g < _; omega)).trans c00
              have d00 := r00
              rw [Hw1.out] at r00
              have r01 := (hal1.cell (p := ⟨g, off + 1, none⟩) (by show g < _; omega)).trans c01
              have d01 := r01
              rw [Hw1.out] at r01
              have r02 := (hal1.cell (p := ⟨g, off + 2, none⟩) (by show g < _; omega)).trans c02
              have d02 := r02
              rw [Hw1.out] at r02
              have r03 := (hal1.cell (p := ⟨g, off + 3, none⟩) (by show g < _; omega)).trans c03
              have d03 := r03
              rw [Hw1.out] at r03
              have r04 := (hal1.cell (p := ⟨g, off + 4, none⟩) (by show g < _; omega)).trans c04
              have d04 := r04
              rw [Hw1.out] at r04
              have r10 := (hal1.cell (p := ⟨g, off + 5, none⟩) (by show g < _; omega)).trans c10
              have d10 := r10
              rw [Hw1.out] at r10
              have r11 := (hal1.cell (p := ⟨g, off + 5 + 1, none⟩) (by show g < _; omega)).trans c11
              have d11 := r11
              rw [Hw1.out] at r11
              have r12 := (hal1.cell (p := ⟨g, off + 5 + 2, none⟩) (by show g < _; omega)).trans c12
              have d12 := r12
              rw [Hw1.out] at r12
              have r13 := (hal1.cell (p := ⟨g, off + 5 + 3, none⟩) (by show g < _; omega)).trans c13
              have d13 := r13
              rw [Hw1.out] at r13
              have r14 := (hal1.cell (p := ⟨g, off + 5 + 4, none⟩) (by show g < _; omega)).trans c14
              have d14 := r14
              rw [Hw1.out] at r14
              go_enter Try.func10, Try.ntmps10
              go_wp2_with fail
              rw [← Hw1.out]
              clear Hw1
              have cc := rNames_any n w1 t.names _ (hN.keep (hal1.mono hn)) (Nat.le_trans hn hal1.size) hnl (fun x hx => by have := blk_names hx; omega)
              rw [hq1] at cc
              refine cc.mono ?_
              rintro e w2 ⟨rfl, hb2⟩
              clear cc
              have hal2 := chain hal1 hb2
              have hB2 := hB1.blw hb2
              clear x0 x1 x2 x3 x4
              obtain ⟨x0, x1, x2, x3, x4⟩ := hB2.cells
              have d00 := (hal2.cell (p := ⟨g, off, none⟩) (by show g < _; omega)).trans c00
              have d01 := (hal2.cell (p := ⟨g, off + 1, none⟩) (by show g < _; omega)).trans c01
              have d02 := (hal2.cell (p := ⟨g, off + 2, none⟩) (by show g < _; omega)).trans c02
              have d03 := (hal2.cell (p := ⟨g, off + 3, none⟩) (by show g < _; omega)).trans c03
              have d04 := (hal2.cell (p := ⟨g, off + 4, none⟩) (by show g < _; omega)).trans c04
              have d10 := (hal2.cell (p := ⟨g, off + 5, none⟩) (by show g < _; omega)).trans c10
              have d11 := (hal2.cell (p := ⟨g, off + 5 + 1, none⟩) (by show g < _; omega)).trans c11
              have d12 := (hal2.cell (p := ⟨g, off + 5 + 2, none⟩) (by show g < _; omega)).trans c12
              have d13 := (hal2.cell (p := ⟨g, off + 5 + 3, none⟩) (by show g < _; omega)).trans c13
              have d14 := (hal2.cell (p := ⟨g, off + 5 + 4, none⟩) (by show g < _; omega)).trans c14
              go_wp2_with fail
              have cc := (IH f (Nat.le_refl _)) n a _ w2 (hxx0.keep (hal2.mono hn)) (Nat.le_trans hn hal2.size) (by omega) (by omega)
              rw [hq4] at cc
              refine cc.mono ?_
              rintro e w3 ⟨rfl, hb3⟩
              clear cc
              have hal3 := chain hal2 hb3
              have hB3 := hB2.blw hb3
              clear x0 x1 x2 x3 x4
              obtain ⟨x0, x1, x2, x3, x4⟩ := hB3.cells
              have d00 := (hal3.cell (p := ⟨g, off, none⟩) (by show g < _; omega)).trans c00
              have d01 := (hal3.cell (p := ⟨g, off + 1, none⟩) (by show g < _; omega)).trans c01
              have d02 := (hal3.cell (p := ⟨g, off + 2, none⟩) (by show g < _; omega)).trans c02
              have d03 := (hal3.cell (p := ⟨g, off + 3, none⟩) (by show g < _; omega)).trans c03
              have d04 := (hal3.cell (p := ⟨g, off + 4, none⟩) (by show g < _; omega)).trans c04
              have d10 := (hal3.cell (p := ⟨g, off + 5, none⟩) (by show g < _; omega)).trans c10
              have d11 := (hal3.cell (p := ⟨g, off + 5 + 1, none⟩) (by show g < _; omega)).trans c11
              have d12 := (hal3.cell (p := ⟨g, off + 5 + 2, none⟩) (by show g < _; omega)).trans c12
              have d13 := (hal3.cell (p := ⟨g, off + 5 + 3, none⟩) (by show g < _; omega)).trans c13
              have d14 := (hal3.cell (p := ⟨g, off + 5 + 4, none⟩) (by show g < _; omega)).trans c14
              go_wp2_with fail
              go_ret
              exact ⟨ret_bool (by have h9 := HR.out; first | (simpa using h9) | (simp_all)), hal3⟩
            · rw [hq4] at HR
              generalize hz : okF f 0 c = z at *
              have r00 := (hal1.cell (p := ⟨g, off, none⟩) (by show g < _; omega)).trans c00
              have d00 := r00
              rw [Hw1.out] at r00
              have r01 := (hal1.cell (p := ⟨g, off + 1, none⟩) (by show g < _; omega)).trans c01
              have d01 := r01
              rw [Hw1.out] at r01
              have r02 := (hal1.cell (p := ⟨g, off + 2, none⟩) (by show g < _; omega)).trans c02
              have d02 := r02
              rw [Hw1.out] at r02
              have r03 := (hal1.cell (p := ⟨g, off + 3, none⟩) (by show g < _; omega)).trans c03
              have d03 := r03
              rw [Hw1.out] at r03
              have r04 := (hal1.cell (p := ⟨g, off + 4, none⟩) (by show g < _; omega)).trans c04
              have d04 := r04
              rw [Hw1.out] at r04
              have r10 := (hal1.cell (p := ⟨g, off + 5, none⟩) (by show g < _; omega)).trans c10
              have d10 := r10
              rw [Hw1.out] at r10
              have r11 := (hal1.cell (p := ⟨g, off + 5 + 1, none⟩) (by show g < _; omega)).trans c11
              have d11 := r11
              rw [Hw1.out] at r11
              have r12 := (hal1.cell (p := ⟨g, off + 5 + 2, none⟩) (by show g < _; omega)).trans c12
              have d12 := r12
              rw [Hw1.out] at r12
              have r13 := (hal1.cell (p := ⟨g, off + 5 + 3, none⟩) (by show g < _; omega)).trans c13
              have d13 := r13
              rw [Hw1.out] at r13
              have r14 := (hal1.cell (p := ⟨g, off + 5 + 4, none⟩) (by show g < _; omega)).trans c14
              have d14 := r14
              rw [Hw1.out] at r14
              go_enter Try.func10, Try.ntmps10
              go_wp2_with fail
              rw [← Hw1.out]
              clear Hw1
              have cc := rNames_any n w1 t.names _ (hN.keep (hal1.mono hn)) (Nat.le_trans hn hal1.size) hnl (fun x hx => by have := blk_names hx; omega)
              rw [hq1] at cc
              refine cc.mono ?_
              rintro e w2 ⟨rfl, hb2⟩
              clear cc
              have hal2 := chain hal1 hb2
              have hB2 := hB1.blw hb2
              clear x0 x1 x2 x3 x4
              obtain ⟨x0, x1, x2, x3, x4⟩ := hB2.cells
              have d00 := (hal2.cell (p := ⟨g, off, none⟩) (by show g < _; omega)).trans c00
              have d01 := (hal2.cell (p := ⟨g, off + 1, none⟩) (by show g < _; omega)).trans c01
              have d02 := (hal2.cell (p := ⟨g, off + 2, none⟩) (by show g < _; omega)).trans c02
              have d03 := (hal2.cell (p := ⟨g, off + 3, none⟩) (by show g < _; omega)).trans c03
              have d04 := (hal2.cell (p := ⟨g, off + 4, none⟩) (by show g < _; omega)).trans c04
              have d10 := (hal2.cell (p := ⟨g, off + 5, none⟩) (by show g < _; omega)).trans c10
              have d11 := (hal2.cell (p := ⟨g, off + 5 + 1, none⟩) (by show g < _; omega)).trans c11
              have d12 := (hal2.cell (p := ⟨g, off + 5 + 2, none⟩) (by show g < _; omega)).trans c12
              have d13 := (hal2.cell (p := ⟨g, off + 5 + 3, none⟩) (by show g < _; omega)).trans c13
              have d14 := (hal2.cell (p := ⟨g, off + 5 + 4, none⟩) (by show g < _; omega)).trans c14
              go_wp2_with fail
              have cc := (IH f (Nat.le_refl _)) n a _ w2 (hxx0.keep (hal2.mono hn)) (Nat.le_trans hn hal2.size) (by omega) (by omega)
              rw [hq4] at cc
              refine cc.mono ?_
              rintro e w3 ⟨rfl, hb3⟩
              clear cc
              have hal3 := chain hal2 hb3
              have hB3 := hB2.blw hb3
              clear x0 x1 x2 x3 x4
              obtain ⟨x0, x1, x2, x3, x4⟩ := hB3.cells
              have d00 := (hal3.cell (p := ⟨g, off, none⟩) (by show g < _; omega)).trans c00
              have d01 := (hal3.cell (p := ⟨g, off + 1, none⟩) (by show g < _; omega)).trans c01
              have d02 := (hal3.cell (p := ⟨g, off + 2, none⟩) (by show g < _; omega)).trans c02
              have d03 := (hal3.cell (p := ⟨g, off + 3, none⟩) (by show g < _; omega)).trans c03
              have d04 := (hal3.cell (p := ⟨g, off + 4, none⟩) (by show g < _; omega)).trans c04
              have d10 := (hal3.cell (p := ⟨g, off + 5, none⟩) (by show g < _; omega)).trans c10
              have d11 := (hal3.cell (p := ⟨g, off + 5 + 1, none⟩) (by show g < _; omega)).trans c11
              have d12 := (hal3.cell (p := ⟨g, off + 5 + 2, none⟩) (by show g < _; omega)).trans c12
              have d13 := (hal3.cell (p := ⟨g, off + 5 + 3, none⟩) (by show g < _; omega)).trans c13
              have d14 := (hal3.cell (p := ⟨g, off + 5 + 4, none⟩) (by show g < _; omega)).trans c14
              go_wp2_with fail
              have cc := (IH f (Nat.le_refl _)) n c _ w3 (hxx1.keep (hal3.mono hn)) (Nat.le_trans hn hal3.size) (by omega) (by omega)
              rw [hz] at cc
              refine cc.mono ?_
              rintro e w4 ⟨rfl, hb4⟩
              clear cc
              have hal4 := chain hal3 hb4
              have hB4 := hB3.blw hb4
              clear x0 x1 x2 x3 x4
              obtain ⟨x0, x1, x2, x3, x4⟩ := hB4.cells
              have d00 := (hal4.cell (p := ⟨g, off, none⟩) (by show g < _; omega)).trans c00
              have d01 := (hal4.cell (p := ⟨g, off + 1, none⟩) (by show g < _; omega)).trans c01
              have d02 := (hal4.cell (p := ⟨g, off + 2, none⟩) (by show g < _; omega)).trans c02
              have d03 := (hal4.cell (p := ⟨g, off + 3, none⟩) (by show g < _; omega)).trans c03
              have d04 := (hal4.cell (p := ⟨g, off + 4, none⟩) (by show g < _; omega)).trans c04
              have d10 := (hal4.cell (p := ⟨g, off + 5, none⟩) (by show g < _; omega)).trans c10
              have d11 := (hal4.cell (p := ⟨g, off + 5 + 1, none⟩) (by show g < _; omega)).trans c11
              have d12 := (hal4.cell (p := ⟨g, off + 5 + 2, none⟩) (by show g < _; omega)).trans c12
              have d13 := (hal4.cell (p := ⟨g, off + 5 + 3, none⟩) (by show g < _; omega)).trans c13
              have d14 := (hal4.cell (p := ⟨g, off + 5 + 4, none⟩) (by show g < _; omega)).trans c14
              go_wp2_with fail
              go_ret
              exact ⟨ret_bool (by have h9 := HR.out; first | (simpa using h9) | (simp_all)), hal4⟩
        · rw [decide_eq_false hq2] at HR
          have hp : ¬ (t.names.length : Int) < 2 := by have := hq2; omega
          clear hq2
          go_enter Try.func10, Try.ntmps10
          go_wp2_with fail
          rw [← Hw1.out]
          clear Hw1
          have cc := rNames_any n w1 t.names _ (hN.keep (hal1.mono hn)) (Nat.le_trans hn hal1.size) hnl (fun x hx => by have := blk_names hx; omega)
          rw [hq1] at cc
          refine cc.mono ?_
          rintro e w2 ⟨rfl, hb2⟩
          clear cc
          have hal2 := chain hal1 hb2
          have hB2 := hB1.blw hb2
          clear x0 x1 x2 x3 x4
          obtain ⟨x0, x1, x2, x3, x4⟩ := hB2.cells
          go_wp2_with fail
          go_ret
          exact ⟨ret_bool (by have h9 := HR.out; first | (simpa using h9) | (simp_all)), hal2⟩
  by_cases hk6 : t.kind = 6
  · have HR0 : (decide (t.name = []) && (t.names.all nameB && (decide (t.names = []) && (decide (t.kids.length = 2) && (okF f 0 (kd t 0) && okF f 0 (kd t 1)))))) = r := by
      rw [← hr]; unfold termB
      rw [if_neg (by omega), if_neg (by omega), if_neg (by omega), if_pos (by omega)]
      try rw [are1_eq]
      try rw [are2_eq]
      unfold namelessB
      by_cases hnm : t.names = [] <;> cases decide (t.name = []) <;> simp [hnm]
    have HR : Hid (_ = _) := HR0
    clear HR0
    have k1 : (t.kind == 1) = false := by rw [hk6]; rfl
    have k2 : (t.kind == 2) = false := by rw [hk6]; rfl
    have k3 : (t.kind == 3) = false := by rw [hk6]; rfl
    have k4 : (t.kind == 4) = false := by rw [hk6]; rfl
    have k5 : (t.kind == 5) = false := by rw [hk6]; rfl
    have k6 : (t.kind == 6) = true := by rw [hk6]; rfl
    have k8 : (t.kind == 8) = false := by rw [hk6]; rfl
    have k9 : (t.kind == 9) = false := by rw [hk6]; rfl
    have k7 : (t.kind == 7) = false := by rw [hk6]; rfl
    have k10 : (t.kind == 10) = false := by rw [hk6]; rfl
    clear hk6 hr h
    cases hq0 : decide (t.name = [])
    · rw [hq0] at HR e1
      clear hq0
      go_enter Try.func10, Try.ntmps10
      go_wp2_with fail
      rw [← Hw1.out]
      clear Hw1
      go_ret
      exact ⟨ret_bool (by have h9 := HR.out; first | (simpa using h9) | (simp_all)), hal1⟩
    · rw [hq0] at HR e1
      clear hq0
      cases hq1 : t.names.all nameB
      · rw [hq1] at HR
        go_enter Try.func10, Try.ntmps10
        go_wp2_with fail
        rw [← Hw1.out]
        clear Hw1
        have cc := rNames_any n w1 t.names _ (hN.keep (hal1.mono hn)) (Nat.le_trans hn hal1.size) hnl (fun x hx => by have := blk_names hx; omega)
        rw [hq1] at cc
        refine cc.mono ?_
        rintro e w2 ⟨rfl, hb2⟩
        clear cc
        have hal2 := chain hal1 hb2
        have hB2 := hB1.blw hb2
        clear x0 x1 x2 x3 x4
        obtain ⟨x0, x1, x2, x3, x4⟩ := hB2.cells
        go_wp2_with fail
        go_ret
        exact ⟨ret_bool (by have h9 := HR.out; first | (simpa using h9) | (simp_all)), hal2⟩
      · rw [hq1] at HR
        cases hq2 : decide (t.names = [])
        · rw [hq2] at HR e2
          clear hq2
          go_enter Try.func10, Try.ntmps10
          go_wp2_with fail
          rw [← Hw1.out]
          clear Hw1
          have cc := rNames_any n w1 t.names _ (hN.keep (hal1.mono hn)) (Nat.le_trans hn hal1.size) hnl (fun x hx => by have := blk_names hx; omega)
          rw [hq1] at cc
          refine cc.mono ?_
          rintro e w2 ⟨rfl, hb2⟩
          clear cc
          have hal2 := chain hal1 hb2
          have hB2 := hB1.blw hb2
          clear x0 x1 x2 x3 x4
          obtain ⟨x0, x1, x2, x3, x4⟩ := hB2.cells
          go_wp2_with fail
          go_ret
          exact ⟨ret_bool (by have h9 := HR.out; first | (simpa using h9) | (simp_all)), hal2⟩
        · rw [hq2] at HR e2
          clear hq2
          cases hq3 : decide (t.kids.length = 2)
          · rw [hq3] at HR el2
            clear hq3
            go_enter Try.func10, Try.ntmps10
            go_wp2_with fail
            rw [← Hw1.out]
            clear Hw1
            have cc := rNames_any n w1 t.names _ (hN.keep (hal1.mono hn)) (Nat.le_trans hn hal1.size) hnl (fun x hx => by have := blk_names hx; omega)
            rw [hq1] at cc
            refine cc.mono ?_
            rintro e w2 ⟨rfl, hb2⟩
            clear cc
            have hal2 := chain hal1 hb2
            have hB2 := hB1.blw hb2
            clear x0 x1 x2 x3 x4
            obtain ⟨x0, x1, x2, x3, x4⟩ := hB2.cells
            go_wp2_with fail
            go_ret
            exact ⟨ret_bool (by have h9 := HR.out; first | (simpa using h9) | (simp_all)), hal2⟩
          · rw [hq3] at HR el2
            have hlen := of_decide_eq_true hq3
            obtain ⟨a, c, hl⟩ : ∃ a c, t.kids = [a, c] := len_two hlen
            have hk0 : kd t 0 = a := by rw [kd_kids hl]; rfl
            rw [hk0] at HR
            have hk1 : kd t 1 = c := by rw [kd_kids hl]; rfl
            rw [hk1] at HR
            obtain ⟨g, off, ka0, kc0, na0, nc0, rfl, hg, hxx0, c00, c01, c02, c03, c04⟩ := hK.at (j := 0) (x := a) (by rw [hl]; rfl)
            obtain ⟨g', off', ka1, kc1, na1, nc1, he, _, hxx1, c10, c11, c12, c13, c14⟩ := hK.at (j := 1) (x := c) (by rw [hl]; rfl)
            cases he
            simp only [Nat.zero_mul, Nat.one_mul, Nat.add_zero] at c00 c01 c02 c03 c04 c10 c11 c12 c13 c14
            have hp0 : 0 < t.kids.length := by omega
            have hp1 : 1 < t.kids.length := by omega
            have hba : blk a < blk t := blk_kid (by rw [hl]; simp)
            have hbc : blk c < blk t := blk_kid (by rw [hl]; simp)
            clear hl hlen hk0 hk1 hq3
            cases hq4 : okF f 0 a
            · rw [hq4] at HR
              have r00 := (hal1.cell (p := ⟨g, off, none⟩) (by show g < _; omega)).trans c00
              have d00 := r00
              rw [Hw1.out] at r00
              have r01 := (hal1.cell (p := ⟨g, off + 1, none⟩) (by show g < _; omega)).trans c01
              have d01 := r01
              rw [Hw1.out] at r01
              have r02 := (hal1.cell (p := ⟨g, off + 2, none⟩) (by show g < _; omega)).trans c02
              have d02 := r02
              rw [Hw1.out] at r02
              have r03 := (hal1.cell (p := ⟨g, off + 3, none⟩) (by show g < _; omega)).trans c03
              have d03 := r03
              rw [Hw1.out] at r03
              have r04 := (hal1.cell (p := ⟨g, off + 4, none⟩) (by show g < _; omega)).trans c04
              have d04 := r04
              rw [Hw1.out] at r04
              have r10 := (hal1.cell (p := ⟨g, off + 5, none⟩) (by show g < _; omega)).trans c10
              have d10 := r10
              rw [Hw1.out] at r10
              have r11 := (hal1.cell (p := ⟨g, off + 5 + 1, none⟩) (by show g < _; omega)).trans c11
              have d11 := r11
              rw [Hw1.out] at r11
              have r12 := (hal1.cell (p := ⟨g, off + 5 + 2, none⟩) (by show g < _; omega)).trans c12
              have d12 := r12
              rw [Hw1.out] at r12
              have r13 := (hal1.cell (p := ⟨g, off + 5 + 3, none⟩) (by show g < _; omega)).trans c13
              have d13 := r13
              rw [Hw1.out] at r13
              have r14 := (hal1.cell (p := ⟨g, off + 5 + 4, none⟩) (by show g < _; omega)).trans c14
              have d14 := r14
              rw [Hw1.out] at r14
              go_enter Try.func10, Try.ntmps10
              go_wp2_with fail
              rw [← Hw1.out]
              clear Hw1
              have cc := rNames_any n w1 t.names _ (hN.keep (hal1.mono hn)) (Nat.le_trans hn hal1.size) hnl (fun x hx => by have := blk_names hx; omega)
              rw [hq1] at cc
              refine cc.mono ?_
              rintro e w2 ⟨rfl, hb2⟩
              clear cc
              have hal2 := chain hal1 hb2
              have hB2 := hB1.blw hb2
              clear x0 x1 x2 x3 x4
              obtain ⟨x0, x1, x2, x3, x4⟩ := hB2.cells
              have d00 := (hal2.cell (p := ⟨g, off, none⟩) (by show g < _; omega)).trans c00
              have d01 := (hal2.cell (p := ⟨g, off + 1, none⟩) (by show g < _; omega)).trans c01
              have d02 := (hal2.cell (p := ⟨g, off + 2, none⟩) (by show g < _; omega)).trans c02
              have d03 := (hal2.cell (p := ⟨g, off + 3, none⟩) (by show g < _; omega)).trans c03
              have d04 := (hal2.cell (p := ⟨g, off + 4, none⟩) (by show g < _; omega)).trans c04
              have d10 := (hal2.cell (p := ⟨g, off + 5, none⟩) (by show g < _; omega)).trans c10
              have d11 := (hal2.cell (p := ⟨g, off + 5 + 1, none⟩) (by show g < _; omega)).trans c11
              have d12 := (hal2.cell (p := ⟨g, off + 5 + 2, none⟩) (by show g < _; omega)).trans c12
              have d13 := (hal2.cell (p := ⟨g, off + 5 + 3, none⟩) (by show g < _; omega)).trans c13
              have d14 := (hal2.cell (p := ⟨g, off + 5 + 4, none⟩) (by show g < _; omega)).trans c14
              go_wp2_with fail
              have cc := (IH f (Nat.le_refl _)) n a _ w2 (hxx0.keep (hal2.mono hn)) (Nat.le_trans hn hal2.size) (by omega) (by omega)
              rw [hq4] at cc
              refine cc.mono ?_
              rintro e w3 ⟨rfl, hb3⟩
              clear cc
              have hal3 := chain hal2 hb3
              have hB3 := hB2.blw hb3
              clear x0 x1 x2 x3 x4
              obtain ⟨x0, x1, x2, x3, x4⟩ := hB3.cells
              have d00 := (hal3.cell (p := ⟨g, off, none⟩) (by show g < _; omega)).trans c00
              have d01 := (hal3.cell (p := ⟨g, off + 1, none⟩) (by show g < _; omega)).trans c01
              have d02 := (hal3.cell (p := ⟨g, off + 2, none⟩) (by show g < _; omega)).trans c02
              have d03 := (hal3.cell (p := ⟨g, off + 3, none⟩) (by show g < _; omega)).trans c03
              have d04 := (hal3.cell (p := ⟨g, off + 4, none⟩) (by show g < _; omega)).trans c04
              have d10 := (hal3.cell (p := ⟨g, off + 5, none⟩) (by show g < _; omega)).trans c10
              have d11 := (hal3.cell (p := ⟨g, off + 5 + 1, none⟩) (by show g < _; omega)).trans c11
              have d12 := (hal3.cell (p := ⟨g, off + 5 + 2, none⟩) (by show g < _; omega)).trans c12
              have d13 := (hal3.cell (p := ⟨g, off + 5 + 3, none⟩) (by show g < _; omega)).trans c13
              have d14 := (hal3.cell (p := ⟨g, off + 5 + 4, none⟩) (by show g < _; omega)).trans c14
              go_wp2_with fail
              go_ret
              exact ⟨ret_bool (by have h9 := HR.out; first | (simpa using h9) | (simp_all)), hal3⟩
            · rw [hq4] at HR
              generalize hz : okF f 0 c = z at *
              have r00 := (hal1.cell (p := ⟨g, off, none⟩) (by show g < _; omega)).trans c00
              have d00 := r00
              rw [Hw1.out] at r00
              have r01 := (hal1.cell (p := ⟨g, off + 1, none⟩) (by show g < _; omega)).trans c01
              have d01 := r01
              rw [Hw1.out] at r01
              have r02 := (hal1.cell (p := ⟨g, off + 2, none⟩) (by show g < _; omega)).trans c02
              have d02 := r02
              rw [Hw1.out] at r02
              have r03 := (hal1.cell (p := ⟨g, off + 3, none⟩) (by show g < _; omega)).trans c03
              have d03 := r03
              rw [Hw1.out] at r03
              have r04 := (hal1.cell (p := ⟨g, off + 4, none⟩) (by show g < _; omega)).trans c04
              have d04 := r04
              rw [Hw1.out] at r04
              have r10 := (hal1.cell (p := ⟨g, off + 5, none⟩) (by show g < _; omega)).trans c10
              have d10 := r10
              rw [Hw1.out] at r10
              have r11 := (hal1.cell (p := ⟨g, off + 5 + 1, none⟩) (by show g < _; omega)).trans c11
              have d11 := r11
              rw [Hw1.out] at r11
              have r12 := (hal1.cell (p := ⟨g, off + 5 + 2, none⟩) (by show g < _; omega)).trans c12
              have d12 := r12
              rw [Hw1.out] at r12
              have r13 := (hal1.cell (p := ⟨g, off + 5 + 3, none⟩) (by show g < _; omega)).trans c13
              have d13 := r13
              rw [Hw1.out] at r13
              have r14 := (hal1.cell (p := ⟨g, off + 5 + 4, none⟩) (by show g < _; omega)).trans c14
              have d14 := r14
              rw [Hw1.out] at r14
              go_enter Try.func10, Try.ntmps10
              go_wp2_with fail
              rw [← Hw1.out]
              clear Hw1
              have cc := rNames_any n w1 t.names _ (hN.keep (hal1.mono hn)) (Nat.le_trans hn hal1.size) hnl (fun x hx => by have := blk_names hx; omega)
              rw [hq1] at cc
              refine cc.mono ?_
              rintro e w2 ⟨rfl, hb2⟩
              clear cc
              have hal2 := chain hal1 hb2
              have hB2 := hB1.blw hb2
              clear x0 x1 x2 x3 x4
              obtain ⟨x0, x1, x2, x3, x4⟩ := hB2.cells
              have d00 := (hal2.cell (p := ⟨g, off, none⟩) (by show g < _; omega)).trans c00
              have d01 := (hal2.cell (p := ⟨g, off + 1, none⟩) (by show g < _; omega)).trans c01
              have d02 := (hal2.cell (p := ⟨g, off + 2, none⟩) (by show g < _; omega)).trans c02
              have d03 := (hal2.cell (p := ⟨g, off + 3, none⟩) (by show g < _; omega)).trans c03
              have d04 := (hal2.cell (p := ⟨g, off + 4, none⟩) (by show g < _; omega)).trans c04
              have d10 := (hal2.cell (p := ⟨g, off + 5, none⟩) (by show g < _; omega)).trans c10
              have d11 := (hal2.cell (p := ⟨g, off + 5 + 1, none⟩) (by show g < _; omega)).trans c11
              have d12 := (hal2.cell (p := ⟨g, off + 5 + 2, none⟩) (by show g < _; omega)).trans c12
              have d13 := (hal2.cell (p := ⟨g, off + 5 + 3, none⟩) (by show g < _; omega)).trans c13
              have d14 := (hal2.cell (p := ⟨g, off + 5 + 4, none⟩) (by show g < _; omega)).trans c14
              go_wp2_with fail
              have cc := (IH f (Nat.le_refl _)) n a _ w2 (hxx0.keep (hal2.mono hn)) (Nat.le_trans hn hal2.size) (by omega) (by omega)
              rw [hq4] at cc
              refine cc.mono ?_
              rintro e w3 ⟨rfl, hb3⟩
              clear cc
              have hal3 := chain hal2 hb3
              have hB3 := hB2.blw hb3
              clear x0 x1 x2 x3 x4
              obtain ⟨x0, x1, x2, x3, x4⟩ := hB3.cells
              have d00 := (hal3.cell (p := ⟨g, off, none⟩) (by show g < _; omega)).trans c00
              have d01 := (hal3.cell (p := ⟨g, off + 1, none⟩) (by show g < _; omega)).trans c01
              have d02 := (hal3.cell (p := ⟨g, off + 2, none⟩) (by show g < _; omega)).trans c02
              have d03 := (hal3.cell (p := ⟨g, off + 3, none⟩) (by show g < _; omega)).trans c03
              have d04 := (hal3.cell (p := ⟨g, off + 4, none⟩) (by show g < _; omega)).trans c04
              have d10 := (hal3.cell (p := ⟨g, off + 5, none⟩) (by show g < _; omega)).trans c10
              have d11 := (hal3.cell (p := ⟨g, off + 5 + 1, none⟩) (by show g < _; omega)).trans c11
              have d12 := (hal3.cell (p := ⟨g, off + 5 + 2, none⟩) (by show g < _; omega)).trans c12
              have d13 := (hal3.cell (p := ⟨g, off + 5 + 3, none⟩) (by show g < _; omega)).trans c13
              have d14 := (hal3.cell (p := ⟨g, off + 5 + 4, none⟩) (by show g < _; omega)).trans c14
              go_wp2_with fail
              have cc := (IH f (Nat.le_refl _)) n c _ w3 (hxx1.keep (hal3.mono hn)) (Nat.le_trans hn hal3.size) (by omega) (by omega)
              rw [hz] at cc
              refine cc.mono ?_
              rintro e w4 ⟨rfl, hb4⟩
              clear cc
              have hal4 := chain hal3 hb4
              have hB4 := hB3.blw hb4
              clear x0 x1 x2 x3 x4
              obtain ⟨x0, x1, x2, x3, x4⟩ := hB4.cells
              have d00 := (hal4.cell (p := ⟨g, off, none⟩) (by show g < _; omega)).trans c00
              have d01 := (hal4.cell (p := ⟨g, off + 1, none⟩) (by show g < _; omega)).trans c01
              have d02 := (hal4.cell (p := ⟨g, off + 2, none⟩) (by show g < _; omega)).trans c02
              have d03 := (hal4.cell (p := ⟨g, off + 3, none⟩) (by show g < _; omega)).trans c03
              have d04 := (hal4.cell (p := ⟨g, off + 4, none⟩) (by show g < _; omega)).trans c04
              have d10 := (hal4.cell (p := ⟨g, off + 5, none⟩) (by show g < _; omega)).trans c10
              have d11 := (hal4.cell (p := ⟨g, off + 5 + 1, none⟩) (by show g < _; omega)).trans c11
              have d12 := (hal4.cell (p := ⟨g, off + 5 + 2, none⟩) (by show g < _; omega)).trans c12
              have d13 := (hal4.cell (p := ⟨g, off + 5 + 3, none⟩) (by show g < _; omega)).trans c13
              have d14 := (hal4.cell (p := ⟨g, off + 5 + 4, none⟩) (by show g < _; omega)).trans c14
              go_wp2_with fail
              go_ret
              exact ⟨ret_bool (by have h9 := HR.out; first | (simpa using h9) | (simp_all)), hal4⟩
  by_cases hk8 : t.kind = 8
  · have HR0 : (decide (t.name = []) && (t.names.all nameB && (decide (t.names = []) && (decide (t.kids.length = 2) && (okF f 0 (kd t 0) && okF f 0 (kd t 1)))))) = r := by
      rw [← hr]; unfold termB
      rw [if_neg (by omega), if_neg (by omega), if_neg (by omega), if_pos (by omega)]
      try rw [are1_eq]
      try rw [are2_eq]
      unfold namelessB
      by_cases hnm : t.names = [] <;> cases decide (t.name = []) <;> simp [hnm]
    have HR : Hid (_ = _) := HR0
    clear HR0
    have k1 : (t.kind == 1) = false := by rw [hk8]; rfl
    have k2 : (t.kind == 2) = false := by rw [hk8]; rfl
    have k3 : (t.kind == 3) = false := by rw [hk8]; rfl
    have k4 : (t.kind == 4) = false := by rw [hk8]; rfl
    have k5 : (t.kind == 5) = false := by rw [hk8]; rfl
    have k6 : (t.kind == 6) = false := by rw [hk8]; rfl
    have k8 : (t.kind == 8) = true := by rw [hk8]; rfl
    have k9 : (t.kind == 9) = false := by rw [hk8]; rfl
    have k7 : (t.kind == 7) = false := by rw [hk8]; rfl
    have k10 : (t.kind == 10) = false := by rw [hk8]; rfl
    clear hk8 hr h
    cases hq0 : decide (t.name = [])
    · rw [hq0] at HR e1
      clear hq0
      go_enter Try.func10, Try.ntmps10
      go_wp2_with fail
      rw [← Hw1.out]
      clear Hw1
      go_ret
      exact ⟨ret_bool (by have h9 := HR.out; first | (simpa using h9) | (simp_all)), hal1⟩
    · rw [hq0] at HR e1
      clear hq0
      cases hq1 : t.names.all nameB
      · rw [hq1] at HR
        go_enter Try.func10, Try.ntmps10
        go_wp2_with fail
        rw [← Hw1.out]
        clear Hw1
        have cc := rNames_any n w1 t.names _ (hN.keep (hal1.mono hn)) (Nat.le_trans hn hal1.size) hnl (fun x hx => by have := blk_names hx; omega)
        rw [hq1] at cc
        refine cc.mono ?_
        rintro e w2 ⟨rfl, hb2⟩
        clear cc
        have hal2 := chain hal1 hb2
        have hB2 := hB1.blw hb2
        clear x0 x1 x2 x3 x4
        obtain ⟨x0, x1, x2, x3, x4⟩ := hB2.cells
        go_wp2_with fail
        go_ret
        exact ⟨ret_bool (by have h9 := HR.out; first | (simpa using h9) | (simp_all)), hal2⟩
      · rw [hq1] at HR
        cases hq2 : decide (t.names = [])
        · rw [hq2] at HR e2
          clear hq2
          go_enter Try.func10, Try.ntmps10
          go_wp2_with fail
          rw [← Hw1.out]
          clear Hw1
          have cc := rNames_any n w1 t.names _ (hN.keep (hal1.mono hn)) (Nat.le_trans hn hal1.size) hnl (fun x hx => by have := blk_names hx; omega)
          rw [hq1] at cc
          refine cc.mono ?_
          rintro e w2 ⟨rfl, hb2⟩
          clear cc
          have hal2 := chain hal1 hb2
          have hB2 := hB1.blw hb2
          clear x0 x1 x2 x3 x4
          obtain ⟨x0, x1, x2, x3, x4⟩ := hB2.cells
          go_wp2_with fail
          go_ret
          exact ⟨ret_bool (by have h9 := HR.out; first | (simpa using h9) | (simp_all)), hal2⟩
        · rw [hq2] at HR e2
          clear hq2
          cases hq3 : decide (t.kids.length = 2)
          · rw [hq3] at HR el2
            clear hq3
            go_enter Try.func10, Try.ntmps10
            go_wp2_with fail
            rw [← Hw1.out]
            clear Hw1
            have cc := rNames_any n w1 t.names _ (hN.keep (hal1.mono hn)) (Nat.le_trans hn hal1.size) hnl (fun x hx => by have := blk_names hx; omega)
            rw [hq1] at cc
            refine cc.mono ?_
            rintro e w2 ⟨rfl, hb2⟩
            clear cc
            have hal2 := chain hal1 hb2
            have hB2 := hB1.blw hb2
            clear x0 x1 x2 x3 x4
            obtain ⟨x0, x1, x2, x3, x4⟩ := hB2.cells
            go_wp2_with fail
            go_ret
            exact ⟨ret_bool (by have h9 := HR.out; first | (simpa using h9) | (simp_all)), hal2⟩
          · rw [hq3] at HR el2
            have hlen := of_decide_eq_true hq3
            obtain ⟨a, c, hl⟩ : ∃ a c, t.kids = [a, c] := len_two hlen
            have hk0 : kd t 0 = a := by rw [kd_kids hl]; rfl
            rw [hk0] at HR
            have hk1 : kd t 1 = c := by rw [kd_kids hl]; rfl
            rw [hk1] at HR
            obtain ⟨g, off, ka0, kc0, na0, nc0, rfl, hg, hxx0, c00, c01, c02, c03, c04⟩ := hK.at (j := 0) (x := a) (by rw [hl]; rfl)
            obtain ⟨g', off', ka1, kc1, na1, nc1, he, _, hxx1, c10, c11, c12, c13, c14⟩ := hK.at (j := 1) (x := c) (by rw [hl]; rfl)
            cases he
            simp only [Nat.zero_mul, Nat.one_mul, Nat.add_zero] at c00 c01 c02 c03 c04 c10 c11 c12 c13 c14
            have hp0 : 0 < t.kids.length := by omega
            have hp1 : 1 < t.kids.length := by omega
            have hba : blk a < blk t := blk_kid (by rw [hl]; simp)
            have hbc : blk c < blk t := blk_kid (by rw [hl]; simp)
            clear hl hlen hk0 hk1 hq3
            cases hq4 : okF f 0 a
            · rw [hq4] at HR
              have r00 := (hal1.cell (p := ⟨g, off, none⟩) (by show g < _; omega)).trans c00
              have d00 := r00
              rw [Hw1.out] at r00
              have r01 := (hal1.cell (p := ⟨g, off + 1, none⟩) (by show g < _; omega)).trans c01
              have d01 := r01
              rw [Hw1.out] at r01
              have r02 := (hal1.cell (p := ⟨g, off + 2, none⟩) (by show g < _; omega)).trans c02
              have d02 := r02
              rw [Hw1.out] at r02
              have r03 := (hal1.cell (p := ⟨g, off + 3, none⟩) (by show g < _; omega)).trans c03
              have d03 := r03
              rw [Hw1.out] at r03
              have r04 := (hal1.cell (p := ⟨g, off + 4, none⟩) (by show g < _; omega)).trans c04
              have d04 := r04
              rw [Hw1.out] at r04
              have r10 := (hal1.cell (p := ⟨g, off + 5, none⟩) (by show g < _; omega)).trans c10
              have d10 := r10
              rw [Hw1.out] at r10
              have r11 := (hal1.cell (p := ⟨g, off + 5 + 1, none⟩) (by show g < _; omega)).trans c11
              have d11 := r11
              rw [Hw1.out] at r11
              have r12 := (hal1.cell (p := ⟨g, off + 5 + 2, none⟩) (by show g < _; omega)).trans c12
              have d12 := r12
              rw [Hw1.out] at r12
              have r13 := (hal1.cell (p := ⟨g, off + 5 + 3, none⟩) (by show g < _; omega)).trans c13
              have d13 := r13
              rw [Hw1.out] at r13
              have r14 := (hal1.cell (p := ⟨g, off + 5 + 4, none⟩) (by show g < _; omega)).trans c14
              have d14 := r14
              rw [Hw1.out] at r14
              go_enter Try.func10, Try.ntmps10
              go_wp2_with fail
              rw [← Hw1.out]
              clear Hw1
              have cc := rNames_any n w1 t.names _ (hN.keep (hal1.mono hn)) (Nat.le_trans hn hal1.size) hnl (fun x hx => by have := blk_names hx; omega)
              rw [hq1] at cc
              refine cc.mono ?_
              rintro e w2 ⟨rfl, hb2⟩
              clear cc
              have hal2 := chain hal1 hb2
              have hB2 := hB1.blw hb2
              clear x0 x1 x2 x3 x4
              obtain ⟨x0, x1, x2, x3, x4⟩ := hB2.cells
              have d00 := (hal2.cell (p := ⟨g, off, none⟩) (by show g < _; omega)).trans c00
              have d01 := (hal2.cell (p := ⟨g, off + 1, none⟩) (by show g < _; omega)).trans c01
              have d02 := (hal2.cell (p := ⟨g, off + 2, none⟩) (by show g < _; omega)).trans c02
              have d03 := (hal2.cell (p := ⟨g, off + 3, none⟩) (by show g < _; omega)).trans c03
              have d04 := (hal2.cell (p := ⟨g, off + 4, none⟩) (by show g < _; omega)).trans c04
              have d10 := (hal2.cell (p := ⟨g, off + 5, none⟩) (by show g < _; omega)).trans c10
              have d11 := (hal2.cell (p := ⟨g, off + 5 + 1, none⟩) (by show g < _; omega)).trans c11
              have d12 := (hal2.cell (p := ⟨g, off + 5 + 2, none⟩) (by show g < _; omega)).trans c12
              have d13 := (hal2.cell (p := ⟨g, off + 5 + 3, none⟩) (by show g < _; omega)).trans c13
              have d14 := (hal2.cell (p := ⟨g, off + 5 + 4, none⟩) (by show g < _; omega)).trans c14
              go_wp2_with fail
              have cc := (IH f (Nat.le_refl _)) n a _ w2 (hxx0.keep (hal2.mono hn)) (Nat.le_trans hn hal2.size) (by omega) (by omega)
              rw [hq4] at cc
              refine cc.mono ?_
              rintro e w3 ⟨rfl, hb3⟩
              clear cc
              have hal3 := chain hal2 hb3
              have hB3 := hB2.blw hb3
              clear x0 x1 x2 x3 x4
              obtain ⟨x0, x1, x2, x3, x4⟩ := hB3.cells
              have d00 := (hal3.cell (p := ⟨g, off, none⟩) (by show g < _; omega)).trans c00
              have d01 := (hal3.cell (p := ⟨g, off + 1, none⟩) (by show g < _; omega)).trans c01
              have d02 := (hal3.cell (p := ⟨g, off + 2, none⟩) (by show g < _; omega)).trans c02
              have d03 := (hal3.cell (p := ⟨g, off + 3, none⟩) (by show g < _; omega)).trans c03
              have d04 := (hal3.cell (p := ⟨g, off + 4, none⟩) (by show g < _; omega)).trans c04
              have d10 := (hal3.cell (p := ⟨g, off + 5, none⟩) (by show g < _; omega)).trans c10
              have d11 := (hal3.cell (p := ⟨g, off + 5 + 1, none⟩) (by show g < _; omega)).trans c11
              have d12 := (hal3.cell (p := ⟨g, off + 5 + 2, none⟩) (by show g < _; omega)).trans c12
              have d13 := (hal3.cell (p := ⟨g, off + 5 + 3, none⟩) (by show g < _; omega)).trans c13
              have d14 := (hal3.cell (p := ⟨g, off + 5 + 4, none⟩) (by show g < _; omega)).trans c14
              go_wp2_with fail
              go_ret
              exact ⟨ret_bool (by have h9 := HR.out; first | (simpa using h9) | (simp_all)), hal3⟩
            · rw [hq4] at HR
              generalize hz : okF f 0 c = z at *
              have r00 := (hal1.cell (p := ⟨g, off, none⟩) (by show g < _; omega)).trans c00
              have d00 := r00
              rw [Hw1.out] at r00
              have r01 := (hal1.cell (p := ⟨g, off + 1, none⟩) (by show g < _; omega)).trans c01
              have d01 := r01
              rw [Hw1.out] at r01
              have r02 := (hal1.cell (p := ⟨g, off + 2, none⟩) (by show g < _; omega)).trans c02
              have d02 := r02
              rw [Hw1.out] at r02
              have r03 := (hal1.cell (p := ⟨g, off + 3, none⟩) (by show g < _; omega)).trans c03
              have d03 := r03
              rw [Hw1.out] at r03
              have r04 := (hal1.cell (p := ⟨g, off + 4, none⟩) (by show g < _; omega)).trans c04
              have d04 := r04
              rw [Hw1.out] at r04
              have r10 := (hal1.cell (p := ⟨g, off + 5, none⟩) (by show g < _; omega)).trans c10
              have d10 := r10
              rw [Hw1.out] at r10
              have r11 := (hal1.cell (p := ⟨g, off + 5 + 1, none⟩) (by show g < _; omega)).trans c11
              have d11 := r11
              rw [Hw1.out] at r11
              have r12 := (hal1.cell (p := ⟨g, off + 5 + 2, none⟩) (by show g < _; omega)).trans c12
              have d12 := r12
              rw [Hw1.out] at r12
              have r13 := (hal1.cell (p := ⟨g, off + 5 + 3, none⟩) (by show g < _; omega)).trans c13
              have d13 := r13
              rw [Hw1.out] at r13
              have r14 := (hal1.cell (p := ⟨g, off + 5 + 4, none⟩) (by show g < _; omega)).trans c14
              have d14 := r14
              rw [Hw1.out] at r14
              go_enter Try.func10, Try.ntmps10
              go_wp2_with fail
              rw [← Hw1.out]
              clear Hw1
              have cc := rNames_any n w1 t.names _ (hN.keep (hal1.mono hn)) (Nat.le_trans hn hal1.size) hnl (fun x hx => by have := blk_names hx; omega)
              rw [hq1] at cc
              refine cc.mono ?_
              rintro e w2 ⟨rfl, hb2⟩
              clear cc
              have hal2 := chain hal1 hb2
              have hB2 := hB1.blw hb2
              clear x0 x1 x2 x3 x4
              obtain ⟨x0, x1, x2, x3, x4⟩ := hB2.cells
              have d00 := (hal2.cell (p := ⟨g, off, none⟩) (by show g < _; omega)).trans c00
              have d01 := (hal2.cell (p := ⟨g, off + 1, none⟩) (by show g < _; omega)).trans c01
              have d02 := (hal2.cell (p := ⟨g, off + 2, none⟩) (by show g < _; omega)).trans c02
              have d03 := (hal2.cell (p := ⟨g, off + 3, none⟩) (by show g < _; omega)).trans c03
              have d04 := (hal2.cell (p := ⟨g, off + 4, none⟩) (by show g < _; omega)).trans c04
              have d10 := (hal2.cell (p := ⟨g, off + 5, none⟩) (by show g < _; omega)).trans c10
              have d11 := (hal2.cell (p := ⟨g, off + 5 + 1, none⟩) (by show g < _; omega)).trans c11
              have d12 := (hal2.cell (p := ⟨g, off + 5 + 2, none⟩) (by show g < _; omega)).trans c12
              have d13 := (hal2.cell (p := ⟨g, off + 5 + 3, none⟩) (by show g < _; omega)).trans c13
              have d14 := (hal2.cell (p := ⟨g, off + 5 + 4, none⟩) (by show g < _; omega)).trans c14
              go_wp2_with fail
              have cc := (IH f (Nat.le_refl _)) n a _ w2 (hxx0.keep (hal2.mono hn)) (Nat.le_trans hn hal2.size) (by omega) (by omega)
              rw [hq4] at cc
              refine cc.mono ?_
              rintro e w3 ⟨rfl, hb3⟩
              clear cc
              have hal3 := chain hal2 hb3
              have hB3 := hB2.blw hb3
              clear x0 x1 x2 x3 x4
              obtain ⟨x0, x1, x2, x3, x4⟩ := hB3.cells
              have d00 := (hal3.cell (p := ⟨g, off, none⟩) (by show g < _; omega)).trans c00
              have d01 := (hal3.cell (p := ⟨g, off + 1, none⟩) (by show g < _; omega)).trans c01
              have d02 := (hal3.cell (p := ⟨g, off + 2, none⟩) (by show g < _; omega)).trans c02
              have d03 := (hal3.cell (p := ⟨g, off + 3, none⟩) (by show g < _; omega)).trans c03
              have d04 := (hal3.cell (p := ⟨g, off + 4, none⟩) (by show g < _; omega)).trans c04
              have d10 := (hal3.cell (p := ⟨g, off + 5, none⟩) (by show g < _; omega)).trans c10
              have d11 := (hal3.cell (p := ⟨g, off + 5 + 1, none⟩) (by show g < _; omega)).trans c11
              have d12 := (hal3.cell (p := ⟨g, off + 5 + 2, none⟩) (by show g < _; omega)).trans c12
              have d13 := (hal3.cell (p := ⟨g, off + 5 + 3, none⟩) (by show g < _; omega)).trans c13
              have d14 := (hal3.cell (p := ⟨g, off + 5 + 4, none⟩) (by show g < _; omega)).trans c14
              go_wp2_with fail
              have cc := (IH f (Nat.le_refl _)) n c _ w3 (hxx1.keep (hal3.mono hn)) (Nat.le_trans hn hal3.size) (by omega) (by omega)
              rw [hz] at cc
              refine cc.mono ?_
              rintro e w4 ⟨rfl, hb4⟩
              clear cc
              have hal4 := chain hal3 hb4
              have hB4 := hB3.blw hb4
              clear x0 x1 x2 x3 x4
              obtain ⟨x0, x1, x2, x3, x4⟩ := hB4.cells
              have d00 := (hal4.cell (p := ⟨g, off, none⟩) (by show g < _; omega)).trans c00
              have d01 := (hal4.cell (p := ⟨g, off + 1, none⟩) (by show g < _; omega)).trans c01
              have d02 := (hal4.cell (p := ⟨g, off + 2, none⟩) (by show g < _; omega)).trans c02
              have d03 := (hal4.cell (p := ⟨g, off + 3, none⟩) (by show g < _; omega)).trans c03
              have d04 := (hal4.cell (p := ⟨g, off + 4, none⟩) (by show g < _; omega)).trans c04
              have d10 := (hal4.cell (p := ⟨g, off + 5, none⟩) (by show g < _; omega)).trans c10
              have d11 := (hal4.cell (p := ⟨g, off + 5 + 1, none⟩) (by show g < _; omega)).trans c11
              have d12 := (hal4.cell (p := ⟨g, off + 5 + 2, none⟩) (by show g < _; omega)).trans c12
              have d13 := (hal4.cell (p := ⟨g, off + 5 + 3, none⟩) (by show g < _; omega)).trans c13
              have d14 := (hal4.cell (p := ⟨g, off + 5 + 4, none⟩) (by show g < _; omega)).trans c14
              go_wp2_with fail
              go_ret
              exact ⟨ret_bool (by have h9 := HR.out; first | (simpa using h9) | (simp_all)), hal4⟩
  by_cases hk9 : t.kind = 9
  · have HR0 : (decide (t.name = []) && (t.names.all nameB && (decide (t.names = []) && (decide (t.kids.length = 2) && (okF f 0 (kd t 0) && okF f 0 (kd t 1)))))) = r := by
      rw [← hr]; unfold termB
      rw [if_neg (by omega), if_neg (by omega), if_neg (by omega), if_pos (by omega)]
      try rw [are1_eq]
      try rw [are2_eq]
      unfold namelessB
      by_cases hnm : t.names = [] <;> cases decide (t.name = []) <;> simp [hnm]
    have HR : Hid (_ = _) := HR0
    clear HR0
    have k1 : (t.kind == 1) = false := by rw [hk9]; rfl
    have k2 : (t.kind == 2) = false := by rw [hk9]; rfl
    have k3 : (t.kind == 3) = false := by rw [hk9]; rfl
    have k4 : (t.kind == 4) = false := by rw [hk9]; rfl
    have k5 : (t.kind == 5) = false := by rw [hk9]; rfl
    have k6 : (t.kind == 6) = false := by rw [hk9]; rfl
    have k8 : (t.kind == 8) = false := by rw [hk9]; rfl
    have k9 : (t.kind == 9) = true := by rw [hk9]; rfl
    have k7 : (t.kind == 7) = false := by rw [hk9]; rfl
    have k10 : (t.kind == 10) = false := by rw [hk9]; rfl
    clear hk9 hr h
    cases hq0 : decide (t.name = [])
    · rw [hq0] at HR e1
      clear hq0
      go_enter Try.func10, Try.ntmps10
      go_wp2_with fail
      rw [← Hw1.out]
      clear Hw1
      go_ret
      exact ⟨ret_bool (by have h9 := HR.out; first | (simpa using h9) | (simp_all)), hal1⟩
    · rw [hq0] at HR e1
      clear hq0
      cases hq1 : t.names.all nameB
      · rw [hq1] at HR
        go_enter Try.func10, Try.ntmps10
        go_wp2_with fail
        rw [← Hw1.out]
        clear Hw1
        have cc := rNames_any n w1 t.names _ (hN.keep (hal1.mono hn)) (Nat.le_trans hn hal1.size) hnl (fun x hx => by have := blk_names hx; omega)
        rw [hq1] at cc
        refine cc.mono ?_
        rintro e w2 ⟨rfl, hb2⟩
        clear cc
        have hal2 := chain hal1 hb2
        have hB2 := hB1.blw hb2
        clear x0 x1 x2 x3 x4
        obtain ⟨x0, x1, x2, x3, x4⟩ := hB2.cells
        go_wp2_with fail
        go_ret
        exact ⟨ret_bool (by have h9 := HR.out; first | (simpa using h9) | (simp_all)), hal2⟩
      · rw [hq1] at HR
        cases hq2 : decide (t.names = [])
        · rw [hq2] at HR e2
          clear hq2
          go_enter Try.func10, Try.ntmps10
          go_wp2_with fail
          rw [← Hw1.out]
          clear Hw1
          have cc := rNames_any n w1 t.names _ (hN.keep (hal1.mono hn)) (Nat.le_trans hn hal1.size) hnl (fun x hx => by have := blk_names hx; omega)
          rw [hq1] at cc
          refine cc.mono ?_
          rintro e w2 ⟨rfl, hb2⟩
          clear cc
          have hal2 := chain hal1 hb2
          have hB2 := hB1.blw hb2
          clear x0 x1 x2 x3 x4
          obtain ⟨x0, x1, x2, x3, x4⟩ := hB2.cells
          go_wp2_with fail
          go_ret
          exact ⟨ret_bool (by have h9 := HR.out; first | (simpa using h9) | (simp_all)), hal2⟩
        · rw [hq2] at HR e2
          clear hq2
          cases hq3 : decide (t.kids.length = 2)
          · rw [hq3] at HR el2
            clear hq3
            go_enter Try.func10, Try.ntmps10
            go_wp2_with fail
            rw [← Hw1.out]
            clear Hw1
            have cc := rNames_any n w1 t.names _ (hN.keep (hal1.mono hn)) (Nat.le_trans hn hal1.size) hnl (fun x hx => by have := blk_names hx; omega)
            rw [hq1] at cc
            refine cc.mono ?_
            rintro e w2 ⟨rfl, hb2⟩
            clear cc
            have hal2 := chain hal1 hb2
            have hB2 := hB1.blw hb2
            clear x0 x1 x2 x3 x4
            obtain ⟨x0, x1, x2, x3, x4⟩ := hB2.cells
            go_wp2_with fail
            go_ret
            exact ⟨ret_bool (by have h9 := HR.out; first | (simpa using h9) | (simp_all)), hal2⟩
          · rw [hq3] at HR el2
            have hlen := of_decide_eq_true hq3
            obtain ⟨a, c, hl⟩ : ∃ a c, t.kids = [a, c] := len_two hlen
            have hk0 : kd t 0 = a := by rw [kd_kids hl]; rfl
            rw [hk0] at HR
            have hk1 : kd t 1 = c := by rw [kd_kids hl]; rfl
            rw [hk1] at HR
            obtain ⟨g, off, ka0, kc0, na0, nc0, rfl, hg, hxx0, c00, c01, c02, c03, c04⟩ := hK.at (j := 0) (x := a) (by rw [hl]; rfl)
            obtain ⟨g', off', ka1, kc1, na1, nc1, he, _, hxx1, c10, c11, c12, c13, c14⟩ := hK.at (j := 1) (x := c) (by rw [hl]; rfl)
            cases he
            simp only [Nat.zero_mul, Nat.one_mul, Nat.add_zero] at c00 c01 c02 c03 c04 c10 c11 c12 c13 c14
            have hp0 : 0 < t.kids.length := by omega
            have hp1 : 1 < t.kids.length := by omega
            have hba : blk a < blk t := blk_kid (by rw [hl]; simp)
            have hbc : blk c < blk t := blk_kid (by rw [hl]; simp)
            clear hl hlen hk0 hk1 hq3
            cases hq4 : okF f 0 a
            · rw [hq4] at HR
              have r00 := (hal1.cell (p := ⟨g, off, none⟩) (by show g < _; omega)).trans c00
              have d00 := r00
              rw [Hw1.out] at r00
              have r01 := (hal1.cell (p := ⟨g, off + 1, none⟩) (by show g < _; omega)).trans c01
              have d01 := r01
              rw [Hw1.out] at r01
              have r02 := (hal1.cell (p := ⟨g, off + 2, none⟩) (by show g < _; omega)).trans c02
              have d02 := r02
              rw [Hw1.out] at r02
              have r03 := (hal1.cell (p := ⟨g, off + 3, none⟩) (by show g < _; omega)).trans c03
              have d03 := r03
              rw [Hw1.out] at r03
              have r04 := (hal1.cell (p := ⟨g, off + 4, none⟩) (by show g < _; omega)).trans c04
              have d04 := r04
              rw [Hw1.out] at r04
              have r10 := (hal1.cell (p := ⟨g, off + 5, none⟩) (by show g < _; omega)).trans c10
              have d10 := r10
              rw [Hw1.out] at r10
              have r11 := (hal1.cell (p := ⟨g, off + 5 + 1, none⟩) (by show g < _; omega)).trans c11
              have d11 := r11
              rw [Hw1.out] at r11
              have r12 := (hal1.cell (p := ⟨g, off + 5 + 2, none⟩) (by show g < _; omega)).trans c12
              have d12 := r12
              rw [Hw1.out] at r12
              have r13 := (hal1.cell (p := ⟨g, off + 5 + 3, none⟩) (by show g < _; omega)).trans c13
              have d13 := r13
              rw [Hw1.out] at r13
              have r14 := (hal1.cell (p := ⟨g, off + 5 + 4, none⟩) (by show g < _; omega)).trans c14
              have d14 := r14
              rw [Hw1.out] at r14
              go_enter Try.func10, Try.ntmps10
              go_wp2_with fail
              rw [← Hw1.out]
              clear Hw1
              have cc := rNames_any n w1 t.names _ (hN.keep (hal1.mono hn)) (Nat.le_trans hn hal1.size) hnl (fun x hx => by have := blk_names hx; omega)
              rw [hq1] at cc
              refine cc.mono ?_
              rintro e w2 ⟨rfl, hb2⟩
              clear cc
              have hal2 := chain hal1 hb2
              have hB2 := hB1.blw hb2
              clear x0 x1 x2 x3 x4
              obtain ⟨x0, x1, x2, x3, x4⟩ := hB2.cells
              have d00 := (hal2.cell (p := ⟨g, off, none⟩) (by show g < _; omega)).trans c00
              have d01 := (hal2.cell (p := ⟨g, off + 1, none⟩) (by show g < _; omega)).trans c01
              have d02 := (hal2.cell (p := ⟨g, off + 2, none⟩) (by show g < _; omega)).trans c02
              have d03 := (hal2.cell (p := ⟨g, off + 3, none⟩) (by show g < _; omega)).trans c03
              have d04 := (hal2.cell (p := ⟨g, off + 4, none⟩) (by show g < _; omega)).trans c04
              have d10 := (hal2.cell (p := ⟨g, off + 5, none⟩) (by show g < _; omega)).trans c10
              have d11 := (hal2.cell (p := ⟨g, off + 5 + 1, none⟩) (by show g < _; omega)).trans c11
              have d12 := (hal2.cell (p := ⟨g, off + 5 + 2, none⟩) (by show g < _; omega)).trans c12
              have d13 := (hal2.cell (p := ⟨g, off + 5 + 3, none⟩) (by show g < _; omega)).trans c13
              have d14 := (hal2.cell (p := ⟨g, off + 5 + 4, none⟩) (by show g < _; omega)).trans c14
              go_wp2_with fail
              have cc := (IH f (Nat.le_refl _)) n a _ w2 (hxx0.keep (hal2.mono hn)) (Nat.le_trans hn hal2.size) (by omega) (by omega)
              rw [hq4] at cc
              refine cc.mono ?_
              rintro e w3 ⟨rfl, hb3⟩
              clear cc
              have hal3 := chain hal2 hb3
              have hB3 := hB2.blw hb3
              clear x0 x1 x2 x3 x4
              obtain ⟨x0, x1, x2, x3, x4⟩ := hB3.cells
              have d00 := (hal3.cell (p := ⟨g, off, none⟩) (by show g < _; omega)).trans c00
              have d01 := (hal3.cell (p := ⟨g, off + 1, none⟩) (by show g < _; omega)).trans c01
              have d02 := (hal3.cell (p := ⟨g, off + 2, none⟩) (by show g < _; omega)).trans c02
              have d03 := (hal3.cell (p := ⟨g, off + 3, none⟩) (by show g < _; omega)).trans c03
              have d04 := (hal3.cell (p := ⟨g, off + 4, none⟩) (by show g < _; omega)).trans c04
              have d10 := (hal3.cell (p := ⟨g, off + 5, none⟩) (by show g < _; omega)).trans c10
              have d11 := (hal3.cell (p := ⟨g, off + 5 + 1, none⟩) (by show g < _; omega)).trans c11
              have d12 := (hal3.cell (p := ⟨g, off + 5 + 2, none⟩) (by show g < _; omega)).trans c12
              have d13 := (hal3.cell (p := ⟨g, off + 5 + 3, none⟩) (by show g < _; omega)).trans c13
              have d14 := (hal3.cell (p := ⟨g, off + 5 + 4, none⟩) (by show g < _; omega)).trans c14
              go_wp2_with fail
              go_ret
              exact ⟨ret_bool (by have h9 := HR.out; first | (simpa using h9) | (simp_all)), hal3⟩
            · rw [hq4] at HR
              generalize hz : okF f 0 c = z at *
              have r00 := (hal1.cell (p := ⟨g, off, none⟩) (by show g < _; omega)).trans c00
              have d00 := r00
              rw [Hw1.out] at r00
              have r01 := (hal1.cell (p := ⟨g, off + 1, none⟩) (by show g < _; omega)).trans c01
              have d01 := r01
              rw [Hw1.out] at r01
              have r02 := (hal1.cell (p := ⟨g, off + 2, none⟩) (by show g < _; omega)).trans c02
              have d02 := r02
              rw [Hw1.out] at r02
              have r03 := (hal1.cell (p := ⟨g, off + 3, none⟩) (by show g < _; omega)).trans c03
              have d03 := r03
              rw [Hw1.out] at r03
              have r04 := (hal1.cell (p := ⟨g, off + 4, none⟩) (by show g < _; omega)).trans c04
              have d04 := r04
              rw [Hw1.out] at r04
              have r10 := (hal1.cell (p := ⟨g, off + 5, none⟩) (by show g < _; omega)).trans c10
              have d10 := r10
              rw [Hw1.out] at r10
              have r11 := (hal1.cell (p := ⟨g, off + 5 + 1, none⟩) (by show g < _; omega)).trans c11
              have d11 := r11
              rw [Hw1.out] at r11
              have r12 := (hal1.cell (p := ⟨g, off + 5 + 2, none⟩) (by show g < _; omega)).trans c12
              have d12 := r12
              rw [Hw1.out] at r12
              have r13 := (hal1.cell (p := ⟨g, off + 5 + 3, none⟩) (by show g < _; omega)).trans c13
              have d13 := r13
              rw [Hw1.out] at r13
              have r14 := (hal1.cell (p := ⟨g, off + 5 + 4, none⟩) (by show g < _; omega)).trans c14
              have d14 := r14
              rw [Hw1.out] at r14
              go_enter Try.func10, Try.ntmps10
              go_wp2_with fail
              rw [← Hw1.out]
              clear Hw1
              have cc := rNames_any n w1 t.names _ (hN.keep (hal1.mono hn)) (Nat.le_trans hn hal1.size) hnl (fun x hx => by have := blk_names hx; omega)
              rw [hq1] at cc
              refine cc.mono ?_
              rintro e w2 ⟨rfl, hb2⟩
              clear cc
              have hal2 := chain hal1 hb2
              have hB2 := hB1.blw hb2
              clear x0 x1 x2 x3 x4
              obtain ⟨x0, x1, x2, x3, x4⟩ := hB2.cells
              have d00 := (hal2.cell (p := ⟨g, off, none⟩) (by show g < _; omega)).trans c00
              have d01 := (hal2.cell (p := ⟨g, off + 1, none⟩) (by show g < _; omega)).trans c01
              have d02 := (hal2.cell (p := ⟨g, off + 2, none⟩) (by show g < _; omega)).trans c02
              have d03 := (hal2.cell (p := ⟨g, off + 3, none⟩) (by show g < _; omega)).trans c03
              have d04 := (hal2.cell (p := ⟨g, off + 4, none⟩) (by show g < _; omega)).trans c04
              have d10 := (hal2.cell (p := ⟨g, off + 5, none⟩) (by show g < _; omega)).trans c10
              have d11 := (hal2.cell (p := ⟨g, off + 5 + 1, none⟩) (by show g < _; omega)).trans c11
              have d12 := (hal2.cell (p := ⟨g, off + 5 + 2, none⟩) (by show g < _; omega)).trans c12
              have d13 := (hal2.cell (p := ⟨g, off + 5 + 3, none⟩) (by show g < _; omega)).trans c13
              have d14 := (hal2.cell (p := ⟨g, off + 5 + 4, none⟩) (by show g < _; omega)).trans c14
              go_wp2_with fail
              have cc := (IH f (Nat.le_refl _)) n a _ w2 (hxx0.keep (hal2.mono hn)) (Nat.le_trans hn hal2.size) (by omega) (by omega)
              rw [hq4] at cc
              refine cc.mono ?_
              rintro e w3 ⟨rfl, hb3⟩
              clear cc
              have hal3 := chain hal2 hb3
              have hB3 := hB2.blw hb3
              clear x0 x1 x2 x3 x4
              obtain ⟨x0, x1, x2, x3, x4⟩ := hB3.cells
              have d00 := (hal3.cell (p := ⟨g, off, none⟩) (by show g < _; omega)).trans c00
              have d01 := (hal3.cell (p := ⟨g, off + 1, none⟩) (by show g < _; omega)).trans c01
              have d02 := (hal3.cell (p := ⟨g, off + 2, none⟩) (by show g < _; omega)).trans c02
              have d03 := (hal3.cell (p := ⟨g, off + 3, none⟩) (by show g < _; omega)).trans c03
              have d04 := (hal3.cell (p := ⟨g, off + 4, none⟩) (by show g < _; omega)).trans c04
              have d10 := (hal3.cell (p := ⟨g, off + 5, none⟩) (by show g < _; omega)).trans c10
              have d11 := (hal3.cell (p := ⟨g, off + 5 + 1, none⟩) (by show g < _; omega)).trans c11
              have d12 := (hal3.cell (p := ⟨g, off + 5 + 2, none⟩) (by show g < _; omega)).trans c12
              have d13 := (hal3.cell (p := ⟨g, off + 5 + 3, none⟩) (by show g < _; omega)).trans c13
              have d14 := (hal3.cell (p := ⟨g, off + 5 + 4, none⟩) (by show g < _; omega)).trans c14
              go_wp2_with fail
              have cc := (IH f (Nat.le_refl _)) n c _ w3 (hxx1.keep (hal3.mono hn)) (Nat.le_trans hn hal3.size) (by omega) (by omega)
              rw [hz] at cc
              refine cc.mono ?_
              rintro e w4 ⟨rfl, hb4⟩
              clear cc
              have hal4 := chain hal3 hb4
              have hB4 := hB3.blw hb4
              clear x0 x1 x2 x3 x4
              obtain ⟨x0, x1, x2, x3, x4⟩ := hB4.cells
              have d00 := (hal4.cell (p := ⟨g, off, none⟩) (by show g < _; omega)).trans c00
              have d01 := (hal4.cell (p := ⟨g, off + 1, none⟩) (by show g < _; omega)).trans c01
              have d02 := (hal4.cell (p := ⟨g, off + 2, none⟩) (by show g < _; omega)).trans c02
              have d03 := (hal4.cell (p := ⟨g, off + 3, none⟩) (by show g < _; omega)).trans c03
              have d04 := (hal4.cell (p := ⟨g, off + 4, none⟩) (by show g < _; omega)).trans c04
              have d10 := (hal4.cell (p := ⟨g, off + 5, none⟩) (by show g < _; omega)).trans c10
              have d11 := (hal4.cell (p := ⟨g, off + 5 + 1, none⟩) (by show g < _; omega)).trans c11
              have d12 := (hal4.cell (p := ⟨g, off + 5 + 2, none⟩) (by show g < _; omega)).trans c12
              have d13 := (hal4.cell (p := ⟨g, off + 5 + 3, none⟩) (by show g < _; omega)).trans c13
              have d14 := (hal4.cell (p := ⟨g, off + 5 + 4, none⟩) (by show g < _; omega)).trans c14
              go_wp2_with fail
              go_ret
              exact ⟨ret_bool (by have h9 := HR.out; first | (simpa using h9) | (simp_all)), hal4⟩
  by_cases hk7 : t.kind = 7
  · have HR0 : (decide (t.name = []) && (t.names.all nameB && (decide (t.names = []) && (decide (t.kids.length = 2) && (okF f 0 (kd t 0) && okF f 1 (kd t 1)))))) = r := by
      rw [← hr]; unfold termB
      rw [if_neg (by omega), if_neg (by omega), if_neg (by omega), if_neg (by omega), if_pos (by omega)]
      try rw [are1_eq]
      try rw [are2_eq]
      unfold namelessB
      by_cases hnm : t.names = [] <;> cases decide (t.name = []) <;> simp [hnm]
    have HR : Hid (_ = _) := HR0
    clear HR0
    have k1 : (t.kind == 1) = false := by rw [hk7]; rfl
    have k2 : (t.kind == 2) = false := by rw [hk7]; rfl
    have k3 : (t.kind == 3) = false := by rw [hk7]; rfl
    have k4 : (t.kind == 4) = false := by rw [hk7]; rfl
    have k5 : (t.kind == 5) = false := by rw [hk7]; rfl
    have k6 : (t.kind == 6) = false := by rw [hk7]; rfl
    have k8 : (t.kind == 8) = false := by rw [hk7]; rfl
    have k9 : (t.kind == 9) = false := by rw [hk7]; rfl
    have k7 : (t.kind == 7) = true := by rw [hk7]; rfl
    have k10 : (t.kind == 10) = false := by rw [hk7]; rfl
    clear hk7 hr h
    cases hq0 : decide (t.name = [])
    · rw [hq0] at HR e1
      clear hq0
      go_enter Try.func10, Try.ntmps10
      go_wp2_with fail
      rw [← Hw1.out]
      clear Hw1
      go_ret
      exact ⟨ret_bool (by have h9 := HR.out; first | (simpa using h9) | (simp_all)), hal1⟩
    · rw [hq0] at HR e1
      clear hq0
      cases hq1 : t.names.all nameB
      · rw [hq1] at HR
        go_enter Try.func10, Try.ntmps10
        go_wp2_with fail
        rw [← Hw1.out]
        clear Hw1
        have cc := rNames_any n w1 t.names _ (hN.keep (hal1.mono hn)) (Nat.le_trans hn hal1.size) hnl (fun x hx => by have := blk_names hx; omega)
        rw [hq1] at cc
        refine cc.mono ?_
        rintro e w2 ⟨rfl, hb2⟩
        clear cc
        have hal2 := chain hal1 hb2
        have hB2 := hB1.blw hb2
        clear x0 x1 x2 x3 x4
        obtain ⟨x0, x1, x2, x3, x4⟩ := hB2.cells
        go_wp2_with fail
        go_ret
        exact ⟨ret_bool (by have h9 := HR.out; first | (simpa using h9) | (simp_all)), hal2⟩
      · rw [hq1] at HR
        cases hq2 : decide (t.names = [])
        · rw [hq2] at HR e2
          clear hq2
          go_enter Try.func10, Try.ntmps10
          go_wp2_with fail
          rw [← Hw1.out]
          clear Hw1
          have cc := rNames_any n w1 t.names _ (hN.keep (hal1.mono hn)) (Nat.le_trans hn hal1.size) hnl (fun x hx => by have := blk_names hx; omega)
          rw [hq1] at cc
          refine cc.mono ?_
          rintro e w2 ⟨rfl, hb2⟩
          clear cc
          have hal2 := chain hal1 hb2
          have hB2 := hB1.blw hb2
          clear x0 x1 x2 x3 x4
          obtain ⟨x0, x1, x2, x3, x4⟩ := hB2.cells
          go_wp2_with fail
          go_ret
          exact ⟨ret_bool (by have h9 := HR.out; first | (simpa using h9) | (simp_all)), hal2⟩
        · rw [hq2] at HR e2
          clear hq2
          cases hq3 : decide (t.kids.length = 2)
          · rw [hq3] at HR el2
            clear hq3
            go_enter Try.func10, Try.ntmps10
            go_wp2_with fail
            rw [← Hw1.out]
            clear Hw1
            have cc := rNames_any n w1 t.names _ (hN.keep (hal1.mono hn)) (Nat.le_trans hn hal1.size) hnl (fun x hx => by have := blk_names hx; omega)
            rw [hq1] at cc
            refine cc.mono ?_
            rintro e w2 ⟨rfl, hb2⟩
            clear cc
            have hal2 := chain hal1 hb2
            have hB2 := hB1.blw hb2
            clear x0 x1 x2 x3 x4
            obtain ⟨x0, x1, x2, x3, x4⟩ := hB2.cells
            go_wp2_with fail
            go_ret
            exact ⟨ret_bool (by have h9 := HR.out; first | (simpa using h9) | (simp_all)), hal2⟩
          · rw [hq3] at HR el2
            have hlen := of_decide_eq_true hq3
            obtain ⟨a, c, hl⟩ : ∃ a c, t.kids = [a, c] := len_two hlen
            have hk0 : kd t 0 = a := by rw [kd_kids hl]; rfl
            rw [hk0] at HR
            have hk1 : kd t 1 = c := by rw [kd_kids hl]; rfl
            rw [hk1] at HR
            obtain ⟨g, off, ka0, kc0, na0, nc0, rfl, hg, hxx0, c00, c01, c02, c03, c04⟩ := hK.at (j := 0) (x := a) (by rw [hl]; rfl)
            obtain ⟨g', off', ka1, kc1, na1, nc1, he, _, hxx1, c10, c11, c12, c13, c14⟩ := hK.at (j := 1) (x := c) (by rw [hl]; rfl)
            cases he
            simp only [Nat.zero_mul, Nat.one_mul, Nat.add_zero] at c00 c01 c02 c03 c04 c10 c11 c12 c13 c14
            have hp0 : 0 < t.kids.length := by omega
            have hp1 : 1 < t.kids.length := by omega
            have hba : blk a < blk t := blk_kid (by rw [hl]; simp)
            have hbc : blk c < blk t := blk_kid (by rw [hl]; simp)
            clear hl hlen hk0 hk1 hq3
            cases hq4 : okF f 0 a
            · rw [hq4] at HR
              have r00 := (hal1.cell (p := ⟨g, off, none⟩) (by show g < _; omega)).trans c00
              have d00 := r00
              rw [Hw1.out] at r00
              have r01 := (hal1.cell (p := ⟨g, off + 1, none⟩) (by show g < _; omega)).trans c01
              have d01 := r01
              rw [Hw1.out] at r01
              have r02 := (hal1.cell (p := ⟨g, off + 2, none⟩) (by show g < _; omega)).trans c02
              have d02 := r02
              rw [Hw1.out] at r02
              have r03 := (hal1.cell (p := ⟨g, off + 3, none⟩) (by show g < _; omega)).trans c03
              have d03 := r03
              rw [Hw1.out] at r03
              have r04 := (hal1.cell (p := ⟨g, off + 4, none⟩) (by show g < _; omega)).trans c04
              have d04 := r04
              rw [Hw1.out] at r04
              have r10 := (hal1.cell (p := ⟨g, off + 5, none⟩) (by show g < _; omega)).trans c10
              have d10 := r10
              rw [Hw1.out] at r10
              have r11 := (hal1.cell (p := ⟨g, off + 5 + 1, none⟩) (by show g < _; omega)).trans c11
              have d11 := r11
              rw [Hw1.out] at r11
              have r12 := (hal1.cell (p := ⟨g, off + 5 + 2, none⟩) (by show g < _; omega)).trans c12
              have d12 := r12
              rw [Hw1.out] at r12
              have r13 := (hal1.cell (p := ⟨g, off + 5 + 3, none⟩) (by show g < _; omega)).trans c13
              have d13 := r13
              rw [Hw1.out] at r13
              have r14 := (hal1.cell (p := ⟨g, off + 5 + 4, none⟩) (by show g < _; omega)).trans c14
              have d14 := r14
              rw [Hw1.out] at r14
              go_enter Try.func10, Try.ntmps10
              go_wp2_with fail
              rw [← Hw1.out]
              clear Hw1
              have cc := rNames_any n w1 t.names _ (hN.keep (hal1.mono hn)) (Nat.le_trans hn hal1.size) hnl (fun x hx => by have := blk_names hx; omega)
              rw [hq1] at cc
              refine cc.mono ?_
              rintro e w2 ⟨rfl, hb2⟩
              clear cc
              have hal2 := chain hal1 hb2
              have hB2 := hB1.blw hb2
              clear x0 x1 x2 x3 x4
              obtain ⟨x0, x1, x2, x3, x4⟩ := hB2.cells
              have d00 := (hal2.cell (p := ⟨g, off, none⟩) (by show g < _; omega)).trans c00
              have d01 := (hal2.cell (p := ⟨g, off + 1, none⟩) (by show g < _; omega)).trans c01
              have d02 := (hal2.cell (p := ⟨g, off + 2, none⟩) (by show g < _; omega)).trans c02
              have d03 := (hal2.cell (p := ⟨g, off + 3, none⟩) (by show g < _; omega)).trans c03
              have d04 := (hal2.cell (p := ⟨g, off + 4, none⟩) (by show g < _; omega)).trans c04
              have d10 := (hal2.cell (p := ⟨g, off + 5, none⟩) (by show g < _; omega)).trans c10
              have d11 := (hal2.cell (p := ⟨g, off + 5 + 1, none⟩) (by show g < _; omega)).trans c11
              have d12 := (hal2.cell (p := ⟨g, off + 5 + 2, none⟩) (by show g < _; omega)).trans c12
              have d13 := (hal2.cell (p := ⟨g, off + 5 + 3, none⟩) (by show g < _; omega)).trans c13
              have d14 := (hal2.cell (p := ⟨g, off + 5 + 4, none⟩) (by show g < _; omega)).trans c14
              go_wp2_with fail
              have cc := (IH f (Nat.le_refl _)) n a _ w2 (hxx0.keep (hal2.mono hn)) (Nat.le_trans hn hal2.size) (by omega) (by omega)
              rw [hq4] at cc
              refine cc.mono ?_
              rintro e w3 ⟨rfl, hb3⟩
              clear cc
              have hal3 := chain hal2 hb3
              have hB3 := hB2.blw hb3
              clear x0 x1 x2 x3 x4
              obtain ⟨x0, x1, x2, x3, x4⟩ := hB3.cells
              have d00 := (hal3.cell (p := ⟨g, off, none⟩) (by show g < _; omega)).trans c00
              have d01 := (hal3.cell (p := ⟨g, off + 1, none⟩) (by show g < _; omega)).trans c01
              have d02 := (hal3.cell (p := ⟨g, off + 2, none⟩) (by show g < _; omega)).trans c02
              have d03 := (hal3.cell (p := ⟨g, off + 3, none⟩) (by show g < _; omega)).trans c03
              have d04 := (hal3.cell (p := ⟨g, off + 4, none⟩) (by show g < _; omega)).trans c04
              have d10 := (hal3.cell (p := ⟨g, off + 5, none⟩) (by show g < _; omega)).trans c10
              have d11 := (hal3.cell (p := ⟨g, off + 5 + 1, none⟩) (by show g < _; omega)).trans c11
              have d12 := (hal3.cell (p := ⟨g, off + 5 + 2, none⟩) (by show g < _; omega)).trans c12
              have d13 := (hal3.cell (p := ⟨g, off + 5 + 3, none⟩) (by show g < _; omega)).trans c13
              have d14 := (hal3.cell (p := ⟨g, off + 5 + 4, none⟩) (by show g < _; omega)).trans c14
              go_wp2_with fail
              go_ret
              exact ⟨ret_bool (by have h9 := HR.out; first | (simpa using h9) | (simp_all)), hal3⟩
            · rw [hq4] at HR
              generalize hz : okF f 1 c = z at *
              have r00 := (hal1.cell (p := ⟨g, off, none⟩) (by show g < _; omega)).trans c00
              have d00 := r00
              rw [Hw1.out] at r00
              have r01 := (hal1.cell (p := ⟨g, off + 1, none⟩) (by show g < _; omega)).trans c01
              have d01 := r01
              rw [Hw1.out] at r01
              have r02 := (hal1.cell (p := ⟨g, off + 2, none⟩) (by show g < _; omega)).trans c02
              have d02 := r02
              rw [Hw1.out] at r02
              have r03 := (hal1.cell (p := ⟨g, off + 3, none⟩) (by show g < _; omega)).trans c03
              have d03 := r03
              rw [Hw1.out] at r03
              have r04 := (hal1.cell (p := ⟨g, off + 4, none⟩) (by show g < _; omega)).trans c04
              have d04 := r04
              rw [Hw1.out] at r04
              have r10 := (hal1.cell (p := ⟨g, off + 5, none⟩) (by show g < _; omega)).trans c10
              have d10 := r10
              rw [Hw1.out] at r10
              have r11 := (hal1.cell (p := ⟨g, off + 5 + 1, none⟩) (by show g < _; omega)).trans c11
              have d11 := r11
              rw [Hw1.out] at r11
              have r12 := (hal1.cell (p := ⟨g, off + 5 + 2, none⟩) (by show g < _; omega)).trans c12
              have d12 := r12
              rw [Hw1.out] at r12
              have r13 := (hal1.cell (p := ⟨g, off + 5 + 3, none⟩) (by show g < _; omega)).trans c13
              have d13 := r13
              rw [Hw1.out] at r13
              have r14 := (hal1.cell (p := ⟨g, off + 5 + 4, none⟩) (by show g < _; omega)).trans c14
              have d14 := r14
              rw [Hw1.out] at r14
              go_enter Try.func10, Try.ntmps10
              go_wp2_with fail
              rw [← Hw1.out]
              clear Hw1
              have cc := rNames_any n w1 t.names _ (hN.keep (hal1.mono hn)) (Nat.le_trans hn hal1.size) hnl (fun x hx => by have := blk_names hx; omega)
              rw [hq1] at cc
              refine cc.mono ?_
              rintro e w2 ⟨rfl, hb2⟩
              clear cc
              have hal2 := chain hal1 hb2
              have hB2 := hB1.blw hb2
              clear x0 x1 x2 x3 x4
              obtain ⟨x0, x1, x2, x3, x4⟩ := hB2.cells
              have d00 := (hal2.cell (p := ⟨g, off, none⟩) (by show g < _; omega)).trans c00
              have d01 := (hal2.cell (p := ⟨g, off + 1, none⟩) (by show g < _; omega)).trans c01
              have d02 := (hal2.cell (p := ⟨g, off + 2, none⟩) (by show g < _; omega)).trans c02
              have d03 := (hal2.cell (p := ⟨g, off + 3, none⟩) (by show g < _; omega)).trans c03
              have d04 := (hal2.cell (p := ⟨g, off + 4, none⟩) (by show g < _; omega)).trans c04
              have d10 := (hal2.cell (p := ⟨g, off + 5, none⟩) (by show g < _; omega)).trans c10
              have d11 := (hal2.cell (p := ⟨g, off + 5 + 1, none⟩) (by show g < _; omega)).trans c11
              have d12 := (hal2.cell (p := ⟨g, off + 5 + 2, none⟩) (by show g < _; omega)).trans c12
              have d13 := (hal2.cell (p := ⟨g, off + 5 + 3, none⟩) (by show g < _; omega)).trans c13
              have d14 := (hal2.cell (p := ⟨g, off + 5 + 4, none⟩) (by show g < _; omega)).trans c14
              go_wp2_with fail
              have cc := (IH f (Nat.le_refl _)) n a _ w2 (hxx0.keep (hal2.mono hn)) (Nat.le_trans hn hal2.size) (by omega) (by omega)
              rw [hq4] at cc
              refine cc.mono ?_
              rintro e w3 ⟨rfl, hb3⟩
              clear cc
              have hal3 := chain hal2 hb3
              have hB3 := hB2.blw hb3
              clear x0 x1 x2 x3 x4
              obtain ⟨x0, x1, x2, x3, x4⟩ := hB3.cells
              have d00 := (hal3.cell (p := ⟨g, off, none⟩) (by show g < _; omega)).trans c00
              have d01 := (hal3.cell (p := ⟨g, off + 1, none⟩) (by show g < _; omega)).trans c01
              have d02 := (hal3.cell (p := ⟨g, off + 2, none⟩) (by show g < _; omega)).trans c02
              have d03 := (hal3.cell (p := ⟨g, off + 3, none⟩) (by show g < _; omega)).trans c03
              have d04 := (hal3.cell (p := ⟨g, off + 4, none⟩) (by show g < _; omega)).trans c04
              have d10 := (hal3.cell (p := ⟨g, off + 5, none⟩) (by show g < _; omega)).trans c10
              have d11 := (hal3.cell (p := ⟨g, off + 5 + 1, none⟩) (by show g < _; omega)).trans c11
              have d12 := (hal3.cell (p := ⟨g, off + 5 + 2, none⟩) (by show g < _; omega)).trans c12
              have d13 := (hal3.cell (p := ⟨g, off + 5 + 3, none⟩) (by show g < _; omega)).trans c13
              have d14 := (hal3.cell (p := ⟨g, off + 5 + 4, none⟩) (by show g < _; omega)).trans c14
              go_wp2_with fail
              have cc := (rFormula_any f) n c _ w3 (hxx1.keep (hal3.mono hn)) (Nat.le_trans hn hal3.size) (by omega) (by omega)
              rw [hz] at cc
              refine cc.mono ?_
              rintro e w4 ⟨rfl, hb4⟩
              clear cc
              have hal4 := chain hal3 hb4
              have hB4 := hB3.blw hb4
              clear x0 x1 x2 x3 x4
              obtain ⟨x0, x1, x2, x3, x4⟩ := hB4.cells
              have d00 := (hal4.cell (p := ⟨g, off, none⟩) (by show g < _; omega)).trans c00
              have d01 := (hal4.cell (p := ⟨g, off + 1, none⟩) (by show g < _; omega)).trans c01
              have d02 := (hal4.cell (p := ⟨g, off + 2, none⟩) (by show g < _; omega)).trans c02
              have d03 := (hal4.cell (p := ⟨g, off + 3, none⟩) (by show g < _; omega)).trans c03
              have d04 := (hal4.cell (p := ⟨g, off + 4, none⟩) (by show g < _; omega)).trans c04
              have d10 := (hal4.cell (p := ⟨g, off + 5, none⟩) (by show g < _; omega)).trans c10
              have d11 := (hal4.cell (p := ⟨g, off + 5 + 1, none⟩) (by show g < _; omega)).trans c11
              have d12 := (hal4.cell (p := ⟨g, off + 5 + 2, none⟩) (by show g < _; omega)).trans c12
              have d13 := (hal4.cell (p := ⟨g, off + 5 + 3, none⟩) (by show g < _; omega)).trans c13
              have d14 := (hal4.cell (p := ⟨g, off + 5 + 4, none⟩) (by show g < _; omega)).trans c14
              go_wp2_with fail
              go_ret
              exact ⟨ret_bool (by have h9 := HR.out; first | (simpa using h9) | (simp_all)), hal4⟩
  by_cases hk10 : t.kind = 10
  · rw [← hr]
    exact rRight_box f IH n t _ w h hn hb hf hk10
  have HR : Hid (false = r) := by
    rw [← hr]; unfold termB
    rw [if_neg (by omega), if_neg (by omega), if_neg (by omega), if_neg (by omega), if_neg (by omega), if_neg (by omega)]; rfl
  have k1 : (t.kind == 1) = false := by simp; omega
  have k2 : (t.kind == 2) = false := by simp; omega
  have k3 : (t.kind == 3) = false := by simp; omega
  have k4 : (t.kind == 4) = false := by simp; omega
  have k5 : (t.kind == 5) = false := by simp; omega
  have k6 : (t.kind == 6) = false := by simp; omega
  have k8 : (t.kind == 8) = false := by simp; omega
  have k9 : (t.kind == 9) = false := by simp; omega
  have k7 : (t.kind == 7) = false := by simp; omega
  have k10 : (t.kind == 10) = false := by simp; omega
  clear hr h
  cases hq0 : decide (t.name = [])
  · rw [hq0] at e1
    clear hq0
    go_enter Try.func10, Try.ntmps10
    go_wp2_with fail
    rw [← Hw1.out]
    clear Hw1
    go_ret
    exact ⟨ret_bool (by have h9 := HR.out; first | (simpa using h9) | (simp_all)), hal1⟩
  · rw [hq0] at e1
    clear hq0
    cases hq1 : t.names.all nameB
    · skip
      go_enter Try.func10, Try.ntmps10
      go_wp2_with fail
      rw [← Hw1.out]
      clear Hw1
      have cc := rNames_any n w1 t.names _ (hN.keep (hal1.mono hn)) (Nat.le_trans hn hal1.size) hnl (fun x hx => by have := blk_names hx; omega)
      rw [hq1] at cc
      refine cc.mono ?_
      rintro e w2 ⟨rfl, hb2⟩
      clear cc
      have hal2 := chain hal1 hb2
      have hB2 := hB1.blw hb2
      clear x0 x1 x2 x3 x4
      obtain ⟨x0, x1, x2, x3, x4⟩ := hB2.cells
      go_wp2_with fail
      go_ret
      exact ⟨ret_bool (by have h9 := HR.out; first | (simpa using h9) | (simp_all)), hal2⟩
    · skip
      go_enter Try.func10, Try.ntmps10
      go_wp2_with fail
      rw [← Hw1.out]
      clear Hw1
      have cc := rNames_any n w1 t.names _ (hN.keep (hal1.mono hn)) (Nat.le_trans hn hal1.size) hnl (fun x hx => by have := blk_names hx; omega)
      rw [hq1] at cc
      refine cc.mono ?_
      rintro e w2 ⟨rfl, hb2⟩
      clear cc
      have hal2 := chain hal1 hb2
      have hB2 := hB1.blw hb2
      clear x0 x1 x2 x3 x4
      obtain ⟨x0, x1, x2, x3, x4⟩ := hB2.cells
      go_wp2_with fail
      go_ret
      exact ⟨ret_bool (by have h9 := HR.out; first | (simpa using h9) | (simp_all)), hal2⟩
theorem rRight_all : ∀ f m, m ≤ f → RRi m := by
  intro f
  induction f with
  | zero =>
    intro m hm n t v w _ _ hb
    have := blk_pos t
    omega
  | succ f ih =>
    intro m hm
    rcases Nat.lt_or_ge f m with h | h
    · obtain rfl : m = f + 1 := by omega
      exact rRight_step f ih
    · exact ih m h
theorem rRight_any (f : Nat) : RRi f := rRight_all f f (Nat.le_refl _)

end Go.Proofs.Ytpfnjeefhddikaa
