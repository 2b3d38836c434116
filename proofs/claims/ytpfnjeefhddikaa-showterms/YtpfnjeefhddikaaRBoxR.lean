/- Right, by the document's answer. -/
import Derived.Test.YtpfnjeefhddikaaRRight
namespace Go.Proofs.Ytpfnjeefhddikaa
open Go.RowKit
set_option linter.unusedVariables false
set_option linter.unusedSimpArgs false

theorem elemB_eq (ok : Nat → Sx → Bool) (y : Sx) : elemB ok y = (decide (y.kind = 11) && (decide (y.name = []) && (decide (y.names = []) && (areB ok y.kids [3] || areB ok y.kids [3, 0])))) := by
  unfold elemB namelessB
  rw [Bool.and_assoc]
theorem okF_elem {f : Nat} {y : Sx} (h : blk y ≤ f) : okF f 2 y = elemB (okF (f - 1)) y := by
  obtain ⟨k, rfl⟩ : ∃ k, f = k + 1 := ⟨f - 1, by have := blk_pos y; omega⟩
  rw [okF_s]; rfl
theorem kids_four (y : Sx) : y.kids = [] ∨ (∃ a, y.kids = [a]) ∨ (∃ a c, y.kids = [a, c]) ∨ 2 < y.kids.length := by
  match y.kids with
  | [] => exact .inl rfl
  | [a] => exact .inr (.inl ⟨a, rfl⟩)
  | [a, c] => exact .inr (.inr (.inl ⟨a, c, rfl⟩))
  | a :: b :: c :: l => exact .inr (.inr (.inr (by simp)))

set_option maxRecDepth 100000 in
set_option maxHeartbeats 4000000 in
theorem rRight_box (f : Nat) (IH : ∀ m, m ≤ f → RRi m) (n : Nat) (t : Sx) (v : Value) (w : World) (h : SxIn n w t v) (hn : n ≤ w.heap.size) (hb : blk t ≤ f + 1) (hf : f + 1 ≤ 65536) (hk10 : t.kind = 10) : Calls Try.prog 10 #[v] w fun e w' => e = .returned (.bool (termB (okF f) t)) ∧ Below w.heap.size w w' := by
  obtain ⟨ka, kc, na, nc, rfl, hN, hK⟩ := h.form
  have hkl : t.kids.length ≤ 1000000 := by have := blk_klen t; omega
  have hnl : t.names.length ≤ 1000000 := by have := blk_nlen t; omega
  obtain ⟨w1, hw1⟩ : ∃ w1, w1 = w.alloc (.cells #[.int .i64 t.kind, .string (bs t.name), .slice ka t.kids.length kc, .slice na t.names.length nc, .int .i64 t.at_] 25) := ⟨_, rfl⟩
  have hal1 : Below w.heap.size w w1 := by rw [hw1]; exact below_alloc _ _
  have hB1 : Bx w1 w.heap.size (.int .i64 t.kind) (.string (bs t.name)) (.slice ka t.kids.length kc) (.slice na t.names.length nc) (.int .i64 t.at_) := by rw [hw1]; exact bx_new _ _ _ _ _ _
  have Hw1 : Hid (_ = _) := hw1
  clear hw1
  obtain ⟨x0, x1, x2, x3, x4⟩ := hB1.cells
  have e1 := bs_nil t.name
  have e2 := len_nil t.names
  have e3 := len_nilS t.kids
  have el1 : ((t.kids.length : Int) == 1) = decide (t.kids.length = 1) := by rw [Bool.eq_iff_iff]; simp; omega
  have el2 : ((t.kids.length : Int) == 2) = decide (t.kids.length = 2) := by rw [Bool.eq_iff_iff]; simp; omega
  have ed0 := bs_beqS t.name [48]
  have ed1 := bs_beqS t.name [49]
  obtain ⟨r, hr⟩ : ∃ r, termB (okF f) t = r := ⟨_, rfl⟩
  rw [hr]
  have HR0 : (decide (t.name = []) && (t.names.all nameB && (decide (t.names = []) && t.kids.all (okF f 2)))) = r := by
    rw [← hr]; unfold termB
    rw [if_neg (by omega), if_neg (by omega), if_neg (by omega), if_neg (by omega), if_neg (by omega), if_pos (by omega)]
    unfold namelessB
    by_cases hnm : t.names = [] <;> cases decide (t.name = []) <;> simp [hnm]
  have HR : Hid (_ = _) := HR0
  clear HR0
  have k1 : (t.kind == 1) = false := by rw [hk10]; rfl
  have k2 : (t.kind == 2) = false := by rw [hk10]; rfl
  have k3 : (t.kind == 3) = false := by rw [hk10]; rfl
  have k4 : (t.kind == 4) = false := by rw [hk10]; rfl
  have k5 : (t.kind == 5) = false := by rw [hk10]; rfl
  have k6 : (t.kind == 6) = false := by rw [hk10]; rfl
  have k8 : (t.kind == 8) = false := by rw [hk10]; rfl
  have k9 : (t.kind == 9) = false := by rw [hk10]; rfl
  have k7 : (t.kind == 7) = false := by rw [hk10]; rfl
  have k10 : (t.kind == 10) = true := by rw [hk10]; rfl
  clear hk10 hr h
  cases hq0 : decide (t.name = [])
  · rw [hq0] at HR e1
    clear hq0
    go_enter Try.func10, Try.ntmps10
    go_wp2_with fail
    rw [← Hw1.out]
    clear Hw1
    go_ret
    exact ⟨ret_bool (by have h9 := HR.out; first | (simpa using h9) | (simp_all)), hal1⟩
  · rw [hq0] at HR e1
    clear hq0
    cases hq1 : t.names.all nameB
    · rw [hq1] at HR
      go_enter Try.func10, Try.ntmps10
      go_wp2_with fail
      rw [← Hw1.out]
      clear Hw1
      have cc := rNames_any n w1 t.names _ (hN.keep (hal1.mono hn)) (Nat.le_trans hn hal1.size) hnl (fun x hx => by have := blk_names hx; omega)
      rw [hq1] at cc
      refine cc.mono ?_
      rintro e w2 ⟨rfl, hb2⟩
      clear cc
      have hal2 := chain hal1 hb2
      have hB2 := hB1.blw hb2
      clear x0 x1 x2 x3 x4
      obtain ⟨x0, x1, x2, x3, x4⟩ := hB2.cells
      go_wp2_with fail
      go_ret
      exact ⟨ret_bool (by have h9 := HR.out; first | (simpa using h9) | (simp_all)), hal2⟩
    · rw [hq1] at HR
      have H0 : Hid ((decide (t.names = []) && (t.kids.drop 0).all (okF f 2)) = r) := (by have h9 := HR.out; simpa using h9 : (decide (t.names = []) && (t.kids.drop 0).all (okF f 2)) = r)
      clear HR
      have cc := rNames_any n w1 t.names _ (hN.keep (hal1.mono hn)) (Nat.le_trans hn hal1.size) hnl (fun x hx => by have := blk_names hx; omega)
      rw [hq1] at cc
      clear hq1
      obtain ⟨L, hL⟩ : ∃ L, L = t.kids.length := ⟨_, rfl⟩
      have HL : Hid (L = t.kids.length) := hL
      rw [← hL] at hB1 hkl Hw1 x2 ⊢
      clear hL e3 el1 el2 ed0 ed1
      have HK : Hid (KdP n w (SxIn n w) t.kids ka) := hK
      clear hK
      go_enter Try.func10, Try.ntmps10
      go_wp2_with fail
      rw [← Hw1.out]
      clear Hw1
      refine cc.mono ?_
      rintro e w2 ⟨rfl, hb2⟩
      clear cc x0 x1 x2 x3 x4
      have hal2 := chain hal1 hb2
      have hB2 := hB1.blw hb2
      obtain ⟨x0, x1, x2, x3, x4⟩ := hB2.cells
      go_wp2_with fail
      go_loopw [5] (fun i wr => ∃ k : Nat, k ≤ L ∧ i = .int .i64 k ∧ Hid ((decide (t.names = []) && (t.kids.drop k).all (okF f 2)) = r) ∧ Bx wr w.heap.size (.int .i64 t.kind) (.string (bs t.name)) (.slice ka L kc) (.slice na t.names.length nc) (.int .i64 t.at_) ∧ Below w.heap.size w wr) (fun i _ => L - (intOf i).toNat)
      case atStart => exact ⟨0, Nat.zero_le _, rfl, H0, hB2, hal2⟩
      case round =>
        obtain ⟨k, hk, rfl, HD, hBx, hBr⟩ := hrel
        clear H0 x0 x1 x2 x3 x4
        obtain ⟨x0, x1, x2, x3, x4⟩ := hBx.cells
        have hnr := Nat.le_trans hn hBr.size
        by_cases hlt : k < L
        · obtain ⟨y, hy⟩ := someS (l := t.kids) (k := k) (by rw [← HL.out]; exact hlt)
          obtain ⟨g, off, ka0, kc0, na0, nc0, rfl, hg, hxx, c0, c1, c2, c3, c4⟩ := (HK.out.all (hBr.mono hn)).at hy
          have hby : blk y < blk t := blk_kid (List.mem_of_getElem? hy)
          have HS0 : (decide (t.names = []) && (okF f 2 y && (t.kids.drop (k + 1)).all (okF f 2))) = r := by rw [← HD.out, all_drop _ hy]
          rw [okF_elem (by omega), elemB_eq] at HS0
          have hKy := hxx.parts
          obtain ⟨LY, hLY⟩ : ∃ LY, LY = y.kids.length := ⟨_, rfl⟩
          rw [← hLY] at hxx c2
          obtain ⟨MY, hMY⟩ : ∃ MY, MY = y.names.length := ⟨_, rfl⟩
          rw [← hMY] at hxx c3
          have HMY : Hid (MY = y.names.length) := hMY
          clear hMY
          clear HD hy
          have hal := below_alloc wr (.cells #[.int .i64 y.kind, .string (bs y.name), .slice ka0 LY kc0, .slice na0 MY nc0, .int .i64 y.at_] 25)
          have hbx := bx_new wr (.int .i64 y.kind) (.string (bs y.name)) (.slice ka0 LY kc0) (.slice na0 MY nc0) (.int .i64 y.at_)
          obtain ⟨wa, hwa⟩ : ∃ wa, wa = wr.alloc (.cells #[.int .i64 y.kind, .string (bs y.name), .slice ka0 LY kc0, .slice na0 MY nc0, .int .i64 y.at_] 25) := ⟨_, rfl⟩
          have ey := bs_nil y.name
          rw [← hwa] at hal hbx
          have Hwa : Hid (_ = _) := hwa
          obtain ⟨b0, b1, b2, b3, b4⟩ := hbx.cells
          clear hwa
          have HLY : Hid (LY = y.kids.length) := hLY
          clear hLY
          by_cases hq1 : y.kind = 11
          · have k11 : (y.kind != 11) = false := by rw [hq1]; rfl
            rw [decide_eq_true hq1] at HS0
            clear hq1
            cases hq2 : decide (y.name = [])
            · rw [hq2] at HS0 ey
              have HS : Hid (_ = _) := HS0
              clear hq2 HS0
              go_wp2_with fail
              go_ret
              exact ⟨ret_bool (by have h9 := HS.out; simpa using h9), (by rw [← Hwa.out]; exact (chain hBr hal))⟩
            · rw [hq2] at HS0 ey
              clear hq2
              by_cases hq3 : y.names = []
              · obtain rfl : MY = 0 := by rw [HMY.out, hq3]; rfl
                rw [decide_eq_true hq3] at HS0
                clear hq3 HMY
                rcases kids_four y with hky | ⟨a, hky⟩ | ⟨a, c, hky⟩ | hky
                · obtain rfl : LY = 0 := by rw [HLY.out, hky]; rfl
                  rw [hky] at HS0
                  simp only [areB, Bool.or_false, Bool.false_and, Bool.and_false] at HS0
                  have HS : Hid (_ = _) := HS0
                  clear HS0 hky HLY
                  go_wp2_with fail
                  go_ret
                  exact ⟨ret_bool (by have h9 := HS.out; simpa using h9), (by rw [← Hwa.out]; exact (chain hBr hal))⟩
                · obtain rfl : LY = 1 := by rw [HLY.out, hky]; rfl
                  rw [hky] at HS0
                  simp only [areB, Bool.and_true, Bool.and_false, Bool.or_false] at HS0
                  have HS : Hid (_ = _) := HS0
                  clear HS0 HLY
                  obtain ⟨gy, oy, ka1, kc1, na1, nc1, rfl, hgy, hya, e00, e01, e02, e03, e04⟩ := hKy.at (j := 0) (x := a) (by rw [hky]; rfl)
                  simp only [Nat.zero_mul, Nat.one_mul, Nat.add_zero] at e00 e01 e02 e03 e04
                  have hba : blk a < blk y := blk_kid (by rw [hky]; simp)
                  have q00 := (hal.cell (p := ⟨gy, oy, none⟩) (by show gy < _; omega)).trans e00
                  have p00 := q00
                  rw [Hwa.out] at p00
                  have q01 := (hal.cell (p := ⟨gy, oy + 1, none⟩) (by show gy < _; omega)).trans e01
                  have p01 := q01
                  rw [Hwa.out] at p01
                  have q02 := (hal.cell (p := ⟨gy, oy + 2, none⟩) (by show gy < _; omega)).trans e02
                  have p02 := q02
                  rw [Hwa.out] at p02
                  have q03 := (hal.cell (p := ⟨gy, oy + 3, none⟩) (by show gy < _; omega)).trans e03
                  have p03 := q03
                  rw [Hwa.out] at p03
                  have q04 := (hal.cell (p := ⟨gy, oy + 4, none⟩) (by show gy < _; omega)).trans e04
                  have p04 := q04
                  rw [Hwa.out] at p04
                  clear hky
                  cases hq5 : okF (f - 1) 3 a
                  · rw [hq5] at HS
                    go_wp2_with fail
                    rw [← Hwa.out]
                    have cc := rFace_any (f - 1) n a _ wa (hya.keep (hal.mono hnr)) (Nat.le_trans hnr hal.size) (by omega) (by omega)
                    rw [hq5] at cc
                    refine cc.mono ?_
                    rintro e v0 ⟨rfl, hv0⟩
                    clear cc
                    have hal0_ := chain hal hv0
                    have hbx0 := hbx.blw hv0
                    clear b0 b1 b2 b3 b4
                    obtain ⟨b0, b1, b2, b3, b4⟩ := hbx0.cells
                    have q00 := (hal0_.cell (p := ⟨gy, oy, none⟩) (by show gy < _; omega)).trans e00
                    have q01 := (hal0_.cell (p := ⟨gy, oy + 1, none⟩) (by show gy < _; omega)).trans e01
                    have q02 := (hal0_.cell (p := ⟨gy, oy + 2, none⟩) (by show gy < _; omega)).trans e02
                    have q03 := (hal0_.cell (p := ⟨gy, oy + 3, none⟩) (by show gy < _; omega)).trans e03
                    have q04 := (hal0_.cell (p := ⟨gy, oy + 4, none⟩) (by show gy < _; omega)).trans e04
                    go_wp2_with fail
                    go_ret
                    exact ⟨ret_bool (by have h9 := HS.out; simpa using h9), (chain hBr hal0_)⟩
                  · rw [hq5] at HS
                    go_wp2_with fail
                    rw [← Hwa.out]
                    have cc := rFace_any (f - 1) n a _ wa (hya.keep (hal.mono hnr)) (Nat.le_trans hnr hal.size) (by omega) (by omega)
                    rw [hq5] at cc
                    refine cc.mono ?_
                    rintro e v0 ⟨rfl, hv0⟩
                    clear cc
                    have hal0_ := chain hal hv0
                    have hbx0 := hbx.blw hv0
                    clear b0 b1 b2 b3 b4
                    obtain ⟨b0, b1, b2, b3, b4⟩ := hbx0.cells
                    have q00 := (hal0_.cell (p := ⟨gy, oy, none⟩) (by show gy < _; omega)).trans e00
                    have q01 := (hal0_.cell (p := ⟨gy, oy + 1, none⟩) (by show gy < _; omega)).trans e01
                    have q02 := (hal0_.cell (p := ⟨gy, oy + 2, none⟩) (by show gy < _; omega)).trans e02
                    have q03 := (hal0_.cell (p := ⟨gy, oy + 3, none⟩) (by show gy < _; omega)).trans e03
                    have q04 := (hal0_.cell (p := ⟨gy, oy + 4, none⟩) (by show gy < _; omega)).trans e04
                    go_wp2_with fail
                    go_roundw
                    case rel => exact ⟨k + 1, by omega, by go_num, (by have h9 := HS.out; simpa using h9 : (decide (t.names = []) && (t.kids.drop (k + 1)).all (okF f 2)) = r), hBx.blw hal0_, (chain hBr hal0_)⟩
                    case measure => simp [intOf]; omega
                · obtain rfl : LY = 2 := by rw [HLY.out, hky]; rfl
                  rw [hky] at HS0
                  simp only [areB, Bool.and_true, Bool.and_false, Bool.false_or] at HS0
                  have HS : Hid (_ = _) := HS0
                  clear HS0 HLY
                  obtain ⟨gy, oy, ka1, kc1, na1, nc1, rfl, hgy, hya, e00, e01, e02, e03, e04⟩ := hKy.at (j := 0) (x := a) (by rw [hky]; rfl)
                  obtain ⟨gy', oy', ka2, kc2, na2, nc2, hee, _, hyc, e10, e11, e12, e13, e14⟩ := hKy.at (j := 1) (x := c) (by rw [hky]; rfl)
                  cases hee
                  simp only [Nat.zero_mul, Nat.one_mul, Nat.add_zero] at e00 e01 e02 e03 e04 e10 e11 e12 e13 e14
                  have hba : blk a < blk y := blk_kid (by rw [hky]; simp)
                  have hbc : blk c < blk y := blk_kid (by rw [hky]; simp)
                  have q00 := (hal.cell (p := ⟨gy, oy, none⟩) (by show gy < _; omega)).trans e00
                  have p00 := q00
                  rw [Hwa.out] at p00
                  have q01 := (hal.cell (p := ⟨gy, oy + 1, none⟩) (by show gy < _; omega)).trans e01
                  have p01 := q01
                  rw [Hwa.out] at p01
                  have q02 := (hal.cell (p := ⟨gy, oy + 2, none⟩) (by show gy < _; omega)).trans e02
                  have p02 := q02
                  rw [Hwa.out] at p02
                  have q03 := (hal.cell (p := ⟨gy, oy + 3, none⟩) (by show gy < _; omega)).trans e03
                  have p03 := q03
                  rw [Hwa.out] at p03
                  have q04 := (hal.cell (p := ⟨gy, oy + 4, none⟩) (by show gy < _; omega)).trans e04
                  have p04 := q04
                  rw [Hwa.out] at p04
                  have q10 := (hal.cell (p := ⟨gy, oy + 5, none⟩) (by show gy < _; omega)).trans e10
                  have p10 := q10
                  rw [Hwa.out] at p10
                  have q11 := (hal.cell (p := ⟨gy, oy + 5 + 1, none⟩) (by show gy < _; omega)).trans e11
                  have p11 := q11
                  rw [Hwa.out] at p11
                  have q12 := (hal.cell (p := ⟨gy, oy + 5 + 2, none⟩) (by show gy < _; omega)).trans e12
                  have p12 := q12
                  rw [Hwa.out] at p12
                  have q13 := (hal.cell (p := ⟨gy, oy + 5 + 3, none⟩) (by show gy < _; omega)).trans e13
                  have p13 := q13
                  rw [Hwa.out] at p13
                  have q14 := (hal.cell (p := ⟨gy, oy + 5 + 4, none⟩) (by show gy < _; omega)).trans e14
                  have p14 := q14
                  rw [Hwa.out] at p14
                  clear hky
                  cases hq5 : okF (f - 1) 3 a
                  · rw [hq5] at HS
                    go_wp2_with fail
                    rw [← Hwa.out]
                    have cc := rFace_any (f - 1) n a _ wa (hya.keep (hal.mono hnr)) (Nat.le_trans hnr hal.size) (by omega) (by omega)
                    rw [hq5] at cc
                    refine cc.mono ?_
                    rintro e v0 ⟨rfl, hv0⟩
                    clear cc
                    have hal0_ := chain hal hv0
                    have hbx0 := hbx.blw hv0
                    clear b0 b1 b2 b3 b4
                    obtain ⟨b0, b1, b2, b3, b4⟩ := hbx0.cells
                    have q00 := (hal0_.cell (p := ⟨gy, oy, none⟩) (by show gy < _; omega)).trans e00
                    have q01 := (hal0_.cell (p := ⟨gy, oy + 1, none⟩) (by show gy < _; omega)).trans e01
                    have q02 := (hal0_.cell (p := ⟨gy, oy + 2, none⟩) (by show gy < _; omega)).trans e02
                    have q03 := (hal0_.cell (p := ⟨gy, oy + 3, none⟩) (by show gy < _; omega)).trans e03
                    have q04 := (hal0_.cell (p := ⟨gy, oy + 4, none⟩) (by show gy < _; omega)).trans e04
                    have q10 := (hal0_.cell (p := ⟨gy, oy + 5, none⟩) (by show gy < _; omega)).trans e10
                    have q11 := (hal0_.cell (p := ⟨gy, oy + 5 + 1, none⟩) (by show gy < _; omega)).trans e11
                    have q12 := (hal0_.cell (p := ⟨gy, oy + 5 + 2, none⟩) (by show gy < _; omega)).trans e12
                    have q13 := (hal0_.cell (p := ⟨gy, oy + 5 + 3, none⟩) (by show gy < _; omega)).trans e13
                    have q14 := (hal0_.cell (p := ⟨gy, oy + 5 + 4, none⟩) (by show gy < _; omega)).trans e14
                    go_wp2_with fail
                    go_ret
                    exact ⟨ret_bool (by have h9 := HS.out; simpa using h9), (chain hBr hal0_)⟩
                  · rw [hq5] at HS
                    cases hq6 : okF (f - 1) 0 c
                    · rw [hq6] at HS
                      go_wp2_with fail
                      rw [← Hwa.out]
                      have cc := rFace_any (f - 1) n a _ wa (hya.keep (hal.mono hnr)) (Nat.le_trans hnr hal.size) (by omega) (by omega)
                      rw [hq5] at cc
                      refine cc.mono ?_
                      rintro e v0 ⟨rfl, hv0⟩
                      clear cc
                      have hal0_ := chain hal hv0
                      have hbx0 := hbx.blw hv0
                      clear b0 b1 b2 b3 b4
                      obtain ⟨b0, b1, b2, b3, b4⟩ := hbx0.cells
                      have q00 := (hal0_.cell (p := ⟨gy, oy, none⟩) (by show gy < _; omega)).trans e00
                      have q01 := (hal0_.cell (p := ⟨gy, oy + 1, none⟩) (by show gy < _; omega)).trans e01
                      have q02 := (hal0_.cell (p := ⟨gy, oy + 2, none⟩) (by show gy < _; omega)).trans e02
                      have q03 := (hal0_.cell (p := ⟨gy, oy + 3, none⟩) (by show gy < _; omega)).trans e03
                      have q04 := (hal0_.cell (p := ⟨gy, oy + 4, none⟩) (by show gy < _; omega)).trans e04
                      have q10 := (hal0_.cell (p := ⟨gy, oy + 5, none⟩) (by show gy < _; omega)).trans e10
                      have q11 := (hal0_.cell (p := ⟨gy, oy + 5 + 1, none⟩) (by show gy < _; omega)).trans e11
                      have q12 := (hal0_.cell (p := ⟨gy, oy + 5 + 2, none⟩) (by show gy < _; omega)).trans e12
                      have q13 := (hal0_.cell (p := ⟨gy, oy + 5 + 3, none⟩) (by show gy < _; omega)).trans e13
                      have q14 := (hal0_.cell (p := ⟨gy, oy + 5 + 4, none⟩) (by show gy < _; omega)).trans e14
                      go_wp2_with fail
                      have cc := (IH (f - 1) (by omega)) n c _ v0 (hyc.keep (hal0_.mono hnr)) (Nat.le_trans hnr hal0_.size) (by omega) (by omega)
                      rw [hq6] at cc
                      refine cc.mono ?_
                      rintro e v1 ⟨rfl, hv1⟩
                      clear cc
                      have hal1_ := chain hal0_ hv1
                      have hbx1 := hbx0.blw hv1
                      clear b0 b1 b2 b3 b4
                      obtain ⟨b0, b1, b2, b3, b4⟩ := hbx1.cells
                      have q00 := (hal1_.cell (p := ⟨gy, oy, none⟩) (by show gy < _; omega)).trans e00
                      have q01 := (hal1_.cell (p := ⟨gy, oy + 1, none⟩) (by show gy < _; omega)).trans e01
                      have q02 := (hal1_.cell (p := ⟨gy, oy + 2, none⟩) (by show gy < _; omega)).trans e02
                      have q03 := (hal1_.cell (p := ⟨gy, oy + 3, none⟩) (by show gy < _; omega)).trans e03
                      have q04 := (hal1_.cell (p := ⟨gy, oy + 4, none⟩) (by show gy < _; omega)).trans e04
                      have q10 := (hal1_.cell (p := ⟨gy, oy + 5, none⟩) (by show gy < _; omega)).trans e10
                      have q11 := (hal1_.cell (p := ⟨gy, oy + 5 + 1, none⟩) (by show gy < _; omega)).trans e11
                      have q12 := (hal1_.cell (p := ⟨gy, oy + 5 + 2, none⟩) (by show gy < _; omega)).trans e12
                      have q13 := (hal1_.cell (p := ⟨gy, oy + 5 + 3, none⟩) (by show gy < _; omega)).trans e13
                      have q14 := (hal1_.cell (p := ⟨gy, oy + 5 + 4, none⟩) (by show gy < _; omega)).trans e14
                      go_wp2_with fail
                      go_ret
                      exact ⟨ret_bool (by have h9 := HS.out; simpa using h9), (chain hBr hal1_)⟩
                    · rw [hq6] at HS
                      go_wp2_with fail
                      rw [← Hwa.out]
                      have cc := rFace_any (f - 1) n a _ wa (hya.keep (hal.mono hnr)) (Nat.le_trans hnr hal.size) (by omega) (by omega)
                      rw [hq5] at cc
                      refine cc.mono ?_
                      rintro e v0 ⟨rfl, hv0⟩
                      clear cc
                      have hal0_ := chain hal hv0
                      have hbx0 := hbx.blw hv0
                      clear b0 b1 b2 b3 b4
                      obtain ⟨b0, b1, b2, b3, b4⟩ := hbx0.cells
                      have q00 := (hal0_.cell (p := ⟨gy, oy, none⟩) (by show gy < _; omega)).trans e00
                      have q01 := (hal0_.cell (p := ⟨gy, oy + 1, none⟩) (by show gy < _; omega)).trans e01
                      have q02 := (hal0_.cell (p := ⟨gy, oy + 2, none⟩) (by show gy < _; omega)).trans e02
                      have q03 := (hal0_.cell (p := ⟨gy, oy + 3, none⟩) (by show gy < _; omega)).trans e03
                      have q04 := (hal0_.cell (p := ⟨gy, oy + 4, none⟩) (by show gy < _; omega)).trans e04
                      have q10 := (hal0_.cell (p := ⟨gy, oy + 5, none⟩) (by show gy < _; omega)).trans e10
                      have q11 := (hal0_.cell (p := ⟨gy, oy + 5 + 1, none⟩) (by show gy < _; omega)).trans e11
                      have q12 := (hal0_.cell (p := ⟨gy, oy + 5 + 2, none⟩) (by show gy < _; omega)).trans e12
                      have q13 := (hal0_.cell (p := ⟨gy, oy + 5 + 3, none⟩) (by show gy < _; omega)).trans e13
                      have q14 := (hal0_.cell (p := ⟨gy, oy + 5 + 4, none⟩) (by show gy < _; omega)).trans e14
                      go_wp2_with fail
                      have cc := (IH (f - 1) (by omega)) n c _ v0 (hyc.keep (hal0_.mono hnr)) (Nat.le_trans hnr hal0_.size) (by omega) (by omega)
                      rw [hq6] at cc
                      refine cc.mono ?_
                      rintro e v1 ⟨rfl, hv1⟩
                      clear cc
                      have hal1_ := chain hal0_ hv1
                      have hbx1 := hbx0.blw hv1
                      clear b0 b1 b2 b3 b4
                      obtain ⟨b0, b1, b2, b3, b4⟩ := hbx1.cells
                      have q00 := (hal1_.cell (p := ⟨gy, oy, none⟩) (by show gy < _; omega)).trans e00
                      have q01 := (hal1_.cell (p := ⟨gy, oy + 1, none⟩) (by show gy < _; omega)).trans e01
                      have q02 := (hal1_.cell (p := ⟨gy, oy + 2, none⟩) (by show gy < _; omega)).trans e02
                      have q03 := (hal1_.cell (p := ⟨gy, oy + 3, none⟩) (by show gy < _; omega)).trans e03
                      have q04 := (hal1_.cell (p := ⟨gy, oy + 4, none⟩) (by show gy < _; omega)).trans e04
                      have q10 := (hal1_.cell (p := ⟨gy, oy + 5, none⟩) (by show gy < _; omega)).trans e10
                      have q11 := (hal1_.cell (p := ⟨gy, oy + 5 + 1, none⟩) (by show gy < _; omega)).trans e11
                      have q12 := (hal1_.cell (p := ⟨gy, oy + 5 + 2, none⟩) (by show gy < _; omega)).trans e12
                      have q13 := (hal1_.cell (p := ⟨gy, oy + 5 + 3, none⟩) (by show gy < _; omega)).trans e13
                      have q14 := (hal1_.cell (p := ⟨gy, oy + 5 + 4, none⟩) (by show gy < _; omega)).trans e14
                      go_wp2_with fail
                      go_roundw
                      case rel => exact ⟨k + 1, by omega, by go_num, (by have h9 := HS.out; simpa using h9 : (decide (t.names = []) && (t.kids.drop (k + 1)).all (okF f 2)) = r), hBx.blw hal1_, (chain hBr hal1_)⟩
                      case measure => simp [intOf]; omega
                · have hp1 : ¬ (LY : Int) < 1 := by have := HLY.out; omega
                  have hp2 : (2 : Int) < (LY : Int) := by have := HLY.out; omega
                  rw [are_len (gs := [3]) (by simp; omega), are_len (gs := [3, 0]) (by simp; omega)] at HS0
                  have HS : Hid (_ = _) := HS0
                  clear HS0 hky HLY
                  go_wp2_with fail
                  go_ret
                  exact ⟨ret_bool (by have h9 := HS.out; simpa using h9), (by rw [← Hwa.out]; exact (chain hBr hal))⟩
              · have hpn : 0 < MY := by have := List.length_pos_iff.2 hq3; have := HMY.out; omega
                rw [decide_eq_false hq3] at HS0
                have HS : Hid (_ = _) := HS0
                clear hq3 HS0
                go_wp2_with fail
                go_ret
                exact ⟨ret_bool (by have h9 := HS.out; simpa using h9), (by rw [← Hwa.out]; exact (chain hBr hal))⟩
          · have k11 : (y.kind != 11) = true := by simp [hq1]
            rw [decide_eq_false hq1] at HS0
            have HS : Hid (_ = _) := HS0
            clear hq1 HS0
            go_wp2_with fail
            go_ret
            exact ⟨ret_bool (by have h9 := HS.out; simpa using h9), (by rw [← Hwa.out]; exact (chain hBr hal))⟩
        · have hR : Hid (decide (t.names = []) = r) := by
            have h := HD.out
            rw [List.drop_of_length_le (by rw [← HL.out]; omega)] at h
            rw [← h, List.all_nil, Bool.and_true]; rfl
          clear HD
          have e2' : Hid (_ = _) := e2
          clear e2
          go_wp2
          go_ret
          exact ⟨ret_bool (by rw [← hR.out]; exact e2'.out), hBr⟩
end Go.Proofs.Ytpfnjeefhddikaa
