/- Which trees may be, by the document's answer: formula, face, Right. -/
import Derived.Test.YtpfnjeefhddikaaRName
import Derived.Test.YtpfnjeefhddikaaSWriteB
namespace Go.Proofs.Ytpfnjeefhddikaa
open Go.RowKit
set_option linter.unusedVariables false
set_option linter.unusedSimpArgs false

theorem are1_eq (ok : Nat → Sx → Bool) (t : Sx) (g : Nat) : areB ok t.kids [g] = (decide (t.kids.length = 1) && ok g (kd t 0)) := by
  unfold kd
  match t.kids with
  | [] => rfl
  | [a] => simp [areB]
  | a :: b :: l => simp [areB]
theorem are2_eq (ok : Nat → Sx → Bool) (t : Sx) (g k : Nat) : areB ok t.kids [g, k] = (decide (t.kids.length = 2) && (ok g (kd t 0) && ok k (kd t 1))) := by
  unfold kd
  match t.kids with
  | [] => rfl
  | [a] => simp [areB]
  | [a, b] => simp [areB]
  | a :: b :: c :: l => simp [areB]
theorem len_two {l : List Sx} (h : l.length = 2) : ∃ a c, l = [a, c] := by
  match l, h with
  | [a, c], _ => exact ⟨a, c, rfl⟩
theorem kids0_eq (t : Sx) : decide (t.kids = []) = t.kids.isEmpty := by cases t.kids <;> rfl
theorem len_eq {α : Type} (l : List α) (k : Nat) : ((l.length : Int) == (k : Int)) = decide (l.length = k) := by rw [Bool.eq_iff_iff]; simp; omega
theorem dim_names {ok : Nat → Sx → Bool} {t : Sx} (h : t.names ≠ []) : dimB ok t = false := by
  unfold dimB nameTreeB namelessB
  rw [decide_eq_false h]
  simp
def RFo (f : Nat) : Prop := ∀ (n : Nat) (t : Sx) (v : Value) (w : World), SxIn n w t v → n ≤ w.heap.size → blk t ≤ f → f ≤ 65536 → Calls Try.prog 22 #[v] w fun e w' => e = .returned (.bool (okF f 1 t)) ∧ Below w.heap.size w w'
def RRi (f : Nat) : Prop := ∀ (n : Nat) (t : Sx) (v : Value) (w : World), SxIn n w t v → n ≤ w.heap.size → blk t ≤ f → f ≤ 65536 → Calls Try.prog 10 #[v] w fun e w' => e = .returned (.bool (okF f 0 t)) ∧ Below w.heap.size w w'

set_option maxRecDepth 100000 in
set_option maxHeartbeats 4000000 in
theorem rFormula_step (f : Nat) (IH : RFo f) : RFo (f + 1) := by
  intro n t v w h hn hb hf
  obtain ⟨ka, kc, na, nc, rfl, hN, hK⟩ := h.form
  have hkl : t.kids.length ≤ 1000000 := by have := blk_klen t; omega
  have hnl : t.names.length ≤ 1000000 := by have := blk_nlen t; omega
  obtain ⟨w1, hw1⟩ : ∃ w1, w1 = w.alloc (.cells #[.int .i64 t.kind, .string (bs t.name), .slice ka t.kids.length kc, .slice na t.names.length nc, .int .i64 t.at_] 25) := ⟨_, rfl⟩
  have hal1 : Below w.heap.size w w1 := by rw [hw1]; exact below_alloc _ _
  have hB1 : Bx w1 w.heap.size (.int .i64 t.kind) (.string (bs t.name)) (.slice ka t.kids.length kc) (.slice na t.names.length nc) (.int .i64 t.at_) := by rw [hw1]; exact bx_new _ _ _ _ _ _
  have Hw1 : Hid (_ = _) := hw1
  clear hw1
  obtain ⟨x0, x1, x2, x3, x4⟩ := hB1.cells
  have e1 := bs_nil t.name
  have e2 := len_nil t.names
  have e3 := len_nilS t.kids
  have el1 : ((t.kids.length : Int) == 1) = decide (t.kids.length = 1) := by rw [Bool.eq_iff_iff]; simp; omega
  have el2 : ((t.kids.length : Int) == 2) = decide (t.kids.length = 2) := by rw [Bool.eq_iff_iff]; simp; omega
  have ed0 := bs_beqS t.name [48]
  have ed1 := bs_beqS t.name [49]
  obtain ⟨r, hr⟩ : ∃ r, dimB (okF f) t = r := ⟨_, rfl⟩
  have hr2 : okF (f + 1) 1 t = r := by rw [← hr, okF_s]; rfl
  rw [hr2]
  clear hr2 h hN
  by_cases hnm : t.names = []
  · have hp : ¬ (0 : Int) < (t.names.length : Int) := by rw [hnm]; simp
    by_cases hk : t.kind = 1
    · have HR0 : (t.kids.isEmpty && nameB t.name) = r := by
        rw [← hr]; unfold dimB
        rw [if_pos (by omega)]
        try unfold nameTreeB
        try unfold namelessB
        try unfold digB
        try rw [are1_eq]
        try rw [are2_eq]
        rw [hnm]
        have q := kids0_eq t
        cases hh : t.kids.isEmpty <;> rw [hh] at q <;> simp [q]
      have HR : Hid (_ = _) := HR0
      clear HR0
      have k1 : (t.kind == 1) = true := by rw [hk]; rfl
      have k17 : (t.kind == 17) = false := by rw [hk]; rfl
      have k16 : (t.kind == 16) = false := by rw [hk]; rfl
      have k14 : (t.kind == 14) = false := by rw [hk]; rfl
      have k15 : (t.kind == 15) = false := by rw [hk]; rfl
      clear hk hr hnm
      cases hq0 : t.kids.isEmpty
      · rw [hq0] at HR e3
        clear hq0
        go_enter Try.func22, Try.ntmps22
        go_wp2_with fail
        rw [← Hw1.out]
        clear Hw1
        go_ret
        exact ⟨ret_bool (by have h9 := HR.out; first | (simpa using h9) | (simp_all)), hal1⟩
      · rw [hq0] at HR e3
        clear hq0
        generalize hz : nameB t.name = z at *
        go_enter Try.func22, Try.ntmps22
        go_wp2_with fail
        rw [← Hw1.out]
        clear Hw1
        have cc := rNamed_any t.name w1 (by have := blk_name t; omega)
        rw [hz] at cc
        refine cc.mono ?_
        rintro e w2 ⟨rfl, hb2⟩
        clear cc
        have hal2 := chain hal1 hb2
        have hB2 := hB1.blw hb2
        clear x0 x1 x2 x3 x4
        obtain ⟨x0, x1, x2, x3, x4⟩ := hB2.cells
        go_wp2_with fail
        go_ret
        exact ⟨ret_bool (by have h9 := HR.out; first | (simpa using h9) | (simp_all)), hal2⟩
    by_cases hk : t.kind = 17
    · have HR0 : (t.kids.isEmpty && (decide (t.name = [48]) || decide (t.name = [49]))) = r := by
        rw [← hr]; unfold dimB
        rw [if_neg (by omega), if_pos (by omega)]
        try unfold nameTreeB
        try unfold namelessB
        try unfold digB
        try rw [are1_eq]
        try rw [are2_eq]
        rw [hnm]
        have q := kids0_eq t
        cases hh : t.kids.isEmpty <;> rw [hh] at q <;> simp [q]
      have HR : Hid (_ = _) := HR0
      clear HR0
      have k1 : (t.kind == 1) = false := by rw [hk]; rfl
      have k17 : (t.kind == 17) = true := by rw [hk]; rfl
      have k16 : (t.kind == 16) = false := by rw [hk]; rfl
      have k14 : (t.kind == 14) = false := by rw [hk]; rfl
      have k15 : (t.kind == 15) = false := by rw [hk]; rfl
      clear hk hr hnm
      cases hq0 : t.kids.isEmpty
      · rw [hq0] at HR e3
        clear hq0
        go_enter Try.func22, Try.ntmps22
        go_wp2_with fail
        rw [← Hw1.out]
        clear Hw1
        go_ret
        exact ⟨ret_bool (by have h9 := HR.out; first | (simpa using h9) | (simp_all)), hal1⟩
      · rw [hq0] at HR e3
        clear hq0
        cases hq1 : decide (t.name = [48])
        · rw [hq1] at HR ed0
          clear hq1
          generalize hz : decide (t.name = [49]) = z at *
          go_enter Try.func22, Try.ntmps22
          go_wp2_with fail
          rw [← Hw1.out]
          clear Hw1
          go_ret
          exact ⟨ret_bool (by have h9 := HR.out; first | (simpa using h9) | (simp_all)), hal1⟩
        · rw [hq1] at HR ed0
          clear hq1
          go_enter Try.func22, Try.ntmps22
          go_wp2_with fail
          rw [← Hw1.out]
          clear Hw1
          go_ret
          exact ⟨ret_bool (by have h9 := HR.out; first | (simpa using h9) | (simp_all)), hal1⟩
    by_cases hk : t.kind = 16
    · have HR0 : (decide (t.name = []) && (decide (t.kids.length = 1) && okF f 1 (kd t 0))) = r := by
        rw [← hr]; unfold dimB
        rw [if_neg (by omega), if_neg (by omega), if_pos (by omega)]
        try unfold nameTreeB
        try unfold namelessB
        try unfold digB
        try rw [are1_eq]
        try rw [are2_eq]
        rw [hnm]
        have q := kids0_eq t
        cases hh : t.kids.isEmpty <;> rw [hh] at q <;> simp [q]
      have HR : Hid (_ = _) := HR0
      clear HR0
      have k1 : (t.kind == 1) = false := by rw [hk]; rfl
      have k17 : (t.kind == 17) = false := by rw [hk]; rfl
      have k16 : (t.kind == 16) = true := by rw [hk]; rfl
      have k14 : (t.kind == 14) = false := by rw [hk]; rfl
      have k15 : (t.kind == 15) = false := by rw [hk]; rfl
      clear hk hr hnm
      cases hq0 : decide (t.name = [])
      · rw [hq0] at HR e1
        clear hq0
        go_enter Try.func22, Try.ntmps22
        go_wp2_with fail
        rw [← Hw1.out]
        clear Hw1
        go_ret
        exact ⟨ret_bool (by have h9 := HR.out; first | (simpa using h9) | (simp_all)), hal1⟩
      · rw [hq0] at HR e1
        clear hq0
        cases hq1 : decide (t.kids.length = 1)
        · rw [hq1] at HR el1
          clear hq1
          go_enter Try.func22, Try.ntmps22
          go_wp2_with fail
          rw [← Hw1.out]
          clear Hw1
          go_ret
          exact ⟨ret_bool (by have h9 := HR.out; first | (simpa using h9) | (simp_all)), hal1⟩
        · rw [hq1] at HR el1
          have hlen := of_decide_eq_true hq1
          obtain ⟨a, hl⟩ : ∃ a, t.kids = [a] := List.length_eq_one_iff.1 hlen
          have hk0 : kd t 0 = a := by rw [kd_kids hl]; rfl
          rw [hk0] at HR
          obtain ⟨g, off, ka0, kc0, na0, nc0, rfl, hg, hxx0, c00, c01, c02, c03, c04⟩ := hK.at (j := 0) (x := a) (by rw [hl]; rfl)
          simp only [Nat.zero_mul, Nat.one_mul, Nat.add_zero] at c00 c01 c02 c03 c04
          have hp0 : 0 < t.kids.length := by omega
          have hba : blk a < blk t := blk_kid (by rw [hl]; simp)
          clear hl hlen hk0 hq1
          generalize hz : okF f 1 a = z at *
          have r00 := (hal1.cell (p := ⟨g, off, none⟩) (by show g < _; omega)).trans c00
          have d00 := r00
          rw [Hw1.out] at r00
          have r01 := (hal1.cell (p := ⟨g, off + 1, none⟩) (by show g < _; omega)).trans c01
          have d01 := r01
          rw [Hw1.out] at r01
          have r02 := (hal1.cell (p := ⟨g, off + 2, none⟩) (by show g < _; omega)).trans c02
          have d02 := r02
          rw [Hw1.out] at r02
          have r03 := (hal1.cell (p := ⟨g, off + 3, none⟩) (by show g < _; omega)).trans c03
          have d03 := r03
          rw [Hw1.out] at r03
          have r04 := (hal1.cell (p := ⟨g, off + 4, none⟩) (by show g < _; omega)).trans c04
          have d04 := r04
          rw [Hw1.out] at r04
          go_enter Try.func22, Try.ntmps22
          go_wp2_with fail
          rw [← Hw1.out]
          clear Hw1
          have cc := IH n a _ w1 (hxx0.keep (hal1.mono hn)) (Nat.le_trans hn hal1.size) (by omega) (by omega)
          rw [hz] at cc
          refine cc.mono ?_
          rintro e w2 ⟨rfl, hb2⟩
          clear cc
          have hal2 := chain hal1 hb2
          have hB2 := hB1.blw hb2
          clear x0 x1 x2 x3 x4
          obtain ⟨x0, x1, x2, x3, x4⟩ := hB2.cells
          have d00 := (hal2.cell (p := ⟨g, off, none⟩) (by show g < _; omega)).trans c00
          have d01 := (hal2.cell (p := ⟨g, off + 1, none⟩) (by show g < _; omega)).trans c01
          have d02 := (hal2.cell (p := ⟨g, off + 2, none⟩) (by show g < _; omega)).trans c02
          have d03 := (hal2.cell (p := ⟨g, off + 3, none⟩) (by show g < _; omega)).trans c03
          have d04 := (hal2.cell (p := ⟨g, off + 4, none⟩) (by show g < _; omega)).trans c04
          go_wp2_with fail
          go_ret
          exact ⟨ret_bool (by have h9 := HR.out; first | (simpa using h9) | (simp_all)), hal2⟩
    by_cases hk : t.kind = 14
    · have HR0 : (decide (t.name = []) && (decide (t.kids.length = 2) && (okF f 1 (kd t 0) && okF f 1 (kd t 1)))) = r := by
        rw [← hr]; unfold dimB
        rw [if_neg (by omega), if_neg (by omega), if_neg (by omega), if_pos (by omega)]
        try unfold nameTreeB
        try unfold namelessB
        try unfold digB
        try rw [are1_eq]
        try rw [are2_eq]
        rw [hnm]
        have q := kids0_eq t
        cases hh : t.kids.isEmpty <;> rw [hh] at q <;> simp [q]
      have HR : Hid (_ = _) := HR0
      clear HR0
      have k1 : (t.kind == 1) = false := by rw [hk]; rfl
      have k17 : (t.kind == 17) = false := by rw [hk]; rfl
      have k16 : (t.kind == 16) = false := by rw [hk]; rfl
      have k14 : (t.kind == 14) = true := by rw [hk]; rfl
      have k15 : (t.kind == 15) = false := by rw [hk]; rfl
      clear hk hr hnm
      cases hq0 : decide (t.name = [])
      · rw [hq0] at HR e1
        clear hq0
        go_enter Try.func22, Try.ntmps22
        go_wp2_with fail
        rw [← Hw1.out]
        clear Hw1
        go_ret
        exact ⟨ret_bool (by have h9 := HR.out; first | (simpa using h9) | (simp_all)), hal1⟩
      · rw [hq0] at HR e1
        clear hq0
        cases hq1 : decide (t.kids.length = 2)
        · rw [hq1] at HR el2
          clear hq1
          go_enter Try.func22, Try.ntmps22
          go_wp2_with fail
          rw [← Hw1.out]
          clear Hw1
          go_ret
          exact ⟨ret_bool (by have h9 := HR.out; first | (simpa using h9) | (simp_all)), hal1⟩
        · rw [hq1] at HR el2
          have hlen := of_decide_eq_true hq1
          obtain ⟨a, c, hl⟩ : ∃ a c, t.kids = [a, c] := len_two hlen
          have hk0 : kd t 0 = a := by rw [kd_kids hl]; rfl
          rw [hk0] at HR
          have hk1 : kd t 1 = c := by rw [kd_kids hl]; rfl
          rw [hk1] at HR
          obtain ⟨g, off, ka0, kc0, na0, nc0, rfl, hg, hxx0, c00, c01, c02, c03, c04⟩ := hK.at (j := 0) (x := a) (by rw [hl]; rfl)
          obtain ⟨g', off', ka1, kc1, na1, nc1, he, _, hxx1, c10, c11, c12, c13, c14⟩ := hK.at (j := 1) (x := c) (by rw [hl]; rfl)
          cases he
          simp only [Nat.zero_mul, Nat.one_mul, Nat.add_zero] at c00 c01 c02 c03 c04 c10 c11 c12 c13 c14
          have hp0 : 0 < t.kids.length := by omega
          have hp1 : 1 < t.kids.length := by omega
          have hba : blk a < blk t := blk_kid (by rw [hl]; simp)
          have hbc : blk c < blk t := blk_kid (by rw [hl]; simp)
          clear hl hlen hk0 hk1 hq1
          cases hq2 : okF f 1 a
          · rw [hq2] at HR
            have r00 := (hal1.cell (p := ⟨g, off, none⟩) (by show g < _; omega)).trans c00
            have d00 := r00
            rw [Hw1.out] at r00
            have r01 := (hal1.cell (p := ⟨g, off + 1, none⟩) (by show g < _; omega)).trans c01
            have d01 := r01
            rw [Hw1.out] at r01
            have r02 := (hal1.cell (p := ⟨g, off + 2, none⟩) (by show g < _; omega)).trans c02
            have d02 := r02
            rw [Hw1.out] at r02
            have r03 := (hal1.cell (p := ⟨g, off + 3, none⟩) (by show g < _; omega)).trans c03
            have d03 := r03
            rw [Hw1.out] at r03
            have r04 := (hal1.cell (p := ⟨g, off + 4, none⟩) (by show g < _; omega)).trans c04
            have d04 := r04
            rw [Hw1.out] at r04
            have r10 := (hal1.cell (p := ⟨g, off + 5, none⟩) (by show g < _; omega)).trans c10
            have d10 := r10
            rw [Hw1.out] at r10
            have r11 := (hal1.cell (p := ⟨g, off + 5 + 1, none⟩) (by show g < _; omega)).trans c11
            have d11 := r11
            rw [Hw1.out] at r11
            have r12 := (hal1.cell (p := ⟨g, off + 5 + 2, none⟩) (by show g < _; omega)).trans c12
            have d12 := r12
            rw [Hw1.out] at r12
            have r13 := (hal1.cell (p := ⟨g, off + 5 + 3, none⟩) (by show g < _; omega)).trans c13
            have d13 := r13
            rw [Hw1.out] at r13
            have r14 := (hal1.cell (p := ⟨g, off + 5 + 4, none⟩) (by show g < _; omega)).trans c14
            have d14 := r14
            rw [Hw1.out] at r14
            go_enter Try.func22, Try.ntmps22
            go_wp2_with fail
            rw [← Hw1.out]
            clear Hw1
            have cc := IH n a _ w1 (hxx0.keep (hal1.mono hn)) (Nat.le_trans hn hal1.size) (by omega) (by omega)
            rw [hq2] at cc
            refine cc.mono ?_
            rintro e w2 ⟨rfl, hb2⟩
            clear cc
            have hal2 := chain hal1 hb2
            have hB2 := hB1.blw hb2
            clear x0 x1 x2 x3 x4
            obtain ⟨x0, x1, x2, x3, x4⟩ := hB2.cells
            have d00 := (hal2.cell (p := ⟨g, off, none⟩) (by show g < _; omega)).trans c00
            have d01 := (hal2.cell (p := ⟨g, off + 1, none⟩) (by show g < _; omega)).trans c01
            have d02 := (hal2.cell (p := ⟨g, off + 2, none⟩) (by show g < _; omega)).trans c02
            have d03 := (hal2.cell (p := ⟨g, off + 3, none⟩) (by show g < _; omega)).trans c03
            have d04 := (hal2.cell (p := ⟨g, off + 4, none⟩) (by show g < _; omega)).trans c04
            have d10 := (hal2.cell (p := ⟨g, off + 5, none⟩) (by show g < _; omega)).trans c10
            have d11 := (hal2.cell (p := ⟨g, off + 5 + 1, none⟩) (by show g < _; omega)).trans c11
            have d12 := (hal2.cell (p := ⟨g, off + 5 + 2, none⟩) (by show g < _; omega)).trans c12
            have d13 := (hal2.cell (p := ⟨g, off + 5 + 3, none⟩) (by show g < _; omega)).trans c13
            have d14 := (hal2.cell (p := ⟨g, off + 5 + 4, none⟩) (by show g < _; omega)).trans c14
            go_wp2_with fail
            go_ret
            exact ⟨ret_bool (by have h9 := HR.out; first | (simpa using h9) | (simp_all)), hal2⟩
          · rw [hq2] at HR
            generalize hz : okF f 1 c = z at *
            have r00 := (hal1.cell (p := ⟨g, off, none⟩) (by show g < _; omega)).trans c00
            have d00 := r00
            rw [Hw1.out] at r00
            have r01 := (hal1.cell (p := ⟨g, off + 1, none⟩) (by show g < _; omega)).trans c01
            have d01 := r01
            rw [Hw1.out] at r01
            have r02 := (hal1.cell (p := ⟨g, off + 2, none⟩) (by show g < _; omega)).trans c02
            have d02 := r02
            rw [Hw1.out] at r02
            have r03 := (hal1.cell (p := ⟨g, off + 3, none⟩) (by show g < _; omega)).trans c03
            have d03 := r03
            rw [Hw1.out] at r03
            have r04 := (hal1.cell (p := ⟨g, off + 4, none⟩) (by show g < _; omega)).trans c04
            have d04 := r04
            rw [Hw1.out] at r04
            have r10 := (hal1.cell (p := ⟨g, off + 5, none⟩) (by show g < _; omega)).trans c10
            have d10 := r10
            rw [Hw1.out] at r10
            have r11 := (hal1.cell (p := ⟨g, off + 5 + 1, none⟩) (by show g < _; omega)).trans c11
            have d11 := r11
            rw [Hw1.out] at r11
            have r12 := (hal1.cell (p := ⟨g, off + 5 + 2, none⟩) (by show g < _; omega)).trans c12
            have d12 := r12
            rw [Hw1.out] at r12
            have r13 := (hal1.cell (p := ⟨g, off + 5 + 3, none⟩) (by show g < _; omega)).trans c13
            have d13 := r13
            rw [Hw1.out] at r13
            have r14 := (hal1.cell (p := ⟨g, off + 5 + 4, none⟩) (by show g < _; omega)).trans c14
            have d14 := r14
            rw [Hw1.out] at r14
            go_enter Try.func22, Try.ntmps22
            go_wp2_with fail
            rw [← Hw1.out]
            clear Hw1
            have cc := IH n a _ w1 (hxx0.keep (hal1.mono hn)) (Nat.le_trans hn hal1.size) (by omega) (by omega)
            rw [hq2] at cc
            refine cc.mono ?_
            rintro e w2 ⟨rfl, hb2⟩
            clear cc
            have hal2 := chain hal1 hb2
            have hB2 := hB1.blw hb2
            clear x0 x1 x2 x3 x4
            obtain ⟨x0, x1, x2, x3, x4⟩ := hB2.cells
            have d00 := (hal2.cell (p := ⟨g, off, none⟩) (by show g < _; omega)).trans c00
            have d01 := (hal2.cell (p := ⟨g, off + 1, none⟩) (by show g < _; omega)).trans c01
            have d02 := (hal2.cell (p := ⟨g, off + 2, none⟩) (by show g < _; omega)).trans c02
            have d03 := (hal2.cell (p := ⟨g, off + 3, none⟩) (by show g < _; omega)).trans c03
            have d04 := (hal2.cell (p := ⟨g, off + 4, none⟩) (by show g < _; omega)).trans c04
            have d10 := (hal2.cell (p := ⟨g, off + 5, none⟩) (by show g < _; omega)).trans c10
            have d11 := (hal2.cell (p := ⟨g, off + 5 + 1, none⟩) (by show g < _; omega)).trans c11
            have d12 := (hal2.cell (p := ⟨g, off + 5 + 2, none⟩) (by show g < _; omega)).trans c12
            have d13 := (hal2.cell (p := ⟨g, off + 5 + 3, none⟩) (by show g < _; omega)).trans c13
            have d14 := (hal2.cell (p := ⟨g, off + 5 + 4, none⟩) (by show g < _; omega)).trans c14
            go_wp2_with fail
            have cc := IH n c _ w2 (hxx1.keep (hal2.mono hn)) (Nat.le_trans hn hal2.size) (by omega) (by omega)
            rw [hz] at cc
            refine cc.mono ?_
            rintro e w3 ⟨rfl, hb3⟩
            clear cc
            have hal3 := chain hal2 hb3
            have hB3 := hB2.blw hb3
            clear x0 x1 x2 x3 x4
            obtain ⟨x0, x1, x2, x3, x4⟩ := hB3.cells
            have d00 := (hal3.cell (p := ⟨g, off, none⟩) (by show g < _; omega)).trans c00
            have d01 := (hal3.cell (p := ⟨g, off + 1, none⟩) (by show g < _; omega)).trans c01
            have d02 := (hal3.cell (p := ⟨g, off + 2, none⟩) (by show g < _; omega)).trans c02
            have d03 := (hal3.cell (p := ⟨g, off + 3, none⟩) (by show g < _; omega)).trans c03
            have d04 := (hal3.cell (p := ⟨g, off + 4, none⟩) (by show g < _; omega)).trans c04
            have d10 := (hal3.cell (p := ⟨g, off + 5, none⟩) (by show g < _; omega)).trans c10
            have d11 := (hal3.cell (p := ⟨g, off + 5 + 1, none⟩) (by show g < _; omega)).trans c11
            have d12 := (hal3.cell (p := ⟨g, off + 5 + 2, none⟩) (by show g < _; omega)).trans c12
            have d13 := (hal3.cell (p := ⟨g, off + 5 + 3, none⟩) (by show g < _; omega)).trans c13
            have d14 := (hal3.cell (p := ⟨g, off + 5 + 4, none⟩) (by show g < _; omega)).trans c14
            go_wp2_with fail
            go_ret
            exact ⟨ret_bool (by have h9 := HR.out; first | (simpa using h9) | (simp_all)), hal3⟩
    by_cases hk : t.kind = 15
    · have HR0 : (decide (t.name = []) && (decide (t.kids.length = 2) && (okF f 1 (kd t 0) && okF f 1 (kd t 1)))) = r := by
        rw [← hr]; unfold dimB
        rw [if_neg (by omega), if_neg (by omega), if_neg (by omega), if_pos (by omega)]
        try unfold nameTreeB
        try unfold namelessB
        try unfold digB
        try rw [are1_eq]
        try rw [are2_eq]
        rw [hnm]
        have q := kids0_eq t
        cases hh : t.kids.isEmpty <;> rw [hh] at q <;> simp [q]
      have HR : Hid (_ = _) := HR0
      clear HR0
      have k1 : (t.kind == 1) = false := by rw [hk]; rfl
      have k17 : (t.kind == 17) = false := by rw [hk]; rfl
      have k16 : (t.kind == 16) = false := by rw [hk]; rfl
      have k14 : (t.kind == 14) = false := by rw [hk]; rfl
      have k15 : (t.kind == 15) = true := by rw [hk]; rfl
      clear hk hr hnm
      cases hq0 : decide (t.name = [])
      · rw [hq0] at HR e1
        clear hq0
        go_enter Try.func22, Try.ntmps22
        go_wp2_with fail
        rw [← Hw1.out]
        clear Hw1
        go_ret
        exact ⟨ret_bool (by have h9 := HR.out; first | (simpa using h9) | (simp_all)), hal1⟩
      · rw [hq0] at HR e1
        clear hq0
        cases hq1 : decide (t.kids.length = 2)
        · rw [hq1] at HR el2
          clear hq1
          go_enter Try.func22, Try.ntmps22
          go_wp2_with fail
          rw [← Hw1.out]
          clear Hw1
          go_ret
          exact ⟨ret_bool (by have h9 := HR.out; first | (simpa using h9) | (simp_all)), hal1⟩
        · rw [hq1] at HR el2
          have hlen := of_decide_eq_true hq1
          obtain ⟨a, c, hl⟩ : ∃ a c, t.kids = [a, c] := len_two hlen
          have hk0 : kd t 0 = a := by rw [kd_kids hl]; rfl
          rw [hk0] at HR
          have hk1 : kd t 1 = c := by rw [kd_kids hl]; rfl
          rw [hk1] at HR
          obtain ⟨g, off, ka0, kc0, na0, nc0, rfl, hg, hxx0, c00, c01, c02, c03, c04⟩ := hK.at (j := 0) (x := a) (by rw [hl]; rfl)
          obtain ⟨g', off', ka1, kc1, na1, nc1, he, _, hxx1, c10, c11, c12, c13, c14⟩ := hK.at (j := 1) (x := c) (by rw [hl]; rfl)
          cases he
          simp only [Nat.zero_mul, Nat.one_mul, Nat.add_zero] at c00 c01 c02 c03 c04 c10 c11 c12 c13 c14
          have hp0 : 0 < t.kids.length := by omega
          have hp1 : 1 < t.kids.length := by omega
          have hba : blk a < blk t := blk_kid (by rw [hl]; simp)
          have hbc : blk c < blk t := blk_kid (by rw [hl]; simp)
          clear hl hlen hk0 hk1 hq1
          cases hq2 : okF f 1 a
          · rw [hq2] at HR
            have r00 := (hal1.cell (p := ⟨g, off, none⟩) (by show g < _; omega)).trans c00
            have d00 := r00
            rw [Hw1.out] at r00
            have r01 := (hal1.cell (p := ⟨g, off + 1, none⟩) (by show g < _; omega)).trans c01
            have d01 := r01
            rw [Hw1.out] at r01
            have r02 := (hal1.cell (p := ⟨g, off + 2, none⟩) (by show g < _; omega)).trans c02
            have d02 := r02
            rw [Hw1.out] at r02
            have r03 := (hal1.cell (p := ⟨g, off + 3, none⟩) (by show g < _; omega)).trans c03
            have d03 := r03
            rw [Hw1.out] at r03
            have r04 := (hal1.cell (p := ⟨g, off + 4, none⟩) (by show g < _; omega)).trans c04
            have d04 := r04
            rw [Hw1.out] at r04
            have r10 := (hal1.cell (p := ⟨g, off + 5, none⟩) (by show g < _; omega)).trans c10
            have d10 := r10
            rw [Hw1.out] at r10
            have r11 := (hal1.cell (p := ⟨g, off + 5 + 1, none⟩) (by show g < _; omega)).trans c11
            have d11 := r11
            rw [Hw1.out] at r11
            have r12 := (hal1.cell (p := ⟨g, off + 5 + 2, none⟩) (by show g < _; omega)).trans c12
            have d12 := r12
            rw [Hw1.out] at r12
            have r13 := (hal1.cell (p := ⟨g, off + 5 + 3, none⟩) (by show g < _; omega)).trans c13
            have d13 := r13
            rw [Hw1.out] at r13
            have r14 := (hal1.cell (p := ⟨g, off + 5 + 4, none⟩) (by show g < _; omega)).trans c14
            have d14 := r14
            rw [Hw1.out] at r14
            go_enter Try.func22, Try.ntmps22
            go_wp2_with fail
            rw [← Hw1.out]
            clear Hw1
            have cc := IH n a _ w1 (hxx0.keep (hal1.mono hn)) (Nat.le_trans hn hal1.size) (by omega) (by omega)
            rw [hq2] at cc
            refine cc.mono ?_
            rintro e w2 ⟨rfl, hb2⟩
            clear cc
            have hal2 := chain hal1 hb2
            have hB2 := hB1.blw hb2
            clear x0 x1 x2 x3 x4
            obtain ⟨x0, x1, x2, x3, x4⟩ := hB2.cells
            have d00 := (hal2.cell (p := ⟨g, off, none⟩) (by show g < _; omega)).trans c00
            have d01 := (hal2.cell (p := ⟨g, off + 1, none⟩) (by show g < _; omega)).trans c01
            have d02 := (hal2.cell (p := ⟨g, off + 2, none⟩) (by show g < _; omega)).trans c02
            have d03 := (hal2.cell (p := ⟨g, off + 3, none⟩) (by show g < _; omega)).trans c03
            have d04 := (hal2.cell (p := ⟨g, off + 4, none⟩) (by show g < _; omega)).trans c04
            have d10 := (hal2.cell (p := ⟨g, off + 5, none⟩) (by show g < _; omega)).trans c10
            have d11 := (hal2.cell (p := ⟨g, off + 5 + 1, none⟩) (by show g < _; omega)).trans c11
            have d12 := (hal2.cell (p := ⟨g, off + 5 + 2, none⟩) (by show g < _; omega)).trans c12
            have d13 := (hal2.cell (p := ⟨g, off + 5 + 3, none⟩) (by show g < _; omega)).trans c13
            have d14 := (hal2.cell (p := ⟨g, off + 5 + 4, none⟩) (by show g < _; omega)).trans c14
            go_wp2_with fail
            go_ret
            exact ⟨ret_bool (by have h9 := HR.out; first | (simpa using h9) | (simp_all)), hal2⟩
          · rw [hq2] at HR
            generalize hz : okF f 1 c = z at *
            have r00 := (hal1.cell (p := ⟨g, off, none⟩) (by show g < _; omega)).trans c00
            have d00 := r00
            rw [Hw1.out] at r00
            have r01 := (hal1.cell (p := ⟨g, off + 1, none⟩) (by show g < _; omega)).trans c01
            have d01 := r01
            rw [Hw1.out] at r01
            have r02 := (hal1.cell (p := ⟨g, off + 2, none⟩) (by show g < _; omega)).trans c02
            have d02 := r02
            rw [Hw1.out] at r02
            have r03 := (hal1.cell (p := ⟨g, off + 3, none⟩) (by show g < _; omega)).trans c03
            have d03 := r03
            rw [Hw1.out] at r03
            have r04 := (hal1.cell (p := ⟨g, off + 4, none⟩) (by show g < _; omega)).trans c04
            have d04 := r04
            rw [Hw1.out] at r04
            have r10 := (hal1.cell (p := ⟨g, off + 5, none⟩) (by show g < _; omega)).trans c10
            have d10 := r10
            rw [Hw1.out] at r10
            have r11 := (hal1.cell (p := ⟨g, off + 5 + 1, none⟩) (by show g < _; omega)).trans c11
            have d11 := r11
            rw [Hw1.out] at r11
            have r12 := (hal1.cell (p := ⟨g, off + 5 + 2, none⟩) (by show g < _; omega)).trans c12
            have d12 := r12
            rw [Hw1.out] at r12
            have r13 := (hal1.cell (p := ⟨g, off + 5 + 3, none⟩) (by show g < _; omega)).trans c13
            have d13 := r13
            rw [Hw1.out] at r13
            have r14 := (hal1.cell (p := ⟨g, off + 5 + 4, none⟩) (by show g < _; omega)).trans c14
            have d14 := r14
            rw [Hw1.out] at r14
            go_enter Try.func22, Try.ntmps22
            go_wp2_with fail
            rw [← Hw1.out]
            clear Hw1
            have cc := IH n a _ w1 (hxx0.keep (hal1.mono hn)) (Nat.le_trans hn hal1.size) (by omega) (by omega)
            rw [hq2] at cc
            refine cc.mono ?_
            rintro e w2 ⟨rfl, hb2⟩
            clear cc
            have hal2 := chain hal1 hb2
            have hB2 := hB1.blw hb2
            clear x0 x1 x2 x3 x4
            obtain ⟨x0, x1, x2, x3, x4⟩ := hB2.cells
            have d00 := (hal2.cell (p := ⟨g, off, none⟩) (by show g < _; omega)).trans c00
            have d01 := (hal2.cell (p := ⟨g, off + 1, none⟩) (by show g < _; omega)).trans c01
            have d02 := (hal2.cell (p := ⟨g, off + 2, none⟩) (by show g < _; omega)).trans c02
            have d03 := (hal2.cell (p := ⟨g, off + 3, none⟩) (by show g < _; omega)).trans c03
            have d04 := (hal2.cell (p := ⟨g, off + 4, none⟩) (by show g < _; omega)).trans c04
            have d10 := (hal2.cell (p := ⟨g, off + 5, none⟩) (by show g < _; omega)).trans c10
            have d11 := (hal2.cell (p := ⟨g, off + 5 + 1, none⟩) (by show g < _; omega)).trans c11
            have d12 := (hal2.cell (p := ⟨g, off + 5 + 2, none⟩) (by show g < _; omega)).trans c12
            have d13 := (hal2.cell (p := ⟨g, off + 5 + 3, none⟩) (by show g < _; omega)).trans c13
            have d14 := (hal2.cell (p := ⟨g, off + 5 + 4, none⟩) (by show g < _; omega)).trans c14
            go_wp2_with fail
            have cc := IH n c _ w2 (hxx1.keep (hal2.mono hn)) (Nat.le_trans hn hal2.size) (by omega) (by omega)
            rw [hz] at cc
            refine cc.mono ?_
            rintro e w3 ⟨rfl, hb3⟩
            clear cc
            have hal3 := chain hal2 hb3
            have hB3 := hB2.blw hb3
            clear x0 x1 x2 x3 x4
            obtain ⟨x0, x1, x2, x3, x4⟩ := hB3.cells
            have d00 := (hal3.cell (p := ⟨g, off, none⟩) (by show g < _; omega)).trans c00
            have d01 := (hal3.cell (p := ⟨g, off + 1, none⟩) (by show g < _; omega)).trans c01
            have d02 := (hal3.cell (p := ⟨g, off + 2, none⟩) (by show g < _; omega)).trans c02
            have d03 := (hal3.cell (p := ⟨g, off + 3, none⟩) (by show g < _; omega)).trans c03
            have d04 := (hal3.cell (p := ⟨g, off + 4, none⟩) (by show g < _; omega)).trans c04
            have d10 := (hal3.cell (p := ⟨g, off + 5, none⟩) (by show g < _; omega)).trans c10
            have d11 := (hal3.cell (p := ⟨g, off + 5 + 1, none⟩) (by show g < _; omega)).trans c11
            have d12 := (hal3.cell (p := ⟨g, off + 5 + 2, none⟩) (by show g < _; omega)).trans c12
            have d13 := (hal3.cell (p := ⟨g, off + 5 + 3, none⟩) (by show g < _; omega)).trans c13
            have d14 := (hal3.cell (p := ⟨g, off + 5 + 4, none⟩) (by show g < _; omega)).trans c14
            go_wp2_with fail
            go_ret
            exact ⟨ret_bool (by have h9 := HR.out; first | (simpa using h9) | (simp_all)), hal3⟩
    have HR : Hid (false = r) := by
      rw [← hr]; unfold dimB
      rw [if_neg (by omega), if_neg (by omega), if_neg (by omega), if_neg (by omega)]
      rfl
    have k1 : (t.kind == 1) = false := by simp; omega
    have k17 : (t.kind == 17) = false := by simp; omega
    have k16 : (t.kind == 16) = false := by simp; omega
    have k14 : (t.kind == 14) = false := by simp; omega
    have k15 : (t.kind == 15) = false := by simp; omega
    clear hr hnm
    go_enter Try.func22, Try.ntmps22
    go_wp2_with fail
    rw [← Hw1.out]
    clear Hw1
    go_ret
    exact ⟨ret_bool (by have h9 := HR.out; first | (simpa using h9) | (simp_all)), hal1⟩
  · have hp : (0 : Int) < (t.names.length : Int) := by have := List.length_pos_iff.2 hnm; omega
    have HR : Hid (false = r) := by rw [← hr, dim_names hnm]; rfl
    clear hr hnm
    go_enter Try.func22, Try.ntmps22
    go_wp2_with fail
    rw [← Hw1.out]
    clear Hw1
    go_ret
    exact ⟨ret_bool (by have h9 := HR.out; first | (simpa using h9) | (simp_all)), hal1⟩
theorem rFormula_any : ∀ f, RFo f := by
  intro f
  induction f with
  | zero => intro n t v w _ _ hb; have := blk_pos t; omega
  | succ f ih => exact rFormula_step f ih

theorem eqB_eq (y : Sx) : eqB y = (decide (y.kind = 13) && (y.kids.isEmpty && (nameB y.name && (decide (y.names.length = 1) && (decide (y.names.headD [] = [48]) || decide (y.names.headD [] = [49])))))) := by
  unfold eqB digitsB digB
  rw [kids0_eq]
  match hh : y.names with
  | [] => simp
  | [d] => cases decide (y.kind = 13) <;> cases y.kids.isEmpty <;> cases nameB y.name <;> simp
  | a :: b :: l => simp
theorem okF_eq {f : Nat} {y : Sx} (h : blk y ≤ f) : okF f 4 y = eqB y := by
  obtain ⟨k, rfl⟩ : ∃ k, f = k + 1 := ⟨f - 1, by have := blk_pos y; omega⟩
  rw [okF_s]; rfl
theorem face_names {ok : Nat → Sx → Bool} {t : Sx} (h : ¬ (t.kind = 12 ∧ t.name = [] ∧ t.names = [])) : faceB ok t = false := by
  unfold faceB namelessB
  by_cases h1 : t.kind = 12
  · by_cases h2 : t.name = []
    · have h3 : t.names ≠ [] := fun h3 => h ⟨h1, h2, h3⟩
      simp [h3]
    · simp [h2]
  · simp [h1]
def RFa (f : Nat) : Prop := ∀ (n : Nat) (t : Sx) (v : Value) (w : World), SxIn n w t v → n ≤ w.heap.size → blk t ≤ f → f ≤ 65536 → Calls Try.prog 24 #[v] w fun e w' => e = .returned (.bool (okF f 3 t)) ∧ Below w.heap.size w w'

set_option maxRecDepth 100000 in
set_option maxHeartbeats 4000000 in
theorem rFace_step (f : Nat) : RFa (f + 1) := by
  intro n t v w h hn hb hf
  obtain ⟨ka, kc, na, nc, rfl, hN, hK⟩ := h.form
  have hkl : t.kids.length ≤ 1000000 := by have := blk_klen t; omega
  have hnl : t.names.length ≤ 1000000 := by have := blk_nlen t; omega
  obtain ⟨w1, hw1⟩ : ∃ w1, w1 = w.alloc (.cells #[.int .i64 t.kind, .string (bs t.name), .slice ka t.kids.length kc, .slice na t.names.length nc, .int .i64 t.at_] 25) := ⟨_, rfl⟩
  have hal1 : Below w.heap.size w w1 := by rw [hw1]; exact below_alloc _ _
  have hB1 : Bx w1 w.heap.size (.int .i64 t.kind) (.string (bs t.name)) (.slice ka t.kids.length kc) (.slice na t.names.length nc) (.int .i64 t.at_) := by rw [hw1]; exact bx_new _ _ _ _ _ _
  have Hw1 : Hid (_ = _) := hw1
  clear hw1
  obtain ⟨x0, x1, x2, x3, x4⟩ := hB1.cells
  have e1 := bs_nil t.name
  have e2 := len_nil t.names
  have e3 := len_nilS t.kids
  have el1 : ((t.kids.length : Int) == 1) = decide (t.kids.length = 1) := by rw [Bool.eq_iff_iff]; simp; omega
  have el2 : ((t.kids.length : Int) == 2) = decide (t.kids.length = 2) := by rw [Bool.eq_iff_iff]; simp; omega
  have ed0 := bs_beqS t.name [48]
  have ed1 := bs_beqS t.name [49]
  obtain ⟨r, hr⟩ : ∃ r, faceB (okF f) t = r := ⟨_, rfl⟩
  have hr2 : okF (f + 1) 3 t = r := by rw [← hr, okF_s]; rfl
  rw [hr2]
  clear hr2 h hN
  by_cases hk : t.kind = 12
  · have k12 : (t.kind != 12) = false := by rw [hk]; rfl
    cases hq1 : decide (t.name = [])
    · have HR : Hid (false = r) := by
        rw [← hr, face_names (fun h => by rw [decide_eq_true h.2.1] at hq1; cases hq1)]; rfl
      rw [hq1] at e1
      clear hq1 hk hr
      go_enter Try.func24, Try.ntmps24
      go_wp2_with fail
      go_ret
      exact ⟨ret_bool HR.out, by rw [← Hw1.out]; exact hal1⟩
    · rw [hq1] at e1
      by_cases hnm : t.names = []
      · have hp : ¬ (0 : Int) < (t.names.length : Int) := by rw [hnm]; simp
        have H0 : Hid ((t.kids.drop 0).all (okF f 4) = r) := by
          rw [← hr]; unfold faceB namelessB
          rw [decide_eq_true hk, hq1, decide_eq_true hnm]; rfl
        clear hq1 hk hr hnm
        obtain ⟨L, hL⟩ : ∃ L, L = t.kids.length := ⟨_, rfl⟩
        have HL : Hid (L = t.kids.length) := hL
        rw [← hL] at hB1 hkl Hw1 x2 ⊢
        clear hL e3 el1 el2 ed0 ed1 e2
        have HK : Hid (KdP n w (SxIn n w) t.kids ka) := hK
        clear hK
        go_enter Try.func24, Try.ntmps24
        go_wp2_with fail
        rw [← Hw1.out]
        clear Hw1
        go_loopw [3] (fun i wr => ∃ k : Nat, k ≤ L ∧ i = .int .i64 k ∧ Hid ((t.kids.drop k).all (okF f 4) = r) ∧ Bx wr w.heap.size (.int .i64 t.kind) (.string (bs t.name)) (.slice ka L kc) (.slice na t.names.length nc) (.int .i64 t.at_) ∧ Below w.heap.size w wr) (fun i _ => L - (intOf i).toNat)
        case atStart => exact ⟨0, Nat.zero_le _, rfl, H0, hB1, hal1⟩
        case round =>
          obtain ⟨k, hk, rfl, HD, hBx, hBr⟩ := hrel
          clear H0 x0 x1 x2 x3 x4
          obtain ⟨x0, x1, x2, x3, x4⟩ := hBx.cells
          have hnr := Nat.le_trans hn hBr.size
          by_cases hlt : k < L
          · obtain ⟨y, hy⟩ := someS (l := t.kids) (k := k) (by rw [← HL.out]; exact hlt)
            obtain ⟨g, off, ka0, kc0, na0, nc0, rfl, hg, hxx, c0, c1, c2, c3, c4⟩ := (HK.out.all (hBr.mono hn)).at hy
            have hby : blk y < blk t := blk_kid (List.mem_of_getElem? hy)
            have HS0 : (okF f 4 y && (t.kids.drop (k + 1)).all (okF f 4)) = r := by rw [← HD.out]; exact (all_drop _ hy).symm
            rw [okF_eq (by omega), eqB_eq] at HS0
            have HS : Hid (_ = _) := HS0
            obtain ⟨LY, hLY⟩ : ∃ LY, LY = y.kids.length := ⟨_, rfl⟩
            rw [← hLY] at hxx c2
            have HLY : Hid ((y.kids.isEmpty = true → LY = 0) ∧ (y.kids.isEmpty = false → 0 < LY)) := ⟨fun h => by rw [hLY]; simpa using h, fun h => by rw [hLY]; cases hh : y.kids with | nil => rw [hh] at h; cases h | cons a l => simp⟩
            clear hLY
            clear HS0 HD hy
            have hal := below_alloc wr (.cells #[.int .i64 y.kind, .string (bs y.name), .slice ka0 LY kc0, .slice na0 y.names.length nc0, .int .i64 y.at_] 25)
            have hbx := bx_new wr (.int .i64 y.kind) (.string (bs y.name)) (.slice ka0 LY kc0) (.slice na0 y.names.length nc0) (.int .i64 y.at_)
            obtain ⟨wa, hwa⟩ : ∃ wa, wa = wr.alloc (.cells #[.int .i64 y.kind, .string (bs y.name), .slice ka0 LY kc0, .slice na0 y.names.length nc0, .int .i64 y.at_] 25) := ⟨_, rfl⟩
            have hNy := hxx.names
            rw [← hwa] at hal hbx
            have Hwa : Hid (_ = _) := hwa
            obtain ⟨b0, b1, b2, b3, b4⟩ := hbx.cells
            clear hwa
            by_cases hq0 : y.kind = 13
            · have k13 : (y.kind != 13) = false := by rw [hq0]; rfl
              rw [decide_eq_true hq0] at HS
              clear hq0
              cases hq1 : y.kids.isEmpty
              · rw [hq1] at HS
                have hpk : 0 < LY := HLY.out.2 hq1
                clear hq1
                go_wp2_with fail
                go_ret
                exact ⟨ret_bool (by have h9 := HS.out; simpa using h9), (by rw [← Hwa.out]; exact (chain hBr hal))⟩
              · rw [hq1] at HS
                obtain rfl : LY = 0 := HLY.out.1 hq1
                clear hq1
                cases hq2 : nameB y.name
                · rw [hq2] at HS
                  go_wp2_with fail
                  rw [← Hwa.out]
                  have cc := rNamed_any y.name wa (by have := blk_name y; omega)
                  rw [hq2] at cc
                  refine cc.mono ?_
                  rintro e w3 ⟨rfl, hb3⟩
                  clear cc
                  have hbx3 := hbx.blw hb3
                  clear b0 b1 b2 b3 b4
                  obtain ⟨b0, b1, b2, b3, b4⟩ := hbx3.cells
                  go_wp2_with fail
                  go_ret
                  exact ⟨ret_bool (by have h9 := HS.out; simpa using h9), (chain (chain hBr hal) hb3)⟩
                · rw [hq2] at HS
                  by_cases hq3 : y.names.length = 1
                  · obtain ⟨d, hd⟩ : ∃ d, y.names = [d] := List.length_eq_one_iff.1 hq3
                    obtain ⟨gn, on, rfl, hgn, cn⟩ := hNy.at (j := 0) (x := d) (by rw [hd]; rfl)
                    simp only [Nat.add_zero] at cn
                    have hl1 : ((y.names.length : Int) != 1) = false := by rw [hq3]; rfl
                    have hpn : 0 < y.names.length := by omega
                    have hd0 : y.names.headD [] = d := by rw [hd]; rfl
                    rw [decide_eq_true hq3, hd0] at HS
                    have q48 := bs_beqS d [48]
                    have q49 := bs_beqS d [49]
                    clear hd hq3 hd0 hNy
                    cases hq4 : decide (d = [48])
                    · rw [hq4] at HS q48
                      clear hq4
                      cases hq5 : decide (d = [49])
                      · rw [hq5] at HS q49
                        clear hq5
                        go_wp2_with fail
                        rw [← Hwa.out]
                        have cc := rNamed_any y.name wa (by have := blk_name y; omega)
                        rw [hq2] at cc
                        refine cc.mono ?_
                        rintro e w3 ⟨rfl, hb3⟩
                        clear cc
                        have hbx3 := hbx.blw hb3
                        clear b0 b1 b2 b3 b4
                        obtain ⟨b0, b1, b2, b3, b4⟩ := hbx3.cells
                        have cn3 := ((hal.trans (hb3.mono hal.size)).cell (p := ⟨gn, on, none⟩) (by show gn < _; omega)).trans cn
                        go_wp2_with fail
                        go_ret
                        exact ⟨ret_bool (by have h9 := HS.out; simpa using h9), (chain (chain hBr hal) hb3)⟩
                      · rw [hq5] at HS q49
                        clear hq5
                        go_wp2_with fail
                        rw [← Hwa.out]
                        have cc := rNamed_any y.name wa (by have := blk_name y; omega)
                        rw [hq2] at cc
                        refine cc.mono ?_
                        rintro e w3 ⟨rfl, hb3⟩
                        clear cc
                        have hbx3 := hbx.blw hb3
                        clear b0 b1 b2 b3 b4
                        obtain ⟨b0, b1, b2, b3, b4⟩ := hbx3.cells
                        have cn3 := ((hal.trans (hb3.mono hal.size)).cell (p := ⟨gn, on, none⟩) (by show gn < _; omega)).trans cn
                        go_wp2_with fail
                        go_roundw
                        case rel => exact ⟨k + 1, by omega, by go_num, (by have h9 := HS.out; simpa using h9 : (t.kids.drop (k + 1)).all (okF f 4) = r), hBx.blw (chain hal hb3), (chain (chain hBr hal) hb3)⟩
                        case measure => simp [intOf]; omega
                    · rw [hq4] at HS q48
                      clear hq4
                      go_wp2_with fail
                      rw [← Hwa.out]
                      have cc := rNamed_any y.name wa (by have := blk_name y; omega)
                      rw [hq2] at cc
                      refine cc.mono ?_
                      rintro e w3 ⟨rfl, hb3⟩
                      clear cc
                      have hbx3 := hbx.blw hb3
                      clear b0 b1 b2 b3 b4
                      obtain ⟨b0, b1, b2, b3, b4⟩ := hbx3.cells
                      have cn3 := ((hal.trans (hb3.mono hal.size)).cell (p := ⟨gn, on, none⟩) (by show gn < _; omega)).trans cn
                      go_wp2_with fail
                      go_roundw
                      case rel => exact ⟨k + 1, by omega, by go_num, (by have h9 := HS.out; simpa using h9 : (t.kids.drop (k + 1)).all (okF f 4) = r), hBx.blw (chain hal hb3), (chain (chain hBr hal) hb3)⟩
                      case measure => simp [intOf]; omega
                  · have hl1 : ((y.names.length : Int) != 1) = true := by simp only [bne_iff_ne]; omega
                    rw [decide_eq_false hq3] at HS
                    clear hq3
                    go_wp2_with fail
                    rw [← Hwa.out]
                    have cc := rNamed_any y.name wa (by have := blk_name y; omega)
                    rw [hq2] at cc
                    refine cc.mono ?_
                    rintro e w3 ⟨rfl, hb3⟩
                    clear cc
                    have hbx3 := hbx.blw hb3
                    clear b0 b1 b2 b3 b4
                    obtain ⟨b0, b1, b2, b3, b4⟩ := hbx3.cells
                    go_wp2_with fail
                    go_ret
                    exact ⟨ret_bool (by have h9 := HS.out; simpa using h9), (chain (chain hBr hal) hb3)⟩
            · have k13 : (y.kind != 13) = true := by simp [hq0]
              rw [decide_eq_false hq0] at HS
              clear hq0
              go_wp2_with fail
              go_ret
              exact ⟨ret_bool (by have h9 := HS.out; simpa using h9), (by rw [← Hwa.out]; exact (chain hBr hal))⟩
          · have hR : Hid (true = r) := by
              have h := HD.out
              rw [List.drop_of_length_le (by rw [← HL.out]; omega)] at h
              exact h
            clear HD
            go_wp2
            go_ret
            exact ⟨ret_bool hR.out, hBr⟩
      · have hp : (0 : Int) < (t.names.length : Int) := by have := List.length_pos_iff.2 hnm; omega
        have HR : Hid (false = r) := by rw [← hr, face_names (fun h => hnm h.2.2)]; rfl
        clear hr hnm hk hq1
        go_enter Try.func24, Try.ntmps24
        go_wp2_with fail
        go_ret
        exact ⟨ret_bool HR.out, by rw [← Hw1.out]; exact hal1⟩
  · have k12 : (t.kind != 12) = true := by simp [hk]
    have HR : Hid (false = r) := by rw [← hr, face_names (fun h => hk h.1)]; rfl
    clear hr hk
    go_enter Try.func24, Try.ntmps24
    go_wp2_with fail
    go_ret
    exact ⟨ret_bool HR.out, by rw [← Hw1.out]; exact hal1⟩
theorem rFace_any (f : Nat) : RFa f := by
  cases f with
  | zero => intro n t v w _ _ hb; have := blk_pos t; omega
  | succ f => exact rFace_step f

end Go.Proofs.Ytpfnjeefhddikaa
