/- Formulas' texts, by the document's answer: dims. -/
import Derived.Test.YtpfnjeefhddikaaRDims
namespace Go.Proofs.Ytpfnjeefhddikaa
open Go.RowKit
set_option linter.unusedVariables false
set_option linter.unusedSimpArgs false

def RDi (f : Nat) : Prop := ∀ (least n : Nat) (t : Sx) (v : Value) (w : World), least < 3 → okF f 1 t = true → blk t ≤ 65536 → SxIn n w t v → n ≤ w.heap.size → Calls Try.prog 34 #[v, .int .i64 (least : Nat)] w fun e w' => e = .returned (.string (bs (partF f (4 + least) t))) ∧ Below w.heap.size w w'

set_option maxRecDepth 100000 in
set_option maxHeartbeats 4000000 in
theorem dims_1_0 (f n : Nat) (IH : RDi f) (t : Sx) (v : Value) (w : World) (hok : okF (f + 1) 1 t = true) (hb : blk t ≤ 65536) (h : SxIn n w t v) (hn : n ≤ w.heap.size) (hk : t.kind = 1) : Calls Try.prog 34 #[v, .int .i64 0] w fun e w' => e = .returned (.string (bs (partF (f + 1) 4 t))) ∧ Below w.heap.size w w' := by
  obtain ⟨ka, kc, na, nc, rfl, hN, hK⟩ := h.form
  obtain ⟨w1, hw1⟩ : ∃ w1, w1 = w.alloc (.cells #[.int .i64 t.kind, .string (bs t.name), .slice ka t.kids.length kc, .slice na t.names.length nc, .int .i64 t.at_] 25) := ⟨_, rfl⟩
  have hal1 : Below w.heap.size w w1 := by rw [hw1]; exact below_alloc _ _
  have hB1 : Bx w1 w.heap.size (.int .i64 t.kind) (.string (bs t.name)) (.slice ka t.kids.length kc) (.slice na t.names.length nc) (.int .i64 t.at_) := by rw [hw1]; exact bx_new _ _ _ _ _ _
  have Hw1 : Hid (_ = _) := hw1
  clear hw1
  obtain ⟨x0, x1, x2, x3, x4⟩ := hB1.cells
  have hn1 := Nat.le_trans hn hal1.size
  have h1 := h.keep (hal1.mono hn)
  skip
  have HT0 : partF (f + 1) 4 t = t.name := by
    have e1 : needB t 4 = false := by unfold needB frontB lastP; rw [hk]; simp
    rw [show partF (f + 1) 4 t = (if needB t 4 then 40 :: (lineF (f + 1) t ++ [41]) else lineF (f + 1) t) from rfl, e1, if_neg (by simp), lineF_s]
    unfold lineR
    rw [if_pos (by omega)]
    all_goals (first | rfl | (rw [k0, k1]; rfl) | (rw [k0, k1]; simp; rfl) | (rw [k0]; rfl) | (rw [k0, k1]; simp))
  have HT : Hid (_ = _) := HT0
  clear HT0
  have HRk : Hid (rankF t.kind = 2) := by unfold rankF; rw [hk]; rfl
  have k16 : (t.kind == 16) = false := by rw [hk]; rfl
  have k15 : (t.kind == 15) = false := by rw [hk]; rfl
  have k14 : (t.kind == 14) = false := by rw [hk]; rfl
  clear hk
  go_enter Try.func34, Try.ntmps34
  go_wp2_with fail
  rw [← Hw1.out]
  clear Hw1
  have hal1b : Below n w1 w1 := Below.refl _ _
  have cR := rank_any n t _ w1 (h1.keep (hal1b))
  rw [show rankF t.kind = 2 from HRk.out] at cR
  refine cR.mono ?_
  rintro e w2 ⟨rfl, hb2⟩
  clear cR
  go_wp2_with fail
  go_ret
  exact ⟨by rw [HT.out]; rfl, chain hal1 hb2⟩

set_option maxRecDepth 100000 in
set_option maxHeartbeats 4000000 in
theorem dims_1_1 (f n : Nat) (IH : RDi f) (t : Sx) (v : Value) (w : World) (hok : okF (f + 1) 1 t = true) (hb : blk t ≤ 65536) (h : SxIn n w t v) (hn : n ≤ w.heap.size) (hk : t.kind = 1) : Calls Try.prog 34 #[v, .int .i64 1] w fun e w' => e = .returned (.string (bs (partF (f + 1) 5 t))) ∧ Below w.heap.size w w' := by
  obtain ⟨ka, kc, na, nc, rfl, hN, hK⟩ := h.form
  obtain ⟨w1, hw1⟩ : ∃ w1, w1 = w.alloc (.cells #[.int .i64 t.kind, .string (bs t.name), .slice ka t.kids.length kc, .slice na t.names.length nc, .int .i64 t.at_] 25) := ⟨_, rfl⟩
  have hal1 : Below w.heap.size w w1 := by rw [hw1]; exact below_alloc _ _
  have hB1 : Bx w1 w.heap.size (.int .i64 t.kind) (.string (bs t.name)) (.slice ka t.kids.length kc) (.slice na t.names.length nc) (.int .i64 t.at_) := by rw [hw1]; exact bx_new _ _ _ _ _ _
  have Hw1 : Hid (_ = _) := hw1
  clear hw1
  obtain ⟨x0, x1, x2, x3, x4⟩ := hB1.cells
  have hn1 := Nat.le_trans hn hal1.size
  have h1 := h.keep (hal1.mono hn)
  skip
  have HT0 : partF (f + 1) 5 t = t.name := by
    have e1 : needB t 5 = false := by unfold needB frontB lastP; rw [hk]; simp
    rw [show partF (f + 1) 5 t = (if needB t 5 then 40 :: (lineF (f + 1) t ++ [41]) else lineF (f + 1) t) from rfl, e1, if_neg (by simp), lineF_s]
    unfold lineR
    rw [if_pos (by omega)]
    all_goals (first | rfl | (rw [k0, k1]; rfl) | (rw [k0, k1]; simp; rfl) | (rw [k0]; rfl) | (rw [k0, k1]; simp))
  have HT : Hid (_ = _) := HT0
  clear HT0
  have HRk : Hid (rankF t.kind = 2) := by unfold rankF; rw [hk]; rfl
  have k16 : (t.kind == 16) = false := by rw [hk]; rfl
  have k15 : (t.kind == 15) = false := by rw [hk]; rfl
  have k14 : (t.kind == 14) = false := by rw [hk]; rfl
  clear hk
  go_enter Try.func34, Try.ntmps34
  go_wp2_with fail
  rw [← Hw1.out]
  clear Hw1
  have hal1b : Below n w1 w1 := Below.refl _ _
  have cR := rank_any n t _ w1 (h1.keep (hal1b))
  rw [show rankF t.kind = 2 from HRk.out] at cR
  refine cR.mono ?_
  rintro e w2 ⟨rfl, hb2⟩
  clear cR
  go_wp2_with fail
  go_ret
  exact ⟨by rw [HT.out]; rfl, chain hal1 hb2⟩

set_option maxRecDepth 100000 in
set_option maxHeartbeats 4000000 in
theorem dims_1_2 (f n : Nat) (IH : RDi f) (t : Sx) (v : Value) (w : World) (hok : okF (f + 1) 1 t = true) (hb : blk t ≤ 65536) (h : SxIn n w t v) (hn : n ≤ w.heap.size) (hk : t.kind = 1) : Calls Try.prog 34 #[v, .int .i64 2] w fun e w' => e = .returned (.string (bs (partF (f + 1) 6 t))) ∧ Below w.heap.size w w' := by
  obtain ⟨ka, kc, na, nc, rfl, hN, hK⟩ := h.form
  obtain ⟨w1, hw1⟩ : ∃ w1, w1 = w.alloc (.cells #[.int .i64 t.kind, .string (bs t.name), .slice ka t.kids.length kc, .slice na t.names.length nc, .int .i64 t.at_] 25) := ⟨_, rfl⟩
  have hal1 : Below w.heap.size w w1 := by rw [hw1]; exact below_alloc _ _
  have hB1 : Bx w1 w.heap.size (.int .i64 t.kind) (.string (bs t.name)) (.slice ka t.kids.length kc) (.slice na t.names.length nc) (.int .i64 t.at_) := by rw [hw1]; exact bx_new _ _ _ _ _ _
  have Hw1 : Hid (_ = _) := hw1
  clear hw1
  obtain ⟨x0, x1, x2, x3, x4⟩ := hB1.cells
  have hn1 := Nat.le_trans hn hal1.size
  have h1 := h.keep (hal1.mono hn)
  skip
  have HT0 : partF (f + 1) 6 t = t.name := by
    have e1 : needB t 6 = false := by unfold needB frontB lastP; rw [hk]; simp
    rw [show partF (f + 1) 6 t = (if needB t 6 then 40 :: (lineF (f + 1) t ++ [41]) else lineF (f + 1) t) from rfl, e1, if_neg (by simp), lineF_s]
    unfold lineR
    rw [if_pos (by omega)]
    all_goals (first | rfl | (rw [k0, k1]; rfl) | (rw [k0, k1]; simp; rfl) | (rw [k0]; rfl) | (rw [k0, k1]; simp))
  have HT : Hid (_ = _) := HT0
  clear HT0
  have HRk : Hid (rankF t.kind = 2) := by unfold rankF; rw [hk]; rfl
  have k16 : (t.kind == 16) = false := by rw [hk]; rfl
  have k15 : (t.kind == 15) = false := by rw [hk]; rfl
  have k14 : (t.kind == 14) = false := by rw [hk]; rfl
  clear hk
  go_enter Try.func34, Try.ntmps34
  go_wp2_with fail
  rw [← Hw1.out]
  clear Hw1
  have hal1b : Below n w1 w1 := Below.refl _ _
  have cR := rank_any n t _ w1 (h1.keep (hal1b))
  rw [show rankF t.kind = 2 from HRk.out] at cR
  refine cR.mono ?_
  rintro e w2 ⟨rfl, hb2⟩
  clear cR
  go_wp2_with fail
  go_ret
  exact ⟨by rw [HT.out]; rfl, chain hal1 hb2⟩

set_option maxRecDepth 100000 in
set_option maxHeartbeats 4000000 in
theorem dims_17_0 (f n : Nat) (IH : RDi f) (t : Sx) (v : Value) (w : World) (hok : okF (f + 1) 1 t = true) (hb : blk t ≤ 65536) (h : SxIn n w t v) (hn : n ≤ w.heap.size) (hk : t.kind = 17) : Calls Try.prog 34 #[v, .int .i64 0] w fun e w' => e = .returned (.string (bs (partF (f + 1) 4 t))) ∧ Below w.heap.size w w' := by
  obtain ⟨ka, kc, na, nc, rfl, hN, hK⟩ := h.form
  obtain ⟨w1, hw1⟩ : ∃ w1, w1 = w.alloc (.cells #[.int .i64 t.kind, .string (bs t.name), .slice ka t.kids.length kc, .slice na t.names.length nc, .int .i64 t.at_] 25) := ⟨_, rfl⟩
  have hal1 : Below w.heap.size w w1 := by rw [hw1]; exact below_alloc _ _
  have hB1 : Bx w1 w.heap.size (.int .i64 t.kind) (.string (bs t.name)) (.slice ka t.kids.length kc) (.slice na t.names.length nc) (.int .i64 t.at_) := by rw [hw1]; exact bx_new _ _ _ _ _ _
  have Hw1 : Hid (_ = _) := hw1
  clear hw1
  obtain ⟨x0, x1, x2, x3, x4⟩ := hB1.cells
  have hn1 := Nat.le_trans hn hal1.size
  have h1 := h.keep (hal1.mono hn)
  skip
  have HT0 : partF (f + 1) 4 t = t.name := by
    have e1 : needB t 4 = false := by unfold needB frontB lastP; rw [hk]; simp
    rw [show partF (f + 1) 4 t = (if needB t 4 then 40 :: (lineF (f + 1) t ++ [41]) else lineF (f + 1) t) from rfl, e1, if_neg (by simp), lineF_s]
    unfold lineR
    rw [if_pos (by omega)]
    all_goals (first | rfl | (rw [k0, k1]; rfl) | (rw [k0, k1]; simp; rfl) | (rw [k0]; rfl) | (rw [k0, k1]; simp))
  have HT : Hid (_ = _) := HT0
  clear HT0
  have HRk : Hid (rankF t.kind = 2) := by unfold rankF; rw [hk]; rfl
  have k16 : (t.kind == 16) = false := by rw [hk]; rfl
  have k15 : (t.kind == 15) = false := by rw [hk]; rfl
  have k14 : (t.kind == 14) = false := by rw [hk]; rfl
  clear hk
  go_enter Try.func34, Try.ntmps34
  go_wp2_with fail
  rw [← Hw1.out]
  clear Hw1
  have hal1b : Below n w1 w1 := Below.refl _ _
  have cR := rank_any n t _ w1 (h1.keep (hal1b))
  rw [show rankF t.kind = 2 from HRk.out] at cR
  refine cR.mono ?_
  rintro e w2 ⟨rfl, hb2⟩
  clear cR
  go_wp2_with fail
  go_ret
  exact ⟨by rw [HT.out]; rfl, chain hal1 hb2⟩

set_option maxRecDepth 100000 in
set_option maxHeartbeats 4000000 in
theorem dims_17_1 (f n : Nat) (IH : RDi f) (t : Sx) (v : Value) (w : World) (hok : okF (f + 1) 1 t = true) (hb : blk t ≤ 65536) (h : SxIn n w t v) (hn : n ≤ w.heap.size) (hk : t.kind = 17) : Calls Try.prog 34 #[v, .int .i64 1] w fun e w' => e = .returned (.string (bs (partF (f + 1) 5 t))) ∧ Below w.heap.size w w' := by
  obtain ⟨ka, kc, na, nc, rfl, hN, hK⟩ := h.form
  obtain ⟨w1, hw1⟩ : ∃ w1, w1 = w.alloc (.cells #[.int .i64 t.kind, .string (bs t.name), .slice ka t.kids.length kc, .slice na t.names.length nc, .int .i64 t.at_] 25) := ⟨_, rfl⟩
  have hal1 : Below w.heap.size w w1 := by rw [hw1]; exact below_alloc _ _
  have hB1 : Bx w1 w.heap.size (.int .i64 t.kind) (.string (bs t.name)) (.slice ka t.kids.length kc) (.slice na t.names.length nc) (.int .i64 t.at_) := by rw [hw1]; exact bx_new _ _ _ _ _ _
  have Hw1 : Hid (_ = _) := hw1
  clear hw1
  obtain ⟨x0, x1, x2, x3, x4⟩ := hB1.cells
  have hn1 := Nat.le_trans hn hal1.size
  have h1 := h.keep (hal1.mono hn)
  skip
  have HT0 : partF (f + 1) 5 t = t.name := by
    have e1 : needB t 5 = false := by unfold needB frontB lastP; rw [hk]; simp
    rw [show partF (f + 1) 5 t = (if needB t 5 then 40 :: (lineF (f + 1) t ++ [41]) else lineF (f + 1) t) from rfl, e1, if_neg (by simp), lineF_s]
    unfold lineR
    rw [if_pos (by omega)]
    all_goals (first | rfl | (rw [k0, k1]; rfl) | (rw [k0, k1]; simp; rfl) | (rw [k0]; rfl) | (rw [k0, k1]; simp))
  have HT : Hid (_ = _) := HT0
  clear HT0
  have HRk : Hid (rankF t.kind = 2) := by unfold rankF; rw [hk]; rfl
  have k16 : (t.kind == 16) = false := by rw [hk]; rfl
  have k15 : (t.kind == 15) = false := by rw [hk]; rfl
  have k14 : (t.kind == 14) = false := by rw [hk]; rfl
  clear hk
  go_enter Try.func34, Try.ntmps34
  go_wp2_with fail
  rw [← Hw1.out]
  clear Hw1
  have hal1b : Below n w1 w1 := Below.refl _ _
  have cR := rank_any n t _ w1 (h1.keep (hal1b))
  rw [show rankF t.kind = 2 from HRk.out] at cR
  refine cR.mono ?_
  rintro e w2 ⟨rfl, hb2⟩
  clear cR
  go_wp2_with fail
  go_ret
  exact ⟨by rw [HT.out]; rfl, chain hal1 hb2⟩

set_option maxRecDepth 100000 in
set_option maxHeartbeats 4000000 in
theorem dims_17_2 (f n : Nat) (IH : RDi f) (t : Sx) (v : Value) (w : World) (hok : okF (f + 1) 1 t = true) (hb : blk t ≤ 65536) (h : SxIn n w t v) (hn : n ≤ w.heap.size) (hk : t.kind = 17) : Calls Try.prog 34 #[v, .int .i64 2] w fun e w' => e = .returned (.string (bs (partF (f + 1) 6 t))) ∧ Below w.heap.size w w' := by
  obtain ⟨ka, kc, na, nc, rfl, hN, hK⟩ := h.form
  obtain ⟨w1, hw1⟩ : ∃ w1, w1 = w.alloc (.cells #[.int .i64 t.kind, .string (bs t.name), .slice ka t.kids.length kc, .slice na t.names.length nc, .int .i64 t.at_] 25) := ⟨_, rfl⟩
  have hal1 : Below w.heap.size w w1 := by rw [hw1]; exact below_alloc _ _
  have hB1 : Bx w1 w.heap.size (.int .i64 t.kind) (.string (bs t.name)) (.slice ka t.kids.length kc) (.slice na t.names.length nc) (.int .i64 t.at_) := by rw [hw1]; exact bx_new _ _ _ _ _ _
  have Hw1 : Hid (_ = _) := hw1
  clear hw1
  obtain ⟨x0, x1, x2, x3, x4⟩ := hB1.cells
  have hn1 := Nat.le_trans hn hal1.size
  have h1 := h.keep (hal1.mono hn)
  skip
  have HT0 : partF (f + 1) 6 t = t.name := by
    have e1 : needB t 6 = false := by unfold needB frontB lastP; rw [hk]; simp
    rw [show partF (f + 1) 6 t = (if needB t 6 then 40 :: (lineF (f + 1) t ++ [41]) else lineF (f + 1) t) from rfl, e1, if_neg (by simp), lineF_s]
    unfold lineR
    rw [if_pos (by omega)]
    all_goals (first | rfl | (rw [k0, k1]; rfl) | (rw [k0, k1]; simp; rfl) | (rw [k0]; rfl) | (rw [k0, k1]; simp))
  have HT : Hid (_ = _) := HT0
  clear HT0
  have HRk : Hid (rankF t.kind = 2) := by unfold rankF; rw [hk]; rfl
  have k16 : (t.kind == 16) = false := by rw [hk]; rfl
  have k15 : (t.kind == 15) = false := by rw [hk]; rfl
  have k14 : (t.kind == 14) = false := by rw [hk]; rfl
  clear hk
  go_enter Try.func34, Try.ntmps34
  go_wp2_with fail
  rw [← Hw1.out]
  clear Hw1
  have hal1b : Below n w1 w1 := Below.refl _ _
  have cR := rank_any n t _ w1 (h1.keep (hal1b))
  rw [show rankF t.kind = 2 from HRk.out] at cR
  refine cR.mono ?_
  rintro e w2 ⟨rfl, hb2⟩
  clear cR
  go_wp2_with fail
  go_ret
  exact ⟨by rw [HT.out]; rfl, chain hal1 hb2⟩

set_option maxRecDepth 100000 in
set_option maxHeartbeats 4000000 in
theorem dims_16_0 (f n : Nat) (IH : RDi f) (t : Sx) (v : Value) (w : World) (hok : okF (f + 1) 1 t = true) (hb : blk t ≤ 65536) (h : SxIn n w t v) (hn : n ≤ w.heap.size) (hk : t.kind = 16) : Calls Try.prog 34 #[v, .int .i64 0] w fun e w' => e = .returned (.string (bs (partF (f + 1) 4 t))) ∧ Below w.heap.size w w' := by
  obtain ⟨ka, kc, na, nc, rfl, hN, hK⟩ := h.form
  obtain ⟨w1, hw1⟩ : ∃ w1, w1 = w.alloc (.cells #[.int .i64 t.kind, .string (bs t.name), .slice ka t.kids.length kc, .slice na t.names.length nc, .int .i64 t.at_] 25) := ⟨_, rfl⟩
  have hal1 : Below w.heap.size w w1 := by rw [hw1]; exact below_alloc _ _
  have hB1 : Bx w1 w.heap.size (.int .i64 t.kind) (.string (bs t.name)) (.slice ka t.kids.length kc) (.slice na t.names.length nc) (.int .i64 t.at_) := by rw [hw1]; exact bx_new _ _ _ _ _ _
  have Hw1 : Hid (_ = _) := hw1
  clear hw1
  obtain ⟨x0, x1, x2, x3, x4⟩ := hB1.cells
  have hn1 := Nat.le_trans hn hal1.size
  have h1 := h.keep (hal1.mono hn)
  obtain ⟨a, hl, hoa⟩ := (parts_dim hok).not hk
  have k0 : kd t 0 = a := by rw [kd_kids hl]; rfl
  obtain ⟨g, off, ka0, kc0, na0, nc0, rfl, hg, hxx0, c00, c01, c02, c03, c04⟩ := hK.at (j := 0) (x := a) (by rw [hl]; rfl)
  simp only [Nat.zero_mul, Nat.add_zero] at c00 c01 c02 c03 c04
  have hp0 : 0 < t.kids.length := by rw [hl]; simp
  have hba : blk a < blk t := blk_kid (by rw [hl]; simp)
  have HT0 : partF (f + 1) 4 t = [126] ++ partF f 6 a := by
    have e1 : needB t 4 = false := by unfold needB frontB lastP; rw [hk]; simp
    rw [show partF (f + 1) 4 t = (if needB t 4 then 40 :: (lineF (f + 1) t ++ [41]) else lineF (f + 1) t) from rfl, e1, if_neg (by simp), lineF_s]
    unfold lineR
    rw [if_neg (by omega), if_neg (by omega), if_neg (by omega), if_neg (by omega), if_neg (by omega), if_neg (by omega), if_neg (by omega), if_neg (by omega), if_neg (by omega), if_neg (by omega), if_neg (by omega), if_neg (by omega), if_neg (by omega), if_neg (by omega), if_neg (by omega), if_pos (by omega)]
    all_goals (first | rfl | (rw [k0, k1]; rfl) | (rw [k0, k1]; simp; rfl) | (rw [k0]; rfl) | (rw [k0, k1]; simp))
  have HT : Hid (_ = _) := HT0
  clear HT0
  have HRk : Hid (rankF t.kind = 2) := by unfold rankF; rw [hk]; rfl
  have k16 : (t.kind == 16) = true := by rw [hk]; rfl
  have k15 : (t.kind == 15) = false := by rw [hk]; rfl
  have k14 : (t.kind == 14) = false := by rw [hk]; rfl
  clear hk
  have d00 := (hal1.cell (p := ⟨g, off, none⟩) (by show g < _; omega)).trans c00
  have r00 := d00
  rw [Hw1.out] at r00
  have d01 := (hal1.cell (p := ⟨g, off + 1, none⟩) (by show g < _; omega)).trans c01
  have r01 := d01
  rw [Hw1.out] at r01
  have d02 := (hal1.cell (p := ⟨g, off + 2, none⟩) (by show g < _; omega)).trans c02
  have r02 := d02
  rw [Hw1.out] at r02
  have d03 := (hal1.cell (p := ⟨g, off + 3, none⟩) (by show g < _; omega)).trans c03
  have r03 := d03
  rw [Hw1.out] at r03
  have d04 := (hal1.cell (p := ⟨g, off + 4, none⟩) (by show g < _; omega)).trans c04
  have r04 := d04
  rw [Hw1.out] at r04
  clear hl
  go_enter Try.func34, Try.ntmps34
  go_wp2_with fail
  rw [← Hw1.out]
  clear Hw1
  have cc := IH 2 n a _ w1 (by omega) hoa (by omega) (hxx0.keep (hal1.mono hn)) hn1
  refine cc.mono ?_
  rintro e w2 ⟨rfl, hb2⟩
  clear cc
  have hal2 := chain hal1 hb2
  have hB2 := hB1.blw hb2
  clear x0 x1 x2 x3 x4
  obtain ⟨x0, x1, x2, x3, x4⟩ := hB2.cells
  have hal1b := hb2.mono hn1
  have hla := partF_len f 6 a
  have ad1 := add_bs [126] (partF f 6 a) (by rw [List.length_cons, List.length_nil]; omega)
  go_wp2_with (refine wp_add rfl _ _ rfl _ _ _ rfl rfl ad1 ?_)
  have cR := rank_any n t _ w2 (h1.keep (hal1b))
  rw [show rankF t.kind = 2 from HRk.out] at cR
  refine cR.mono ?_
  rintro e w3 ⟨rfl, hb3⟩
  clear cR
  go_wp2_with fail
  go_ret
  exact ⟨by rw [HT.out]; rfl, chain hal2 hb3⟩

set_option maxRecDepth 100000 in
set_option maxHeartbeats 4000000 in
theorem dims_16_1 (f n : Nat) (IH : RDi f) (t : Sx) (v : Value) (w : World) (hok : okF (f + 1) 1 t = true) (hb : blk t ≤ 65536) (h : SxIn n w t v) (hn : n ≤ w.heap.size) (hk : t.kind = 16) : Calls Try.prog 34 #[v, .int .i64 1] w fun e w' => e = .returned (.string (bs (partF (f + 1) 5 t))) ∧ Below w.heap.size w w' := by
  obtain ⟨ka, kc, na, nc, rfl, hN, hK⟩ := h.form
  obtain ⟨w1, hw1⟩ : ∃ w1, w1 = w.alloc (.cells #[.int .i64 t.kind, .string (bs t.name), .slice ka t.kids.length kc, .slice na t.names.length nc, .int .i64 t.at_] 25) := ⟨_, rfl⟩
  have hal1 : Below w.heap.size w w1 := by rw [hw1]; exact below_alloc _ _
  have hB1 : Bx w1 w.heap.size (.int .i64 t.kind) (.string (bs t.name)) (.slice ka t.kids.length kc) (.slice na t.names.length nc) (.int .i64 t.at_) := by rw [hw1]; exact bx_new _ _ _ _ _ _
  have Hw1 : Hid (_ = _) := hw1
  clear hw1
  obtain ⟨x0, x1, x2, x3, x4⟩ := hB1.cells
  have hn1 := Nat.le_trans hn hal1.size
  have h1 := h.keep (hal1.mono hn)
  obtain ⟨a, hl, hoa⟩ := (parts_dim hok).not hk
  have k0 : kd t 0 = a := by rw [kd_kids hl]; rfl
  obtain ⟨g, off, ka0, kc0, na0, nc0, rfl, hg, hxx0, c00, c01, c02, c03, c04⟩ := hK.at (j := 0) (x := a) (by rw [hl]; rfl)
  simp only [Nat.zero_mul, Nat.add_zero] at c00 c01 c02 c03 c04
  have hp0 : 0 < t.kids.length := by rw [hl]; simp
  have hba : blk a < blk t := blk_kid (by rw [hl]; simp)
  have HT0 : partF (f + 1) 5 t = [126] ++ partF f 6 a := by
    have e1 : needB t 5 = false := by unfold needB frontB lastP; rw [hk]; simp
    rw [show partF (f + 1) 5 t = (if needB t 5 then 40 :: (lineF (f + 1) t ++ [41]) else lineF (f + 1) t) from rfl, e1, if_neg (by simp), lineF_s]
    unfold lineR
    rw [if_neg (by omega), if_neg (by omega), if_neg (by omega), if_neg (by omega), if_neg (by omega), if_neg (by omega), if_neg (by omega), if_neg (by omega), if_neg (by omega), if_neg (by omega), if_neg (by omega), if_neg (by omega), if_neg (by omega), if_neg (by omega), if_neg (by omega), if_pos (by omega)]
    all_goals (first | rfl | (rw [k0, k1]; rfl) | (rw [k0, k1]; simp; rfl) | (rw [k0]; rfl) | (rw [k0, k1]; simp))
  have HT : Hid (_ = _) := HT0
  clear HT0
  have HRk : Hid (rankF t.kind = 2) := by unfold rankF; rw [hk]; rfl
  have k16 : (t.kind == 16) = true := by rw [hk]; rfl
  have k15 : (t.kind == 15) = false := by rw [hk]; rfl
  have k14 : (t.kind == 14) = false := by rw [hk]; rfl
  clear hk
  have d00 := (hal1.cell (p := ⟨g, off, none⟩) (by show g < _; omega)).trans c00
  have r00 := d00
  rw [Hw1.out] at r00
  have d01 := (hal1.cell (p := ⟨g, off + 1, none⟩) (by show g < _; omega)).trans c01
  have r01 := d01
  rw [Hw1.out] at r01
  have d02 := (hal1.cell (p := ⟨g, off + 2, none⟩) (by show g < _; omega)).trans c02
  have r02 := d02
  rw [Hw1.out] at r02
  have d03 := (hal1.cell (p := ⟨g, off + 3, none⟩) (by show g < _; omega)).trans c03
  have r03 := d03
  rw [Hw1.out] at r03
  have d04 := (hal1.cell (p := ⟨g, off + 4, none⟩) (by show g < _; omega)).trans c04
  have r04 := d04
  rw [Hw1.out] at r04
  clear hl
  go_enter Try.func34, Try.ntmps34
  go_wp2_with fail
  rw [← Hw1.out]
  clear Hw1
  have cc := IH 2 n a _ w1 (by omega) hoa (by omega) (hxx0.keep (hal1.mono hn)) hn1
  refine cc.mono ?_
  rintro e w2 ⟨rfl, hb2⟩
  clear cc
  have hal2 := chain hal1 hb2
  have hB2 := hB1.blw hb2
  clear x0 x1 x2 x3 x4
  obtain ⟨x0, x1, x2, x3, x4⟩ := hB2.cells
  have hal1b := hb2.mono hn1
  have hla := partF_len f 6 a
  have ad1 := add_bs [126] (partF f 6 a) (by rw [List.length_cons, List.length_nil]; omega)
  go_wp2_with (refine wp_add rfl _ _ rfl _ _ _ rfl rfl ad1 ?_)
  have cR := rank_any n t _ w2 (h1.keep (hal1b))
  rw [show rankF t.kind = 2 from HRk.out] at cR
  refine cR.mono ?_
  rintro e w3 ⟨rfl, hb3⟩
  clear cR
  go_wp2_with fail
  go_ret
  exact ⟨by rw [HT.out]; rfl, chain hal2 hb3⟩

set_option maxRecDepth 100000 in
set_option maxHeartbeats 4000000 in
theorem dims_16_2 (f n : Nat) (IH : RDi f) (t : Sx) (v : Value) (w : World) (hok : okF (f + 1) 1 t = true) (hb : blk t ≤ 65536) (h : SxIn n w t v) (hn : n ≤ w.heap.size) (hk : t.kind = 16) : Calls Try.prog 34 #[v, .int .i64 2] w fun e w' => e = .returned (.string (bs (partF (f + 1) 6 t))) ∧ Below w.heap.size w w' := by
  obtain ⟨ka, kc, na, nc, rfl, hN, hK⟩ := h.form
  obtain ⟨w1, hw1⟩ : ∃ w1, w1 = w.alloc (.cells #[.int .i64 t.kind, .string (bs t.name), .slice ka t.kids.length kc, .slice na t.names.length nc, .int .i64 t.at_] 25) := ⟨_, rfl⟩
  have hal1 : Below w.heap.size w w1 := by rw [hw1]; exact below_alloc _ _
  have hB1 : Bx w1 w.heap.size (.int .i64 t.kind) (.string (bs t.name)) (.slice ka t.kids.length kc) (.slice na t.names.length nc) (.int .i64 t.at_) := by rw [hw1]; exact bx_new _ _ _ _ _ _
  have Hw1 : Hid (_ = _) := hw1
  clear hw1
  obtain ⟨x0, x1, x2, x3, x4⟩ := hB1.cells
  have hn1 := Nat.le_trans hn hal1.size
  have h1 := h.keep (hal1.mono hn)
  obtain ⟨a, hl, hoa⟩ := (parts_dim hok).not hk
  have k0 : kd t 0 = a := by rw [kd_kids hl]; rfl
  obtain ⟨g, off, ka0, kc0, na0, nc0, rfl, hg, hxx0, c00, c01, c02, c03, c04⟩ := hK.at (j := 0) (x := a) (by rw [hl]; rfl)
  simp only [Nat.zero_mul, Nat.add_zero] at c00 c01 c02 c03 c04
  have hp0 : 0 < t.kids.length := by rw [hl]; simp
  have hba : blk a < blk t := blk_kid (by rw [hl]; simp)
  have HT0 : partF (f + 1) 6 t = [126] ++ partF f 6 a := by
    have e1 : needB t 6 = false := by unfold needB frontB lastP; rw [hk]; simp
    rw [show partF (f + 1) 6 t = (if needB t 6 then 40 :: (lineF (f + 1) t ++ [41]) else lineF (f + 1) t) from rfl, e1, if_neg (by simp), lineF_s]
    unfold lineR
    rw [if_neg (by omega), if_neg (by omega), if_neg (by omega), if_neg (by omega), if_neg (by omega), if_neg (by omega), if_neg (by omega), if_neg (by omega), if_neg (by omega), if_neg (by omega), if_neg (by omega), if_neg (by omega), if_neg (by omega), if_neg (by omega), if_neg (by omega), if_pos (by omega)]
    all_goals (first | rfl | (rw [k0, k1]; rfl) | (rw [k0, k1]; simp; rfl) | (rw [k0]; rfl) | (rw [k0, k1]; simp))
  have HT : Hid (_ = _) := HT0
  clear HT0
  have HRk : Hid (rankF t.kind = 2) := by unfold rankF; rw [hk]; rfl
  have k16 : (t.kind == 16) = true := by rw [hk]; rfl
  have k15 : (t.kind == 15) = false := by rw [hk]; rfl
  have k14 : (t.kind == 14) = false := by rw [hk]; rfl
  clear hk
  have d00 := (hal1.cell (p := ⟨g, off, none⟩) (by show g < _; omega)).trans c00
  have r00 := d00
  rw [Hw1.out] at r00
  have d01 := (hal1.cell (p := ⟨g, off + 1, none⟩) (by show g < _; omega)).trans c01
  have r01 := d01
  rw [Hw1.out] at r01
  have d02 := (hal1.cell (p := ⟨g, off + 2, none⟩) (by show g < _; omega)).trans c02
  have r02 := d02
  rw [Hw1.out] at r02
  have d03 := (hal1.cell (p := ⟨g, off + 3, none⟩) (by show g < _; omega)).trans c03
  have r03 := d03
  rw [Hw1.out] at r03
  have d04 := (hal1.cell (p := ⟨g, off + 4, none⟩) (by show g < _; omega)).trans c04
  have r04 := d04
  rw [Hw1.out] at r04
  clear hl
  go_enter Try.func34, Try.ntmps34
  go_wp2_with fail
  rw [← Hw1.out]
  clear Hw1
  have cc := IH 2 n a _ w1 (by omega) hoa (by omega) (hxx0.keep (hal1.mono hn)) hn1
  refine cc.mono ?_
  rintro e w2 ⟨rfl, hb2⟩
  clear cc
  have hal2 := chain hal1 hb2
  have hB2 := hB1.blw hb2
  clear x0 x1 x2 x3 x4
  obtain ⟨x0, x1, x2, x3, x4⟩ := hB2.cells
  have hal1b := hb2.mono hn1
  have hla := partF_len f 6 a
  have ad1 := add_bs [126] (partF f 6 a) (by rw [List.length_cons, List.length_nil]; omega)
  go_wp2_with (refine wp_add rfl _ _ rfl _ _ _ rfl rfl ad1 ?_)
  have cR := rank_any n t _ w2 (h1.keep (hal1b))
  rw [show rankF t.kind = 2 from HRk.out] at cR
  refine cR.mono ?_
  rintro e w3 ⟨rfl, hb3⟩
  clear cR
  go_wp2_with fail
  go_ret
  exact ⟨by rw [HT.out]; rfl, chain hal2 hb3⟩

set_option maxRecDepth 100000 in
set_option maxHeartbeats 4000000 in
theorem dims_15_0 (f n : Nat) (IH : RDi f) (t : Sx) (v : Value) (w : World) (hok : okF (f + 1) 1 t = true) (hb : blk t ≤ 65536) (h : SxIn n w t v) (hn : n ≤ w.heap.size) (hk : t.kind = 15) : Calls Try.prog 34 #[v, .int .i64 0] w fun e w' => e = .returned (.string (bs (partF (f + 1) 4 t))) ∧ Below w.heap.size w w' := by
  obtain ⟨ka, kc, na, nc, rfl, hN, hK⟩ := h.form
  obtain ⟨w1, hw1⟩ : ∃ w1, w1 = w.alloc (.cells #[.int .i64 t.kind, .string (bs t.name), .slice ka t.kids.length kc, .slice na t.names.length nc, .int .i64 t.at_] 25) := ⟨_, rfl⟩
  have hal1 : Below w.heap.size w w1 := by rw [hw1]; exact below_alloc _ _
  have hB1 : Bx w1 w.heap.size (.int .i64 t.kind) (.string (bs t.name)) (.slice ka t.kids.length kc) (.slice na t.names.length nc) (.int .i64 t.at_) := by rw [hw1]; exact bx_new _ _ _ _ _ _
  have Hw1 : Hid (_ = _) := hw1
  clear hw1
  obtain ⟨x0, x1, x2, x3, x4⟩ := hB1.cells
  have hn1 := Nat.le_trans hn hal1.size
  have h1 := h.keep (hal1.mono hn)
  obtain ⟨a, c, hl, hoa, hoc⟩ := (parts_dim hok).dims (by omega)
  have k0 : kd t 0 = a := by rw [kd_kids hl]; rfl
  have k1 : kd t 1 = c := by rw [kd_kids hl]; rfl
  obtain ⟨g, off, ka0, kc0, na0, nc0, rfl, hg, hxx0, c00, c01, c02, c03, c04⟩ := hK.at (j := 0) (x := a) (by rw [hl]; rfl)
  obtain ⟨g', off', ka1, kc1, na1, nc1, he, _, hxx1, c10, c11, c12, c13, c14⟩ := hK.at (j := 1) (x := c) (by rw [hl]; rfl)
  cases he
  simp only [Nat.zero_mul, Nat.one_mul, Nat.add_zero] at c00 c01 c02 c03 c04 c10 c11 c12 c13 c14
  have hp0 : 0 < t.kids.length := by rw [hl]; simp
  have hp1 : 1 < t.kids.length := by rw [hl]; simp
  have hq1 : (1 : Int) < (t.kids.length : Int) := by omega
  have hba : blk a < blk t := blk_kid (by rw [hl]; simp)
  have hbc : blk c < blk t := blk_kid (by rw [hl]; simp)
  have HT0 : partF (f + 1) 4 t = partF f 5 a ++ 32 :: 47 :: 92 :: 32 :: partF f 6 c := by
    have e1 : needB t 4 = false := by unfold needB frontB lastP; rw [hk]; simp
    rw [show partF (f + 1) 4 t = (if needB t 4 then 40 :: (lineF (f + 1) t ++ [41]) else lineF (f + 1) t) from rfl, e1, if_neg (by simp), lineF_s]
    unfold lineR
    rw [if_neg (by omega), if_neg (by omega), if_neg (by omega), if_neg (by omega), if_neg (by omega), if_neg (by omega), if_neg (by omega), if_neg (by omega), if_neg (by omega), if_neg (by omega), if_neg (by omega), if_neg (by omega), if_neg (by omega), if_neg (by omega), if_pos (by omega)]
    all_goals (first | rfl | (rw [k0, k1]; rfl) | (rw [k0, k1]; simp; rfl) | (rw [k0]; rfl) | (rw [k0, k1]; simp))
  have HT : Hid (_ = _) := HT0
  clear HT0
  have HRk : Hid (rankF t.kind = 1) := by unfold rankF; rw [hk]; rfl
  have k16 : (t.kind == 16) = false := by rw [hk]; rfl
  have k15 : (t.kind == 15) = true := by rw [hk]; rfl
  have k14 : (t.kind == 14) = false := by rw [hk]; rfl
  clear hk
  have d00 := (hal1.cell (p := ⟨g, off, none⟩) (by show g < _; omega)).trans c00
  have r00 := d00
  rw [Hw1.out] at r00
  have d01 := (hal1.cell (p := ⟨g, off + 1, none⟩) (by show g < _; omega)).trans c01
  have r01 := d01
  rw [Hw1.out] at r01
  have d02 := (hal1.cell (p := ⟨g, off + 2, none⟩) (by show g < _; omega)).trans c02
  have r02 := d02
  rw [Hw1.out] at r02
  have d03 := (hal1.cell (p := ⟨g, off + 3, none⟩) (by show g < _; omega)).trans c03
  have r03 := d03
  rw [Hw1.out] at r03
  have d04 := (hal1.cell (p := ⟨g, off + 4, none⟩) (by show g < _; omega)).trans c04
  have r04 := d04
  rw [Hw1.out] at r04
  have d10 := (hal1.cell (p := ⟨g, off + 5, none⟩) (by show g < _; omega)).trans c10
  have r10 := d10
  rw [Hw1.out] at r10
  have d11 := (hal1.cell (p := ⟨g, off + 5 + 1, none⟩) (by show g < _; omega)).trans c11
  have r11 := d11
  rw [Hw1.out] at r11
  have d12 := (hal1.cell (p := ⟨g, off + 5 + 2, none⟩) (by show g < _; omega)).trans c12
  have r12 := d12
  rw [Hw1.out] at r12
  have d13 := (hal1.cell (p := ⟨g, off + 5 + 3, none⟩) (by show g < _; omega)).trans c13
  have r13 := d13
  rw [Hw1.out] at r13
  have d14 := (hal1.cell (p := ⟨g, off + 5 + 4, none⟩) (by show g < _; omega)).trans c14
  have r14 := d14
  rw [Hw1.out] at r14
  have X2 : ∀ u : ClsS w1, u.1.cell? ⟨w.heap.size, 2, none⟩ = _ := fun u => (u.2.cell (p := ⟨w.heap.size, 2, none⟩) hB1.lt).trans x2
  have C00 : ∀ u : ClsS w1, u.1.cell? ⟨g, off, none⟩ = _ := fun u => (u.2.cell (p := ⟨g, off, none⟩) (by show g < _; omega)).trans d00
  have C01 : ∀ u : ClsS w1, u.1.cell? ⟨g, off + 1, none⟩ = _ := fun u => (u.2.cell (p := ⟨g, off + 1, none⟩) (by show g < _; omega)).trans d01
  have C02 : ∀ u : ClsS w1, u.1.cell? ⟨g, off + 2, none⟩ = _ := fun u => (u.2.cell (p := ⟨g, off + 2, none⟩) (by show g < _; omega)).trans d02
  have C03 : ∀ u : ClsS w1, u.1.cell? ⟨g, off + 3, none⟩ = _ := fun u => (u.2.cell (p := ⟨g, off + 3, none⟩) (by show g < _; omega)).trans d03
  have C04 : ∀ u : ClsS w1, u.1.cell? ⟨g, off + 4, none⟩ = _ := fun u => (u.2.cell (p := ⟨g, off + 4, none⟩) (by show g < _; omega)).trans d04
  have C10 : ∀ u : ClsS w1, u.1.cell? ⟨g, off + 5, none⟩ = _ := fun u => (u.2.cell (p := ⟨g, off + 5, none⟩) (by show g < _; omega)).trans d10
  have C11 : ∀ u : ClsS w1, u.1.cell? ⟨g, off + 5 + 1, none⟩ = _ := fun u => (u.2.cell (p := ⟨g, off + 5 + 1, none⟩) (by show g < _; omega)).trans d11
  have C12 : ∀ u : ClsS w1, u.1.cell? ⟨g, off + 5 + 2, none⟩ = _ := fun u => (u.2.cell (p := ⟨g, off + 5 + 2, none⟩) (by show g < _; omega)).trans d12
  have C13 : ∀ u : ClsS w1, u.1.cell? ⟨g, off + 5 + 3, none⟩ = _ := fun u => (u.2.cell (p := ⟨g, off + 5 + 3, none⟩) (by show g < _; omega)).trans d13
  have C14 : ∀ u : ClsS w1, u.1.cell? ⟨g, off + 5 + 4, none⟩ = _ := fun u => (u.2.cell (p := ⟨g, off + 5 + 4, none⟩) (by show g < _; omega)).trans d14
  clear hl
  have hla := partF_len f 5 a
  have hlc := partF_len f 6 c
  have ad1 : ∀ w, (Op.stringOp .add (bs (partF f 5 a)) ⟨#[32, 47, 92, 32]⟩).run Try.prog w = .ok (.string (bs (partF f 5 a ++ [32, 47, 92, 32]))) w := add_bs (partF f 5 a) [32, 47, 92, 32] (by simp only [List.length_cons, List.length_nil]; omega)
  have ad2 : ∀ w, (Op.stringOp .add (bs (partF f 5 a ++ [32, 47, 92, 32])) (bs (partF f 6 c))).run Try.prog w = .ok (.string (bs ((partF f 5 a ++ [32, 47, 92, 32]) ++ partF f 6 c))) w := add_bs (partF f 5 a ++ [32, 47, 92, 32]) (partF f 6 c) (by rw [List.length_append]; simp only [List.length_cons, List.length_nil]; omega)
  have HcA : Hid (∀ u : ClsS w1, _) := fun u : ClsS w1 => clsS_call u (IH 1 n a _ u.1 (by omega) hoa (by omega) ((hxx0.keep (hal1.mono hn)).keep (u.2.mono hn1)) (Nat.le_trans hn1 u.2.size))
  have HcB : Hid (∀ u : ClsS w1, _) := fun u : ClsS w1 => clsS_call u (IH 2 n c _ u.1 (by omega) hoc (by omega) ((hxx1.keep (hal1.mono hn)).keep (u.2.mono hn1)) (Nat.le_trans hn1 u.2.size))
  go_enter Try.func34, Try.ntmps34
  go_wp2_with fail
  rw [← Hw1.out]
  clear Hw1
  have hne := clsS_any w1
  refine wp_region_clsS (by kernel_rfl) (by kernel_rfl) ?_
  iterate 5 (quiet_step (exact HcA.out _))
  repeat (quiet_step (exact HcB.out _))
  refine wpQuiet_nil ?_
  rintro _ ⟨u, rfl⟩
  obtain ⟨w2, hb2⟩ := u
  have hal2 := chain hal1 hb2
  have hB2 := hB1.blw hb2
  clear x0 x1 x2 x3 x4
  obtain ⟨x0, x1, x2, x3, x4⟩ := hB2.cells
  have hal1b := hb2.mono hn1
  go_wp2_with fail
  have cR := rank_any n t _ w2 (h1.keep (hal1b))
  rw [show rankF t.kind = 1 from HRk.out] at cR
  refine cR.mono ?_
  rintro e w3 ⟨rfl, hb3⟩
  clear cR
  go_wp2_with fail
  go_ret
  exact ⟨by rw [HT.out]; rfl, chain hal2 hb3⟩

set_option maxRecDepth 100000 in
set_option maxHeartbeats 4000000 in
theorem dims_15_1 (f n : Nat) (IH : RDi f) (t : Sx) (v : Value) (w : World) (hok : okF (f + 1) 1 t = true) (hb : blk t ≤ 65536) (h : SxIn n w t v) (hn : n ≤ w.heap.size) (hk : t.kind = 15) : Calls Try.prog 34 #[v, .int .i64 1] w fun e w' => e = .returned (.string (bs (partF (f + 1) 5 t))) ∧ Below w.heap.size w w' := by
  obtain ⟨ka, kc, na, nc, rfl, hN, hK⟩ := h.form
  obtain ⟨w1, hw1⟩ : ∃ w1, w1 = w.alloc (.cells #[.int .i64 t.kind, .string (bs t.name), .slice ka t.kids.length kc, .slice na t.names.length nc, .int .i64 t.at_] 25) := ⟨_, rfl⟩
  have hal1 : Below w.heap.size w w1 := by rw [hw1]; exact below_alloc _ _
  have hB1 : Bx w1 w.heap.size (.int .i64 t.kind) (.string (bs t.name)) (.slice ka t.kids.length kc) (.slice na t.names.length nc) (.int .i64 t.at_) := by rw [hw1]; exact bx_new _ _ _ _ _ _
  have Hw1 : Hid (_ = _) := hw1
  clear hw1
  obtain ⟨x0, x1, x2, x3, x4⟩ := hB1.cells
  have hn1 := Nat.le_trans hn hal1.size
  have h1 := h.keep (hal1.mono hn)
  obtain ⟨a, c, hl, hoa, hoc⟩ := (parts_dim hok).dims (by omega)
  have k0 : kd t 0 = a := by rw [kd_kids hl]; rfl
  have k1 : kd t 1 = c := by rw [kd_kids hl]; rfl
  obtain ⟨g, off, ka0, kc0, na0, nc0, rfl, hg, hxx0, c00, c01, c02, c03, c04⟩ := hK.at (j := 0) (x := a) (by rw [hl]; rfl)
  obtain ⟨g', off', ka1, kc1, na1, nc1, he, _, hxx1, c10, c11, c12, c13, c14⟩ := hK.at (j := 1) (x := c) (by rw [hl]; rfl)
  cases he
  simp only [Nat.zero_mul, Nat.one_mul, Nat.add_zero] at c00 c01 c02 c03 c04 c10 c11 c12 c13 c14
  have hp0 : 0 < t.kids.length := by rw [hl]; simp
  have hp1 : 1 < t.kids.length := by rw [hl]; simp
  have hq1 : (1 : Int) < (t.kids.length : Int) := by omega
  have hba : blk a < blk t := blk_kid (by rw [hl]; simp)
  have hbc : blk c < blk t := blk_kid (by rw [hl]; simp)
  have HT0 : partF (f + 1) 5 t = partF f 5 a ++ 32 :: 47 :: 92 :: 32 :: partF f 6 c := by
    have e1 : needB t 5 = false := by unfold needB frontB lastP; rw [hk]; simp
    rw [show partF (f + 1) 5 t = (if needB t 5 then 40 :: (lineF (f + 1) t ++ [41]) else lineF (f + 1) t) from rfl, e1, if_neg (by simp), lineF_s]
    unfold lineR
    rw [if_neg (by omega), if_neg (by omega), if_neg (by omega), if_neg (by omega), if_neg (by omega), if_neg (by omega), if_neg (by omega), if_neg (by omega), if_neg (by omega), if_neg (by omega), if_neg (by omega), if_neg (by omega), if_neg (by omega), if_neg (by omega), if_pos (by omega)]
    all_goals (first | rfl | (rw [k0, k1]; rfl) | (rw [k0, k1]; simp; rfl) | (rw [k0]; rfl) | (rw [k0, k1]; simp))
  have HT : Hid (_ = _) := HT0
  clear HT0
  have HRk : Hid (rankF t.kind = 1) := by unfold rankF; rw [hk]; rfl
  have k16 : (t.kind == 16) = false := by rw [hk]; rfl
  have k15 : (t.kind == 15) = true := by rw [hk]; rfl
  have k14 : (t.kind == 14) = false := by rw [hk]; rfl
  clear hk
  have d00 := (hal1.cell (p := ⟨g, off, none⟩) (by show g < _; omega)).trans c00
  have r00 := d00
  rw [Hw1.out] at r00
  have d01 := (hal1.cell (p := ⟨g, off + 1, none⟩) (by show g < _; omega)).trans c01
  have r01 := d01
  rw [Hw1.out] at r01
  have d02 := (hal1.cell (p := ⟨g, off + 2, none⟩) (by show g < _; omega)).trans c02
  have r02 := d02
  rw [Hw1.out] at r02
  have d03 := (hal1.cell (p := ⟨g, off + 3, none⟩) (by show g < _; omega)).trans c03
  have r03 := d03
  rw [Hw1.out] at r03
  have d04 := (hal1.cell (p := ⟨g, off + 4, none⟩) (by show g < _; omega)).trans c04
  have r04 := d04
  rw [Hw1.out] at r04
  have d10 := (hal1.cell (p := ⟨g, off + 5, none⟩) (by show g < _; omega)).trans c10
  have r10 := d10
  rw [Hw1.out] at r10
  have d11 := (hal1.cell (p := ⟨g, off + 5 + 1, none⟩) (by show g < _; omega)).trans c11
  have r11 := d11
  rw [Hw1.out] at r11
  have d12 := (hal1.cell (p := ⟨g, off + 5 + 2, none⟩) (by show g < _; omega)).trans c12
  have r12 := d12
  rw [Hw1.out] at r12
  have d13 := (hal1.cell (p := ⟨g, off + 5 + 3, none⟩) (by show g < _; omega)).trans c13
  have r13 := d13
  rw [Hw1.out] at r13
  have d14 := (hal1.cell (p := ⟨g, off + 5 + 4, none⟩) (by show g < _; omega)).trans c14
  have r14 := d14
  rw [Hw1.out] at r14
  have X2 : ∀ u : ClsS w1, u.1.cell? ⟨w.heap.size, 2, none⟩ = _ := fun u => (u.2.cell (p := ⟨w.heap.size, 2, none⟩) hB1.lt).trans x2
  have C00 : ∀ u : ClsS w1, u.1.cell? ⟨g, off, none⟩ = _ := fun u => (u.2.cell (p := ⟨g, off, none⟩) (by show g < _; omega)).trans d00
  have C01 : ∀ u : ClsS w1, u.1.cell? ⟨g, off + 1, none⟩ = _ := fun u => (u.2.cell (p := ⟨g, off + 1, none⟩) (by show g < _; omega)).trans d01
  have C02 : ∀ u : ClsS w1, u.1.cell? ⟨g, off + 2, none⟩ = _ := fun u => (u.2.cell (p := ⟨g, off + 2, none⟩) (by show g < _; omega)).trans d02
  have C03 : ∀ u : ClsS w1, u.1.cell? ⟨g, off + 3, none⟩ = _ := fun u => (u.2.cell (p := ⟨g, off + 3, none⟩) (by show g < _; omega)).trans d03
  have C04 : ∀ u : ClsS w1, u.1.cell? ⟨g, off + 4, none⟩ = _ := fun u => (u.2.cell (p := ⟨g, off + 4, none⟩) (by show g < _; omega)).trans d04
  have C10 : ∀ u : ClsS w1, u.1.cell? ⟨g, off + 5, none⟩ = _ := fun u => (u.2.cell (p := ⟨g, off + 5, none⟩) (by show g < _; omega)).trans d10
  have C11 : ∀ u : ClsS w1, u.1.cell? ⟨g, off + 5 + 1, none⟩ = _ := fun u => (u.2.cell (p := ⟨g, off + 5 + 1, none⟩) (by show g < _; omega)).trans d11
  have C12 : ∀ u : ClsS w1, u.1.cell? ⟨g, off + 5 + 2, none⟩ = _ := fun u => (u.2.cell (p := ⟨g, off + 5 + 2, none⟩) (by show g < _; omega)).trans d12
  have C13 : ∀ u : ClsS w1, u.1.cell? ⟨g, off + 5 + 3, none⟩ = _ := fun u => (u.2.cell (p := ⟨g, off + 5 + 3, none⟩) (by show g < _; omega)).trans d13
  have C14 : ∀ u : ClsS w1, u.1.cell? ⟨g, off + 5 + 4, none⟩ = _ := fun u => (u.2.cell (p := ⟨g, off + 5 + 4, none⟩) (by show g < _; omega)).trans d14
  clear hl
  have hla := partF_len f 5 a
  have hlc := partF_len f 6 c
  have ad1 : ∀ w, (Op.stringOp .add (bs (partF f 5 a)) ⟨#[32, 47, 92, 32]⟩).run Try.prog w = .ok (.string (bs (partF f 5 a ++ [32, 47, 92, 32]))) w := add_bs (partF f 5 a) [32, 47, 92, 32] (by simp only [List.length_cons, List.length_nil]; omega)
  have ad2 : ∀ w, (Op.stringOp .add (bs (partF f 5 a ++ [32, 47, 92, 32])) (bs (partF f 6 c))).run Try.prog w = .ok (.string (bs ((partF f 5 a ++ [32, 47, 92, 32]) ++ partF f 6 c))) w := add_bs (partF f 5 a ++ [32, 47, 92, 32]) (partF f 6 c) (by rw [List.length_append]; simp only [List.length_cons, List.length_nil]; omega)
  have HcA : Hid (∀ u : ClsS w1, _) := fun u : ClsS w1 => clsS_call u (IH 1 n a _ u.1 (by omega) hoa (by omega) ((hxx0.keep (hal1.mono hn)).keep (u.2.mono hn1)) (Nat.le_trans hn1 u.2.size))
  have HcB : Hid (∀ u : ClsS w1, _) := fun u : ClsS w1 => clsS_call u (IH 2 n c _ u.1 (by omega) hoc (by omega) ((hxx1.keep (hal1.mono hn)).keep (u.2.mono hn1)) (Nat.le_trans hn1 u.2.size))
  go_enter Try.func34, Try.ntmps34
  go_wp2_with fail
  rw [← Hw1.out]
  clear Hw1
  have hne := clsS_any w1
  refine wp_region_clsS (by kernel_rfl) (by kernel_rfl) ?_
  iterate 5 (quiet_step (exact HcA.out _))
  repeat (quiet_step (exact HcB.out _))
  refine wpQuiet_nil ?_
  rintro _ ⟨u, rfl⟩
  obtain ⟨w2, hb2⟩ := u
  have hal2 := chain hal1 hb2
  have hB2 := hB1.blw hb2
  clear x0 x1 x2 x3 x4
  obtain ⟨x0, x1, x2, x3, x4⟩ := hB2.cells
  have hal1b := hb2.mono hn1
  go_wp2_with fail
  have cR := rank_any n t _ w2 (h1.keep (hal1b))
  rw [show rankF t.kind = 1 from HRk.out] at cR
  refine cR.mono ?_
  rintro e w3 ⟨rfl, hb3⟩
  clear cR
  go_wp2_with fail
  go_ret
  exact ⟨by rw [HT.out]; rfl, chain hal2 hb3⟩

set_option maxRecDepth 100000 in
set_option maxHeartbeats 4000000 in
theorem dims_15_2 (f n : Nat) (IH : RDi f) (t : Sx) (v : Value) (w : World) (hok : okF (f + 1) 1 t = true) (hb : blk t ≤ 65536) (h : SxIn n w t v) (hn : n ≤ w.heap.size) (hk : t.kind = 15) : Calls Try.prog 34 #[v, .int .i64 2] w fun e w' => e = .returned (.string (bs (partF (f + 1) 6 t))) ∧ Below w.heap.size w w' := by
  obtain ⟨ka, kc, na, nc, rfl, hN, hK⟩ := h.form
  obtain ⟨w1, hw1⟩ : ∃ w1, w1 = w.alloc (.cells #[.int .i64 t.kind, .string (bs t.name), .slice ka t.kids.length kc, .slice na t.names.length nc, .int .i64 t.at_] 25) := ⟨_, rfl⟩
  have hal1 : Below w.heap.size w w1 := by rw [hw1]; exact below_alloc _ _
  have hB1 : Bx w1 w.heap.size (.int .i64 t.kind) (.string (bs t.name)) (.slice ka t.kids.length kc) (.slice na t.names.length nc) (.int .i64 t.at_) := by rw [hw1]; exact bx_new _ _ _ _ _ _
  have Hw1 : Hid (_ = _) := hw1
  clear hw1
  obtain ⟨x0, x1, x2, x3, x4⟩ := hB1.cells
  have hn1 := Nat.le_trans hn hal1.size
  have h1 := h.keep (hal1.mono hn)
  obtain ⟨a, c, hl, hoa, hoc⟩ := (parts_dim hok).dims (by omega)
  have k0 : kd t 0 = a := by rw [kd_kids hl]; rfl
  have k1 : kd t 1 = c := by rw [kd_kids hl]; rfl
  obtain ⟨g, off, ka0, kc0, na0, nc0, rfl, hg, hxx0, c00, c01, c02, c03, c04⟩ := hK.at (j := 0) (x := a) (by rw [hl]; rfl)
  obtain ⟨g', off', ka1, kc1, na1, nc1, he, _, hxx1, c10, c11, c12, c13, c14⟩ := hK.at (j := 1) (x := c) (by rw [hl]; rfl)
  cases he
  simp only [Nat.zero_mul, Nat.one_mul, Nat.add_zero] at c00 c01 c02 c03 c04 c10 c11 c12 c13 c14
  have hp0 : 0 < t.kids.length := by rw [hl]; simp
  have hp1 : 1 < t.kids.length := by rw [hl]; simp
  have hq1 : (1 : Int) < (t.kids.length : Int) := by omega
  have hba : blk a < blk t := blk_kid (by rw [hl]; simp)
  have hbc : blk c < blk t := blk_kid (by rw [hl]; simp)
  have HT0 : partF (f + 1) 6 t = 40 :: (partF f 5 a ++ 32 :: 47 :: 92 :: 32 :: (partF f 6 c ++ [41])) := by
    have e1 : needB t 6 = true := by unfold needB frontB lastP; rw [hk]; simp
    rw [show partF (f + 1) 6 t = (if needB t 6 then 40 :: (lineF (f + 1) t ++ [41]) else lineF (f + 1) t) from rfl, e1, if_pos rfl, lineF_s]
    unfold lineR
    rw [if_neg (by omega), if_neg (by omega), if_neg (by omega), if_neg (by omega), if_neg (by omega), if_neg (by omega), if_neg (by omega), if_neg (by omega), if_neg (by omega), if_neg (by omega), if_neg (by omega), if_neg (by omega), if_neg (by omega), if_neg (by omega), if_pos (by omega)]
    all_goals (first | rfl | (rw [k0, k1]; rfl) | (rw [k0, k1]; simp; rfl) | (rw [k0]; rfl) | (rw [k0, k1]; simp))
  have HT : Hid (_ = _) := HT0
  clear HT0
  have HRk : Hid (rankF t.kind = 1) := by unfold rankF; rw [hk]; rfl
  have k16 : (t.kind == 16) = false := by rw [hk]; rfl
  have k15 : (t.kind == 15) = true := by rw [hk]; rfl
  have k14 : (t.kind == 14) = false := by rw [hk]; rfl
  clear hk
  have d00 := (hal1.cell (p := ⟨g, off, none⟩) (by show g < _; omega)).trans c00
  have r00 := d00
  rw [Hw1.out] at r00
  have d01 := (hal1.cell (p := ⟨g, off + 1, none⟩) (by show g < _; omega)).trans c01
  have r01 := d01
  rw [Hw1.out] at r01
  have d02 := (hal1.cell (p := ⟨g, off + 2, none⟩) (by show g < _; omega)).trans c02
  have r02 := d02
  rw [Hw1.out] at r02
  have d03 := (hal1.cell (p := ⟨g, off + 3, none⟩) (by show g < _; omega)).trans c03
  have r03 := d03
  rw [Hw1.out] at r03
  have d04 := (hal1.cell (p := ⟨g, off + 4, none⟩) (by show g < _; omega)).trans c04
  have r04 := d04
  rw [Hw1.out] at r04
  have d10 := (hal1.cell (p := ⟨g, off + 5, none⟩) (by show g < _; omega)).trans c10
  have r10 := d10
  rw [Hw1.out] at r10
  have d11 := (hal1.cell (p := ⟨g, off + 5 + 1, none⟩) (by show g < _; omega)).trans c11
  have r11 := d11
  rw [Hw1.out] at r11
  have d12 := (hal1.cell (p := ⟨g, off + 5 + 2, none⟩) (by show g < _; omega)).trans c12
  have r12 := d12
  rw [Hw1.out] at r12
  have d13 := (hal1.cell (p := ⟨g, off + 5 + 3, none⟩) (by show g < _; omega)).trans c13
  have r13 := d13
  rw [Hw1.out] at r13
  have d14 := (hal1.cell (p := ⟨g, off + 5 + 4, none⟩) (by show g < _; omega)).trans c14
  have r14 := d14
  rw [Hw1.out] at r14
  have X2 : ∀ u : ClsS w1, u.1.cell? ⟨w.heap.size, 2, none⟩ = _ := fun u => (u.2.cell (p := ⟨w.heap.size, 2, none⟩) hB1.lt).trans x2
  have C00 : ∀ u : ClsS w1, u.1.cell? ⟨g, off, none⟩ = _ := fun u => (u.2.cell (p := ⟨g, off, none⟩) (by show g < _; omega)).trans d00
  have C01 : ∀ u : ClsS w1, u.1.cell? ⟨g, off + 1, none⟩ = _ := fun u => (u.2.cell (p := ⟨g, off + 1, none⟩) (by show g < _; omega)).trans d01
  have C02 : ∀ u : ClsS w1, u.1.cell? ⟨g, off + 2, none⟩ = _ := fun u => (u.2.cell (p := ⟨g, off + 2, none⟩) (by show g < _; omega)).trans d02
  have C03 : ∀ u : ClsS w1, u.1.cell? ⟨g, off + 3, none⟩ = _ := fun u => (u.2.cell (p := ⟨g, off + 3, none⟩) (by show g < _; omega)).trans d03
  have C04 : ∀ u : ClsS w1, u.1.cell? ⟨g, off + 4, none⟩ = _ := fun u => (u.2.cell (p := ⟨g, off + 4, none⟩) (by show g < _; omega)).trans d04
  have C10 : ∀ u : ClsS w1, u.1.cell? ⟨g, off + 5, none⟩ = _ := fun u => (u.2.cell (p := ⟨g, off + 5, none⟩) (by show g < _; omega)).trans d10
  have C11 : ∀ u : ClsS w1, u.1.cell? ⟨g, off + 5 + 1, none⟩ = _ := fun u => (u.2.cell (p := ⟨g, off + 5 + 1, none⟩) (by show g < _; omega)).trans d11
  have C12 : ∀ u : ClsS w1, u.1.cell? ⟨g, off + 5 + 2, none⟩ = _ := fun u => (u.2.cell (p := ⟨g, off + 5 + 2, none⟩) (by show g < _; omega)).trans d12
  have C13 : ∀ u : ClsS w1, u.1.cell? ⟨g, off + 5 + 3, none⟩ = _ := fun u => (u.2.cell (p := ⟨g, off + 5 + 3, none⟩) (by show g < _; omega)).trans d13
  have C14 : ∀ u : ClsS w1, u.1.cell? ⟨g, off + 5 + 4, none⟩ = _ := fun u => (u.2.cell (p := ⟨g, off + 5 + 4, none⟩) (by show g < _; omega)).trans d14
  clear hl
  have hla := partF_len f 5 a
  have hlc := partF_len f 6 c
  have ad1 : ∀ w, (Op.stringOp .add (bs (partF f 5 a)) ⟨#[32, 47, 92, 32]⟩).run Try.prog w = .ok (.string (bs (partF f 5 a ++ [32, 47, 92, 32]))) w := add_bs (partF f 5 a) [32, 47, 92, 32] (by simp only [List.length_cons, List.length_nil]; omega)
  have ad2 : ∀ w, (Op.stringOp .add (bs (partF f 5 a ++ [32, 47, 92, 32])) (bs (partF f 6 c))).run Try.prog w = .ok (.string (bs ((partF f 5 a ++ [32, 47, 92, 32]) ++ partF f 6 c))) w := add_bs (partF f 5 a ++ [32, 47, 92, 32]) (partF f 6 c) (by rw [List.length_append]; simp only [List.length_cons, List.length_nil]; omega)
  have HcA : Hid (∀ u : ClsS w1, _) := fun u : ClsS w1 => clsS_call u (IH 1 n a _ u.1 (by omega) hoa (by omega) ((hxx0.keep (hal1.mono hn)).keep (u.2.mono hn1)) (Nat.le_trans hn1 u.2.size))
  have HcB : Hid (∀ u : ClsS w1, _) := fun u : ClsS w1 => clsS_call u (IH 2 n c _ u.1 (by omega) hoc (by omega) ((hxx1.keep (hal1.mono hn)).keep (u.2.mono hn1)) (Nat.le_trans hn1 u.2.size))
  go_enter Try.func34, Try.ntmps34
  go_wp2_with fail
  rw [← Hw1.out]
  clear Hw1
  have hne := clsS_any w1
  refine wp_region_clsS (by kernel_rfl) (by kernel_rfl) ?_
  iterate 5 (quiet_step (exact HcA.out _))
  repeat (quiet_step (exact HcB.out _))
  refine wpQuiet_nil ?_
  rintro _ ⟨u, rfl⟩
  obtain ⟨w2, hb2⟩ := u
  have hal2 := chain hal1 hb2
  have hB2 := hB1.blw hb2
  clear x0 x1 x2 x3 x4
  obtain ⟨x0, x1, x2, x3, x4⟩ := hB2.cells
  have hal1b := hb2.mono hn1
  go_wp2_with fail
  have cR := rank_any n t _ w2 (h1.keep (hal1b))
  rw [show rankF t.kind = 1 from HRk.out] at cR
  refine cR.mono ?_
  rintro e w3 ⟨rfl, hb3⟩
  clear cR
  have ad8 := add_bs [40] (partF f 5 a ++ 32 :: 47 :: 92 :: 32 :: partF f 6 c) (by rw [List.length_cons, List.length_nil]; simp only [List.length_append, List.length_cons, List.length_nil]; omega)
  have ad9 := add_bs ([40] ++ (partF f 5 a ++ 32 :: 47 :: 92 :: 32 :: partF f 6 c)) [41] (by rw [List.length_append, List.length_cons, List.length_nil]; simp only [List.length_append, List.length_cons, List.length_nil]; omega)
  go_wp2_with (first | (refine wp_add rfl _ _ rfl _ _ _ rfl rfl ad8 ?_) | (refine wp_add rfl _ _ rfl _ _ _ rfl rfl ad9 ?_))
  go_ret
  exact ⟨by rw [HT.out]; rfl, chain hal2 hb3⟩

set_option maxRecDepth 100000 in
set_option maxHeartbeats 4000000 in
theorem dims_14_0 (f n : Nat) (IH : RDi f) (t : Sx) (v : Value) (w : World) (hok : okF (f + 1) 1 t = true) (hb : blk t ≤ 65536) (h : SxIn n w t v) (hn : n ≤ w.heap.size) (hk : t.kind = 14) : Calls Try.prog 34 #[v, .int .i64 0] w fun e w' => e = .returned (.string (bs (partF (f + 1) 4 t))) ∧ Below w.heap.size w w' := by
  obtain ⟨ka, kc, na, nc, rfl, hN, hK⟩ := h.form
  obtain ⟨w1, hw1⟩ : ∃ w1, w1 = w.alloc (.cells #[.int .i64 t.kind, .string (bs t.name), .slice ka t.kids.length kc, .slice na t.names.length nc, .int .i64 t.at_] 25) := ⟨_, rfl⟩
  have hal1 : Below w.heap.size w w1 := by rw [hw1]; exact below_alloc _ _
  have hB1 : Bx w1 w.heap.size (.int .i64 t.kind) (.string (bs t.name)) (.slice ka t.kids.length kc) (.slice na t.names.length nc) (.int .i64 t.at_) := by rw [hw1]; exact bx_new _ _ _ _ _ _
  have Hw1 : Hid (_ = _) := hw1
  clear hw1
  obtain ⟨x0, x1, x2, x3, x4⟩ := hB1.cells
  have hn1 := Nat.le_trans hn hal1.size
  have h1 := h.keep (hal1.mono hn)
  obtain ⟨a, c, hl, hoa, hoc⟩ := (parts_dim hok).dims (by omega)
  have k0 : kd t 0 = a := by rw [kd_kids hl]; rfl
  have k1 : kd t 1 = c := by rw [kd_kids hl]; rfl
  obtain ⟨g, off, ka0, kc0, na0, nc0, rfl, hg, hxx0, c00, c01, c02, c03, c04⟩ := hK.at (j := 0) (x := a) (by rw [hl]; rfl)
  obtain ⟨g', off', ka1, kc1, na1, nc1, he, _, hxx1, c10, c11, c12, c13, c14⟩ := hK.at (j := 1) (x := c) (by rw [hl]; rfl)
  cases he
  simp only [Nat.zero_mul, Nat.one_mul, Nat.add_zero] at c00 c01 c02 c03 c04 c10 c11 c12 c13 c14
  have hp0 : 0 < t.kids.length := by rw [hl]; simp
  have hp1 : 1 < t.kids.length := by rw [hl]; simp
  have hq1 : (1 : Int) < (t.kids.length : Int) := by omega
  have hba : blk a < blk t := blk_kid (by rw [hl]; simp)
  have hbc : blk c < blk t := blk_kid (by rw [hl]; simp)
  have HT0 : partF (f + 1) 4 t = partF f 4 a ++ 32 :: 92 :: 47 :: 32 :: partF f 5 c := by
    have e1 : needB t 4 = false := by unfold needB frontB lastP; rw [hk]; simp
    rw [show partF (f + 1) 4 t = (if needB t 4 then 40 :: (lineF (f + 1) t ++ [41]) else lineF (f + 1) t) from rfl, e1, if_neg (by simp), lineF_s]
    unfold lineR
    rw [if_neg (by omega), if_neg (by omega), if_neg (by omega), if_neg (by omega), if_neg (by omega), if_neg (by omega), if_neg (by omega), if_neg (by omega), if_neg (by omega), if_neg (by omega), if_neg (by omega), if_neg (by omega), if_neg (by omega), if_pos (by omega)]
    all_goals (first | rfl | (rw [k0, k1]; rfl) | (rw [k0, k1]; simp; rfl) | (rw [k0]; rfl) | (rw [k0, k1]; simp))
  have HT : Hid (_ = _) := HT0
  clear HT0
  have HRk : Hid (rankF t.kind = 0) := by unfold rankF; rw [hk]; rfl
  have k16 : (t.kind == 16) = false := by rw [hk]; rfl
  have k15 : (t.kind == 15) = false := by rw [hk]; rfl
  have k14 : (t.kind == 14) = true := by rw [hk]; rfl
  clear hk
  have d00 := (hal1.cell (p := ⟨g, off, none⟩) (by show g < _; omega)).trans c00
  have r00 := d00
  rw [Hw1.out] at r00
  have d01 := (hal1.cell (p := ⟨g, off + 1, none⟩) (by show g < _; omega)).trans c01
  have r01 := d01
  rw [Hw1.out] at r01
  have d02 := (hal1.cell (p := ⟨g, off + 2, none⟩) (by show g < _; omega)).trans c02
  have r02 := d02
  rw [Hw1.out] at r02
  have d03 := (hal1.cell (p := ⟨g, off + 3, none⟩) (by show g < _; omega)).trans c03
  have r03 := d03
  rw [Hw1.out] at r03
  have d04 := (hal1.cell (p := ⟨g, off + 4, none⟩) (by show g < _; omega)).trans c04
  have r04 := d04
  rw [Hw1.out] at r04
  have d10 := (hal1.cell (p := ⟨g, off + 5, none⟩) (by show g < _; omega)).trans c10
  have r10 := d10
  rw [Hw1.out] at r10
  have d11 := (hal1.cell (p := ⟨g, off + 5 + 1, none⟩) (by show g < _; omega)).trans c11
  have r11 := d11
  rw [Hw1.out] at r11
  have d12 := (hal1.cell (p := ⟨g, off + 5 + 2, none⟩) (by show g < _; omega)).trans c12
  have r12 := d12
  rw [Hw1.out] at r12
  have d13 := (hal1.cell (p := ⟨g, off + 5 + 3, none⟩) (by show g < _; omega)).trans c13
  have r13 := d13
  rw [Hw1.out] at r13
  have d14 := (hal1.cell (p := ⟨g, off + 5 + 4, none⟩) (by show g < _; omega)).trans c14
  have r14 := d14
  rw [Hw1.out] at r14
  have X2 : ∀ u : ClsS w1, u.1.cell? ⟨w.heap.size, 2, none⟩ = _ := fun u => (u.2.cell (p := ⟨w.heap.size, 2, none⟩) hB1.lt).trans x2
  have C00 : ∀ u : ClsS w1, u.1.cell? ⟨g, off, none⟩ = _ := fun u => (u.2.cell (p := ⟨g, off, none⟩) (by show g < _; omega)).trans d00
  have C01 : ∀ u : ClsS w1, u.1.cell? ⟨g, off + 1, none⟩ = _ := fun u => (u.2.cell (p := ⟨g, off + 1, none⟩) (by show g < _; omega)).trans d01
  have C02 : ∀ u : ClsS w1, u.1.cell? ⟨g, off + 2, none⟩ = _ := fun u => (u.2.cell (p := ⟨g, off + 2, none⟩) (by show g < _; omega)).trans d02
  have C03 : ∀ u : ClsS w1, u.1.cell? ⟨g, off + 3, none⟩ = _ := fun u => (u.2.cell (p := ⟨g, off + 3, none⟩) (by show g < _; omega)).trans d03
  have C04 : ∀ u : ClsS w1, u.1.cell? ⟨g, off + 4, none⟩ = _ := fun u => (u.2.cell (p := ⟨g, off + 4, none⟩) (by show g < _; omega)).trans d04
  have C10 : ∀ u : ClsS w1, u.1.cell? ⟨g, off + 5, none⟩ = _ := fun u => (u.2.cell (p := ⟨g, off + 5, none⟩) (by show g < _; omega)).trans d10
  have C11 : ∀ u : ClsS w1, u.1.cell? ⟨g, off + 5 + 1, none⟩ = _ := fun u => (u.2.cell (p := ⟨g, off + 5 + 1, none⟩) (by show g < _; omega)).trans d11
  have C12 : ∀ u : ClsS w1, u.1.cell? ⟨g, off + 5 + 2, none⟩ = _ := fun u => (u.2.cell (p := ⟨g, off + 5 + 2, none⟩) (by show g < _; omega)).trans d12
  have C13 : ∀ u : ClsS w1, u.1.cell? ⟨g, off + 5 + 3, none⟩ = _ := fun u => (u.2.cell (p := ⟨g, off + 5 + 3, none⟩) (by show g < _; omega)).trans d13
  have C14 : ∀ u : ClsS w1, u.1.cell? ⟨g, off + 5 + 4, none⟩ = _ := fun u => (u.2.cell (p := ⟨g, off + 5 + 4, none⟩) (by show g < _; omega)).trans d14
  clear hl
  have hla := partF_len f 4 a
  have hlc := partF_len f 5 c
  have ad1 : ∀ w, (Op.stringOp .add (bs (partF f 4 a)) ⟨#[32, 92, 47, 32]⟩).run Try.prog w = .ok (.string (bs (partF f 4 a ++ [32, 92, 47, 32]))) w := add_bs (partF f 4 a) [32, 92, 47, 32] (by simp only [List.length_cons, List.length_nil]; omega)
  have ad2 : ∀ w, (Op.stringOp .add (bs (partF f 4 a ++ [32, 92, 47, 32])) (bs (partF f 5 c))).run Try.prog w = .ok (.string (bs ((partF f 4 a ++ [32, 92, 47, 32]) ++ partF f 5 c))) w := add_bs (partF f 4 a ++ [32, 92, 47, 32]) (partF f 5 c) (by rw [List.length_append]; simp only [List.length_cons, List.length_nil]; omega)
  have HcA : Hid (∀ u : ClsS w1, _) := fun u : ClsS w1 => clsS_call u (IH 0 n a _ u.1 (by omega) hoa (by omega) ((hxx0.keep (hal1.mono hn)).keep (u.2.mono hn1)) (Nat.le_trans hn1 u.2.size))
  have HcB : Hid (∀ u : ClsS w1, _) := fun u : ClsS w1 => clsS_call u (IH 1 n c _ u.1 (by omega) hoc (by omega) ((hxx1.keep (hal1.mono hn)).keep (u.2.mono hn1)) (Nat.le_trans hn1 u.2.size))
  go_enter Try.func34, Try.ntmps34
  go_wp2_with fail
  rw [← Hw1.out]
  clear Hw1
  have hne := clsS_any w1
  refine wp_region_clsS (by kernel_rfl) (by kernel_rfl) ?_
  iterate 5 (quiet_step (exact HcA.out _))
  repeat (quiet_step (exact HcB.out _))
  refine wpQuiet_nil ?_
  rintro _ ⟨u, rfl⟩
  obtain ⟨w2, hb2⟩ := u
  have hal2 := chain hal1 hb2
  have hB2 := hB1.blw hb2
  clear x0 x1 x2 x3 x4
  obtain ⟨x0, x1, x2, x3, x4⟩ := hB2.cells
  have hal1b := hb2.mono hn1
  go_wp2_with fail
  have cR := rank_any n t _ w2 (h1.keep (hal1b))
  rw [show rankF t.kind = 0 from HRk.out] at cR
  refine cR.mono ?_
  rintro e w3 ⟨rfl, hb3⟩
  clear cR
  go_wp2_with fail
  go_ret
  exact ⟨by rw [HT.out]; rfl, chain hal2 hb3⟩

set_option maxRecDepth 100000 in
set_option maxHeartbeats 4000000 in
theorem dims_14_1 (f n : Nat) (IH : RDi f) (t : Sx) (v : Value) (w : World) (hok : okF (f + 1) 1 t = true) (hb : blk t ≤ 65536) (h : SxIn n w t v) (hn : n ≤ w.heap.size) (hk : t.kind = 14) : Calls Try.prog 34 #[v, .int .i64 1] w fun e w' => e = .returned (.string (bs (partF (f + 1) 5 t))) ∧ Below w.heap.size w w' := by
  obtain ⟨ka, kc, na, nc, rfl, hN, hK⟩ := h.form
  obtain ⟨w1, hw1⟩ : ∃ w1, w1 = w.alloc (.cells #[.int .i64 t.kind, .string (bs t.name), .slice ka t.kids.length kc, .slice na t.names.length nc, .int .i64 t.at_] 25) := ⟨_, rfl⟩
  have hal1 : Below w.heap.size w w1 := by rw [hw1]; exact below_alloc _ _
  have hB1 : Bx w1 w.heap.size (.int .i64 t.kind) (.string (bs t.name)) (.slice ka t.kids.length kc) (.slice na t.names.length nc) (.int .i64 t.at_) := by rw [hw1]; exact bx_new _ _ _ _ _ _
  have Hw1 : Hid (_ = _) := hw1
  clear hw1
  obtain ⟨x0, x1, x2, x3, x4⟩ := hB1.cells
  have hn1 := Nat.le_trans hn hal1.size
  have h1 := h.keep (hal1.mono hn)
  obtain ⟨a, c, hl, hoa, hoc⟩ := (parts_dim hok).dims (by omega)
  have k0 : kd t 0 = a := by rw [kd_kids hl]; rfl
  have k1 : kd t 1 = c := by rw [kd_kids hl]; rfl
  obtain ⟨g, off, ka0, kc0, na0, nc0, rfl, hg, hxx0, c00, c01, c02, c03, c04⟩ := hK.at (j := 0) (x := a) (by rw [hl]; rfl)
  obtain ⟨g', off', ka1, kc1, na1, nc1, he, _, hxx1, c10, c11, c12, c13, c14⟩ := hK.at (j := 1) (x := c) (by rw [hl]; rfl)
  cases he
  simp only [Nat.zero_mul, Nat.one_mul, Nat.add_zero] at c00 c01 c02 c03 c04 c10 c11 c12 c13 c14
  have hp0 : 0 < t.kids.length := by rw [hl]; simp
  have hp1 : 1 < t.kids.length := by rw [hl]; simp
  have hq1 : (1 : Int) < (t.kids.length : Int) := by omega
  have hba : blk a < blk t := blk_kid (by rw [hl]; simp)
  have hbc : blk c < blk t := blk_kid (by rw [hl]; simp)
  have HT0 : partF (f + 1) 5 t = 40 :: (partF f 4 a ++ 32 :: 92 :: 47 :: 32 :: (partF f 5 c ++ [41])) := by
    have e1 : needB t 5 = true := by unfold needB frontB lastP; rw [hk]; simp
    rw [show partF (f + 1) 5 t = (if needB t 5 then 40 :: (lineF (f + 1) t ++ [41]) else lineF (f + 1) t) from rfl, e1, if_pos rfl, lineF_s]
    unfold lineR
    rw [if_neg (by omega), if_neg (by omega), if_neg (by omega), if_neg (by omega), if_neg (by omega), if_neg (by omega), if_neg (by omega), if_neg (by omega), if_neg (by omega), if_neg (by omega), if_neg (by omega), if_neg (by omega), if_neg (by omega), if_pos (by omega)]
    all_goals (first | rfl | (rw [k0, k1]; rfl) | (rw [k0, k1]; simp; rfl) | (rw [k0]; rfl) | (rw [k0, k1]; simp))
  have HT : Hid (_ = _) := HT0
  clear HT0
  have HRk : Hid (rankF t.kind = 0) := by unfold rankF; rw [hk]; rfl
  have k16 : (t.kind == 16) = false := by rw [hk]; rfl
  have k15 : (t.kind == 15) = false := by rw [hk]; rfl
  have k14 : (t.kind == 14) = true := by rw [hk]; rfl
  clear hk
  have d00 := (hal1.cell (p := ⟨g, off, none⟩) (by show g < _; omega)).trans c00
  have r00 := d00
  rw [Hw1.out] at r00
  have d01 := (hal1.cell (p := ⟨g, off + 1, none⟩) (by show g < _; omega)).trans c01
  have r01 := d01
  rw [Hw1.out] at r01
  have d02 := (hal1.cell (p := ⟨g, off + 2, none⟩) (by show g < _; omega)).trans c02
  have r02 := d02
  rw [Hw1.out] at r02
  have d03 := (hal1.cell (p := ⟨g, off + 3, none⟩) (by show g < _; omega)).trans c03
  have r03 := d03
  rw [Hw1.out] at r03
  have d04 := (hal1.cell (p := ⟨g, off + 4, none⟩) (by show g < _; omega)).trans c04
  have r04 := d04
  rw [Hw1.out] at r04
  have d10 := (hal1.cell (p := ⟨g, off + 5, none⟩) (by show g < _; omega)).trans c10
  have r10 := d10
  rw [Hw1.out] at r10
  have d11 := (hal1.cell (p := ⟨g, off + 5 + 1, none⟩) (by show g < _; omega)).trans c11
  have r11 := d11
  rw [Hw1.out] at r11
  have d12 := (hal1.cell (p := ⟨g, off + 5 + 2, none⟩) (by show g < _; omega)).trans c12
  have r12 := d12
  rw [Hw1.out] at r12
  have d13 := (hal1.cell (p := ⟨g, off + 5 + 3, none⟩) (by show g < _; omega)).trans c13
  have r13 := d13
  rw [Hw1.out] at r13
  have d14 := (hal1.cell (p := ⟨g, off + 5 + 4, none⟩) (by show g < _; omega)).trans c14
  have r14 := d14
  rw [Hw1.out] at r14
  have X2 : ∀ u : ClsS w1, u.1.cell? ⟨w.heap.size, 2, none⟩ = _ := fun u => (u.2.cell (p := ⟨w.heap.size, 2, none⟩) hB1.lt).trans x2
  have C00 : ∀ u : ClsS w1, u.1.cell? ⟨g, off, none⟩ = _ := fun u => (u.2.cell (p := ⟨g, off, none⟩) (by show g < _; omega)).trans d00
  have C01 : ∀ u : ClsS w1, u.1.cell? ⟨g, off + 1, none⟩ = _ := fun u => (u.2.cell (p := ⟨g, off + 1, none⟩) (by show g < _; omega)).trans d01
  have C02 : ∀ u : ClsS w1, u.1.cell? ⟨g, off + 2, none⟩ = _ := fun u => (u.2.cell (p := ⟨g, off + 2, none⟩) (by show g < _; omega)).trans d02
  have C03 : ∀ u : ClsS w1, u.1.cell? ⟨g, off + 3, none⟩ = _ := fun u => (u.2.cell (p := ⟨g, off + 3, none⟩) (by show g < _; omega)).trans d03
  have C04 : ∀ u : ClsS w1, u.1.cell? ⟨g, off + 4, none⟩ = _ := fun u => (u.2.cell (p := ⟨g, off + 4, none⟩) (by show g < _; omega)).trans d04
  have C10 : ∀ u : ClsS w1, u.1.cell? ⟨g, off + 5, none⟩ = _ := fun u => (u.2.cell (p := ⟨g, off + 5, none⟩) (by show g < _; omega)).trans d10
  have C11 : ∀ u : ClsS w1, u.1.cell? ⟨g, off + 5 + 1, none⟩ = _ := fun u => (u.2.cell (p := ⟨g, off + 5 + 1, none⟩) (by show g < _; omega)).trans d11
  have C12 : ∀ u : ClsS w1, u.1.cell? ⟨g, off + 5 + 2, none⟩ = _ := fun u => (u.2.cell (p := ⟨g, off + 5 + 2, none⟩) (by show g < _; omega)).trans d12
  have C13 : ∀ u : ClsS w1, u.1.cell? ⟨g, off + 5 + 3, none⟩ = _ := fun u => (u.2.cell (p := ⟨g, off + 5 + 3, none⟩) (by show g < _; omega)).trans d13
  have C14 : ∀ u : ClsS w1, u.1.cell? ⟨g, off + 5 + 4, none⟩ = _ := fun u => (u.2.cell (p := ⟨g, off + 5 + 4, none⟩) (by show g < _; omega)).trans d14
  clear hl
  have hla := partF_len f 4 a
  have hlc := partF_len f 5 c
  have ad1 : ∀ w, (Op.stringOp .add (bs (partF f 4 a)) ⟨#[32, 92, 47, 32]⟩).run Try.prog w = .ok (.string (bs (partF f 4 a ++ [32, 92, 47, 32]))) w := add_bs (partF f 4 a) [32, 92, 47, 32] (by simp only [List.length_cons, List.length_nil]; omega)
  have ad2 : ∀ w, (Op.stringOp .add (bs (partF f 4 a ++ [32, 92, 47, 32])) (bs (partF f 5 c))).run Try.prog w = .ok (.string (bs ((partF f 4 a ++ [32, 92, 47, 32]) ++ partF f 5 c))) w := add_bs (partF f 4 a ++ [32, 92, 47, 32]) (partF f 5 c) (by rw [List.length_append]; simp only [List.length_cons, List.length_nil]; omega)
  have HcA : Hid (∀ u : ClsS w1, _) := fun u : ClsS w1 => clsS_call u (IH 0 n a _ u.1 (by omega) hoa (by omega) ((hxx0.keep (hal1.mono hn)).keep (u.2.mono hn1)) (Nat.le_trans hn1 u.2.size))
  have HcB : Hid (∀ u : ClsS w1, _) := fun u : ClsS w1 => clsS_call u (IH 1 n c _ u.1 (by omega) hoc (by omega) ((hxx1.keep (hal1.mono hn)).keep (u.2.mono hn1)) (Nat.le_trans hn1 u.2.size))
  go_enter Try.func34, Try.ntmps34
  go_wp2_with fail
  rw [← Hw1.out]
  clear Hw1
  have hne := clsS_any w1
  refine wp_region_clsS (by kernel_rfl) (by kernel_rfl) ?_
  iterate 5 (quiet_step (exact HcA.out _))
  repeat (quiet_step (exact HcB.out _))
  refine wpQuiet_nil ?_
  rintro _ ⟨u, rfl⟩
  obtain ⟨w2, hb2⟩ := u
  have hal2 := chain hal1 hb2
  have hB2 := hB1.blw hb2
  clear x0 x1 x2 x3 x4
  obtain ⟨x0, x1, x2, x3, x4⟩ := hB2.cells
  have hal1b := hb2.mono hn1
  go_wp2_with fail
  have cR := rank_any n t _ w2 (h1.keep (hal1b))
  rw [show rankF t.kind = 0 from HRk.out] at cR
  refine cR.mono ?_
  rintro e w3 ⟨rfl, hb3⟩
  clear cR
  have ad8 := add_bs [40] (partF f 4 a ++ 32 :: 92 :: 47 :: 32 :: partF f 5 c) (by rw [List.length_cons, List.length_nil]; simp only [List.length_append, List.length_cons, List.length_nil]; omega)
  have ad9 := add_bs ([40] ++ (partF f 4 a ++ 32 :: 92 :: 47 :: 32 :: partF f 5 c)) [41] (by rw [List.length_append, List.length_cons, List.length_nil]; simp only [List.length_append, List.length_cons, List.length_nil]; omega)
  go_wp2_with (first | (refine wp_add rfl _ _ rfl _ _ _ rfl rfl ad8 ?_) | (refine wp_add rfl _ _ rfl _ _ _ rfl rfl ad9 ?_))
  go_ret
  exact ⟨by rw [HT.out]; rfl, chain hal2 hb3⟩

set_option maxRecDepth 100000 in
set_option maxHeartbeats 4000000 in
theorem dims_14_2 (f n : Nat) (IH : RDi f) (t : Sx) (v : Value) (w : World) (hok : okF (f + 1) 1 t = true) (hb : blk t ≤ 65536) (h : SxIn n w t v) (hn : n ≤ w.heap.size) (hk : t.kind = 14) : Calls Try.prog 34 #[v, .int .i64 2] w fun e w' => e = .returned (.string (bs (partF (f + 1) 6 t))) ∧ Below w.heap.size w w' := by
  obtain ⟨ka, kc, na, nc, rfl, hN, hK⟩ := h.form
  obtain ⟨w1, hw1⟩ : ∃ w1, w1 = w.alloc (.cells #[.int .i64 t.kind, .string (bs t.name), .slice ka t.kids.length kc, .slice na t.names.length nc, .int .i64 t.at_] 25) := ⟨_, rfl⟩
  have hal1 : Below w.heap.size w w1 := by rw [hw1]; exact below_alloc _ _
  have hB1 : Bx w1 w.heap.size (.int .i64 t.kind) (.string (bs t.name)) (.slice ka t.kids.length kc) (.slice na t.names.length nc) (.int .i64 t.at_) := by rw [hw1]; exact bx_new _ _ _ _ _ _
  have Hw1 : Hid (_ = _) := hw1
  clear hw1
  obtain ⟨x0, x1, x2, x3, x4⟩ := hB1.cells
  have hn1 := Nat.le_trans hn hal1.size
  have h1 := h.keep (hal1.mono hn)
  obtain ⟨a, c, hl, hoa, hoc⟩ := (parts_dim hok).dims (by omega)
  have k0 : kd t 0 = a := by rw [kd_kids hl]; rfl
  have k1 : kd t 1 = c := by rw [kd_kids hl]; rfl
  obtain ⟨g, off, ka0, kc0, na0, nc0, rfl, hg, hxx0, c00, c01, c02, c03, c04⟩ := hK.at (j := 0) (x := a) (by rw [hl]; rfl)
  obtain ⟨g', off', ka1, kc1, na1, nc1, he, _, hxx1, c10, c11, c12, c13, c14⟩ := hK.at (j := 1) (x := c) (by rw [hl]; rfl)
  cases he
  simp only [Nat.zero_mul, Nat.one_mul, Nat.add_zero] at c00 c01 c02 c03 c04 c10 c11 c12 c13 c14
  have hp0 : 0 < t.kids.length := by rw [hl]; simp
  have hp1 : 1 < t.kids.length := by rw [hl]; simp
  have hq1 : (1 : Int) < (t.kids.length : Int) := by omega
  have hba : blk a < blk t := blk_kid (by rw [hl]; simp)
  have hbc : blk c < blk t := blk_kid (by rw [hl]; simp)
  have HT0 : partF (f + 1) 6 t = 40 :: (partF f 4 a ++ 32 :: 92 :: 47 :: 32 :: (partF f 5 c ++ [41])) := by
    have e1 : needB t 6 = true := by unfold needB frontB lastP; rw [hk]; simp
    rw [show partF (f + 1) 6 t = (if needB t 6 then 40 :: (lineF (f + 1) t ++ [41]) else lineF (f + 1) t) from rfl, e1, if_pos rfl, lineF_s]
    unfold lineR
    rw [if_neg (by omega), if_neg (by omega), if_neg (by omega), if_neg (by omega), if_neg (by omega), if_neg (by omega), if_neg (by omega), if_neg (by omega), if_neg (by omega), if_neg (by omega), if_neg (by omega), if_neg (by omega), if_neg (by omega), if_pos (by omega)]
    all_goals (first | rfl | (rw [k0, k1]; rfl) | (rw [k0, k1]; simp; rfl) | (rw [k0]; rfl) | (rw [k0, k1]; simp))
  have HT : Hid (_ = _) := HT0
  clear HT0
  have HRk : Hid (rankF t.kind = 0) := by unfold rankF; rw [hk]; rfl
  have k16 : (t.kind == 16) = false := by rw [hk]; rfl
  have k15 : (t.kind == 15) = false := by rw [hk]; rfl
  have k14 : (t.kind == 14) = true := by rw [hk]; rfl
  clear hk
  have d00 := (hal1.cell (p := ⟨g, off, none⟩) (by show g < _; omega)).trans c00
  have r00 := d00
  rw [Hw1.out] at r00
  have d01 := (hal1.cell (p := ⟨g, off + 1, none⟩) (by show g < _; omega)).trans c01
  have r01 := d01
  rw [Hw1.out] at r01
  have d02 := (hal1.cell (p := ⟨g, off + 2, none⟩) (by show g < _; omega)).trans c02
  have r02 := d02
  rw [Hw1.out] at r02
  have d03 := (hal1.cell (p := ⟨g, off + 3, none⟩) (by show g < _; omega)).trans c03
  have r03 := d03
  rw [Hw1.out] at r03
  have d04 := (hal1.cell (p := ⟨g, off + 4, none⟩) (by show g < _; omega)).trans c04
  have r04 := d04
  rw [Hw1.out] at r04
  have d10 := (hal1.cell (p := ⟨g, off + 5, none⟩) (by show g < _; omega)).trans c10
  have r10 := d10
  rw [Hw1.out] at r10
  have d11 := (hal1.cell (p := ⟨g, off + 5 + 1, none⟩) (by show g < _; omega)).trans c11
  have r11 := d11
  rw [Hw1.out] at r11
  have d12 := (hal1.cell (p := ⟨g, off + 5 + 2, none⟩) (by show g < _; omega)).trans c12
  have r12 := d12
  rw [Hw1.out] at r12
  have d13 := (hal1.cell (p := ⟨g, off + 5 + 3, none⟩) (by show g < _; omega)).trans c13
  have r13 := d13
  rw [Hw1.out] at r13
  have d14 := (hal1.cell (p := ⟨g, off + 5 + 4, none⟩) (by show g < _; omega)).trans c14
  have r14 := d14
  rw [Hw1.out] at r14
  have X2 : ∀ u : ClsS w1, u.1.cell? ⟨w.heap.size, 2, none⟩ = _ := fun u => (u.2.cell (p := ⟨w.heap.size, 2, none⟩) hB1.lt).trans x2
  have C00 : ∀ u : ClsS w1, u.1.cell? ⟨g, off, none⟩ = _ := fun u => (u.2.cell (p := ⟨g, off, none⟩) (by show g < _; omega)).trans d00
  have C01 : ∀ u : ClsS w1, u.1.cell? ⟨g, off + 1, none⟩ = _ := fun u => (u.2.cell (p := ⟨g, off + 1, none⟩) (by show g < _; omega)).trans d01
  have C02 : ∀ u : ClsS w1, u.1.cell? ⟨g, off + 2, none⟩ = _ := fun u => (u.2.cell (p := ⟨g, off + 2, none⟩) (by show g < _; omega)).trans d02
  have C03 : ∀ u : ClsS w1, u.1.cell? ⟨g, off + 3, none⟩ = _ := fun u => (u.2.cell (p := ⟨g, off + 3, none⟩) (by show g < _; omega)).trans d03
  have C04 : ∀ u : ClsS w1, u.1.cell? ⟨g, off + 4, none⟩ = _ := fun u => (u.2.cell (p := ⟨g, off + 4, none⟩) (by show g < _; omega)).trans d04
  have C10 : ∀ u : ClsS w1, u.1.cell? ⟨g, off + 5, none⟩ = _ := fun u => (u.2.cell (p := ⟨g, off + 5, none⟩) (by show g < _; omega)).trans d10
  have C11 : ∀ u : ClsS w1, u.1.cell? ⟨g, off + 5 + 1, none⟩ = _ := fun u => (u.2.cell (p := ⟨g, off + 5 + 1, none⟩) (by show g < _; omega)).trans d11
  have C12 : ∀ u : ClsS w1, u.1.cell? ⟨g, off + 5 + 2, none⟩ = _ := fun u => (u.2.cell (p := ⟨g, off + 5 + 2, none⟩) (by show g < _; omega)).trans d12
  have C13 : ∀ u : ClsS w1, u.1.cell? ⟨g, off + 5 + 3, none⟩ = _ := fun u => (u.2.cell (p := ⟨g, off + 5 + 3, none⟩) (by show g < _; omega)).trans d13
  have C14 : ∀ u : ClsS w1, u.1.cell? ⟨g, off + 5 + 4, none⟩ = _ := fun u => (u.2.cell (p := ⟨g, off + 5 + 4, none⟩) (by show g < _; omega)).trans d14
  clear hl
  have hla := partF_len f 4 a
  have hlc := partF_len f 5 c
  have ad1 : ∀ w, (Op.stringOp .add (bs (partF f 4 a)) ⟨#[32, 92, 47, 32]⟩).run Try.prog w = .ok (.string (bs (partF f 4 a ++ [32, 92, 47, 32]))) w := add_bs (partF f 4 a) [32, 92, 47, 32] (by simp only [List.length_cons, List.length_nil]; omega)
  have ad2 : ∀ w, (Op.stringOp .add (bs (partF f 4 a ++ [32, 92, 47, 32])) (bs (partF f 5 c))).run Try.prog w = .ok (.string (bs ((partF f 4 a ++ [32, 92, 47, 32]) ++ partF f 5 c))) w := add_bs (partF f 4 a ++ [32, 92, 47, 32]) (partF f 5 c) (by rw [List.length_append]; simp only [List.length_cons, List.length_nil]; omega)
  have HcA : Hid (∀ u : ClsS w1, _) := fun u : ClsS w1 => clsS_call u (IH 0 n a _ u.1 (by omega) hoa (by omega) ((hxx0.keep (hal1.mono hn)).keep (u.2.mono hn1)) (Nat.le_trans hn1 u.2.size))
  have HcB : Hid (∀ u : ClsS w1, _) := fun u : ClsS w1 => clsS_call u (IH 1 n c _ u.1 (by omega) hoc (by omega) ((hxx1.keep (hal1.mono hn)).keep (u.2.mono hn1)) (Nat.le_trans hn1 u.2.size))
  go_enter Try.func34, Try.ntmps34
  go_wp2_with fail
  rw [← Hw1.out]
  clear Hw1
  have hne := clsS_any w1
  refine wp_region_clsS (by kernel_rfl) (by kernel_rfl) ?_
  iterate 5 (quiet_step (exact HcA.out _))
  repeat (quiet_step (exact HcB.out _))
  refine wpQuiet_nil ?_
  rintro _ ⟨u, rfl⟩
  obtain ⟨w2, hb2⟩ := u
  have hal2 := chain hal1 hb2
  have hB2 := hB1.blw hb2
  clear x0 x1 x2 x3 x4
  obtain ⟨x0, x1, x2, x3, x4⟩ := hB2.cells
  have hal1b := hb2.mono hn1
  go_wp2_with fail
  have cR := rank_any n t _ w2 (h1.keep (hal1b))
  rw [show rankF t.kind = 0 from HRk.out] at cR
  refine cR.mono ?_
  rintro e w3 ⟨rfl, hb3⟩
  clear cR
  have ad8 := add_bs [40] (partF f 4 a ++ 32 :: 92 :: 47 :: 32 :: partF f 5 c) (by rw [List.length_cons, List.length_nil]; simp only [List.length_append, List.length_cons, List.length_nil]; omega)
  have ad9 := add_bs ([40] ++ (partF f 4 a ++ 32 :: 92 :: 47 :: 32 :: partF f 5 c)) [41] (by rw [List.length_append, List.length_cons, List.length_nil]; simp only [List.length_append, List.length_cons, List.length_nil]; omega)
  go_wp2_with (first | (refine wp_add rfl _ _ rfl _ _ _ rfl rfl ad8 ?_) | (refine wp_add rfl _ _ rfl _ _ _ rfl rfl ad9 ?_))
  go_ret
  exact ⟨by rw [HT.out]; rfl, chain hal2 hb3⟩

theorem dim_kinds {f : Nat} {t : Sx} (h : okF (f + 1) 1 t = true) : t.kind = 1 ∨ t.kind = 17 ∨ t.kind = 16 ∨ t.kind = 15 ∨ t.kind = 14 := by
  rw [okF_s] at h
  have h : dimB (okF f) t = true := h
  unfold dimB at h
  by_cases h1 : t.kind = 1
  · omega
  by_cases h2 : t.kind = 17
  · omega
  by_cases h3 : t.kind = 16
  · omega
  by_cases h4 : t.kind = 15 ∨ t.kind = 14
  · omega
  rw [if_neg h1, if_neg h2, if_neg h3, if_neg h4] at h
  cases h
theorem dims_any : ∀ f, RDi f := by
  intro f
  induction f with
  | zero => intro least n t v w _ hok; rw [okF_z] at hok; cases hok
  | succ f ih =>
    intro least n t v w hl hok hb h hn
    rcases (show least = 0 ∨ least = 1 ∨ least = 2 by omega) with rfl | rfl | rfl
    · rcases dim_kinds hok with hk | hk | hk | hk | hk
      · exact dims_1_0 f n ih t v w hok hb h hn hk
      · exact dims_17_0 f n ih t v w hok hb h hn hk
      · exact dims_16_0 f n ih t v w hok hb h hn hk
      · exact dims_15_0 f n ih t v w hok hb h hn hk
      · exact dims_14_0 f n ih t v w hok hb h hn hk
    · rcases dim_kinds hok with hk | hk | hk | hk | hk
      · exact dims_1_1 f n ih t v w hok hb h hn hk
      · exact dims_17_1 f n ih t v w hok hb h hn hk
      · exact dims_16_1 f n ih t v w hok hb h hn hk
      · exact dims_15_1 f n ih t v w hok hb h hn hk
      · exact dims_14_1 f n ih t v w hok hb h hn hk
    · rcases dim_kinds hok with hk | hk | hk | hk | hk
      · exact dims_1_2 f n ih t v w hok hb h hn hk
      · exact dims_17_2 f n ih t v w hok hb h hn hk
      · exact dims_16_2 f n ih t v w hok hb h hn hk
      · exact dims_15_2 f n ih t v w hok hb h hn hk
      · exact dims_14_2 f n ih t v w hok hb h hn hk
end Go.Proofs.Ytpfnjeefhddikaa
