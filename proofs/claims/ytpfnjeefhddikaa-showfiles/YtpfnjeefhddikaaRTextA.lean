/- Texts of terms, by the document's answer. -/
import Derived.Test.YtpfnjeefhddikaaRTextM
namespace Go.Proofs.Ytpfnjeefhddikaa
open Go.RowKit
set_option linter.unusedVariables false
set_option linter.unusedSimpArgs false

set_option maxRecDepth 100000 in
set_option maxHeartbeats 4000000 in
theorem text_1 (f n L : Nat) (IH : RTx f) (t : Sx) (v : Value) (w : World) (hL : L < 3) (hok : okF (f + 1) 0 t = true) (hb : blk t ≤ 65536) (h : SxIn n w t v) (hn : n ≤ w.heap.size) (hk : t.kind = 1) : Calls Try.prog 19 #[v, .int .i64 (L : Nat)] w fun e w' => e = .returned (.string (bs (partF (f + 1) (plc L) t))) ∧ Below w.heap.size w w' := by
  obtain ⟨ka, kc, na, nc, rfl, hN, hK⟩ := h.form
  have hbs := blk_sum t
  have hnl := blk_nlen t
  have hJ := jn_names_len t
  obtain ⟨w1, hw1⟩ : ∃ w1, w1 = w.alloc (.cells #[.int .i64 t.kind, .string (bs t.name), .slice ka t.kids.length kc, .slice na t.names.length nc, .int .i64 t.at_] 25) := ⟨_, rfl⟩
  have hal1 : Below w.heap.size w w1 := by rw [hw1]; exact below_alloc _ _
  have hB1 : Bx w1 w.heap.size (.int .i64 t.kind) (.string (bs t.name)) (.slice ka t.kids.length kc) (.slice na t.names.length nc) (.int .i64 t.at_) := by rw [hw1]; exact bx_new _ _ _ _ _ _
  have Hw1 : Hid (_ = _) := hw1
  clear hw1
  obtain ⟨x0, x1, x2, x3, x4⟩ := hB1.cells
  have hn1 := Nat.le_trans hn hal1.size
  have h1 := h.keep (hal1.mono hn)
  have hN1 := hN.keep (hal1.mono hn)
  have k0 := hL
  have k1 := hL
  have HT9 : lineF (f + 1) t = t.name := by
    rw [lineF_s]
    unfold lineR
    rw [if_pos (by omega)]
    all_goals (first | rfl | (rw [k0]; rfl) | (rw [k0]; simp; rfl) | (rw [k0, k1]; rfl) | (rw [k0, k1]; simp; rfl) | (rw [k0, k1]; unfold partF; simp))
  have HT00 : partF (f + 1) 0 t = t.name := by
    have e1 : needB t 0 = false := by unfold needB frontB lastP; rw [hk]; simp
    rw [show partF (f + 1) 0 t = (if needB t 0 then 40 :: (lineF (f + 1) t ++ [41]) else lineF (f + 1) t) from rfl, e1, if_neg (by simp), HT9]
    skip
  have HT0 : Hid (_ = _) := HT00
  clear HT00
  have HT10 : partF (f + 1) 2 t = t.name := by
    have e1 : needB t 2 = false := by unfold needB frontB lastP; rw [hk]; simp
    rw [show partF (f + 1) 2 t = (if needB t 2 then 40 :: (lineF (f + 1) t ++ [41]) else lineF (f + 1) t) from rfl, e1, if_neg (by simp), HT9]
    skip
  have HT1 : Hid (_ = _) := HT10
  clear HT10
  have HT20 : partF (f + 1) 3 t = t.name := by
    have e1 : needB t 3 = false := by unfold needB frontB lastP; rw [hk]; simp
    rw [show partF (f + 1) 3 t = (if needB t 3 then 40 :: (lineF (f + 1) t ++ [41]) else lineF (f + 1) t) from rfl, e1, if_neg (by simp), HT9]
    skip
  have HT2 : Hid (_ = _) := HT20
  clear HT20
  clear HT9
  have kk1 : (t.kind == 1) = true := by rw [hk]; rfl
  have kk2 : (t.kind == 2) = false := by rw [hk]; rfl
  have kk3 : (t.kind == 3) = false := by rw [hk]; rfl
  have kk4 : (t.kind == 4) = false := by rw [hk]; rfl
  have kk5 : (t.kind == 5) = false := by rw [hk]; rfl
  have kk6 : (t.kind == 6) = false := by rw [hk]; rfl
  have kk7 : (t.kind == 7) = false := by rw [hk]; rfl
  have kk8 : (t.kind == 8) = false := by rw [hk]; rfl
  have kk9 : (t.kind == 9) = false := by rw [hk]; rfl
  have kk10 : (t.kind == 10) = false := by rw [hk]; rfl
  clear hk
  go_enter Try.func19, Try.ntmps19
  go_wp2_with fail
  rw [← Hw1.out]
  clear Hw1
  rcases (show L = 0 ∨ L = 1 ∨ L = 2 by omega) with rfl | rfl | rfl
  · go_wp2_with fail
    go_ret
    exact ⟨by rw [show plc 0 = 0 from rfl, HT0.out]; rfl, hal1⟩
  · go_wp2_with fail
    go_ret
    exact ⟨by rw [show plc 1 = 2 from rfl, HT1.out]; rfl, hal1⟩
  · go_wp2_with fail
    go_ret
    exact ⟨by rw [show plc 2 = 3 from rfl, HT2.out]; rfl, hal1⟩

set_option maxRecDepth 100000 in
set_option maxHeartbeats 4000000 in
theorem text_2 (f n L : Nat) (IH : RTx f) (t : Sx) (v : Value) (w : World) (hL : L < 3) (hok : okF (f + 1) 0 t = true) (hb : blk t ≤ 65536) (h : SxIn n w t v) (hn : n ≤ w.heap.size) (hk : t.kind = 2) : Calls Try.prog 19 #[v, .int .i64 (L : Nat)] w fun e w' => e = .returned (.string (bs (partF (f + 1) (plc L) t))) ∧ Below w.heap.size w w' := by
  obtain ⟨ka, kc, na, nc, rfl, hN, hK⟩ := h.form
  have hbs := blk_sum t
  have hnl := blk_nlen t
  have hJ := jn_names_len t
  obtain ⟨w1, hw1⟩ : ∃ w1, w1 = w.alloc (.cells #[.int .i64 t.kind, .string (bs t.name), .slice ka t.kids.length kc, .slice na t.names.length nc, .int .i64 t.at_] 25) := ⟨_, rfl⟩
  have hal1 : Below w.heap.size w w1 := by rw [hw1]; exact below_alloc _ _
  have hB1 : Bx w1 w.heap.size (.int .i64 t.kind) (.string (bs t.name)) (.slice ka t.kids.length kc) (.slice na t.names.length nc) (.int .i64 t.at_) := by rw [hw1]; exact bx_new _ _ _ _ _ _
  have Hw1 : Hid (_ = _) := hw1
  clear hw1
  obtain ⟨x0, x1, x2, x3, x4⟩ := hB1.cells
  have hn1 := Nat.le_trans hn hal1.size
  have h1 := h.keep (hal1.mono hn)
  have hN1 := hN.keep (hal1.mono hn)
  obtain ⟨_, a, hl, hoa⟩ := (parts_term hok).one (by omega)
  obtain ⟨g, off, ka0, kc0, na0, nc0, rfl, hg, hxx0, c00, c01, c02, c03, c04⟩ := hK.at (j := 0) (x := a) (by rw [hl]; rfl)
  simp only [Nat.zero_mul, Nat.add_zero] at c00 c01 c02 c03 c04
  have hp0 : 0 < t.kids.length := by rw [hl]; simp
  have hba : blk a < blk t := blk_kid (by rw [hl]; simp)
  have k0 : kd t 0 = a := by rw [kd_kids hl]; rfl
  have k1 := hL
  have HT9 : lineF (f + 1) t = (92 :: ((jn [32] t.names) ++ (46 :: 32 :: (partF f 0 a)))) := by
    rw [lineF_s]
    unfold lineR
    rw [if_neg (by omega), if_pos (by omega)]
    all_goals (first | rfl | (rw [k0]; rfl) | (rw [k0]; simp; rfl) | (rw [k0, k1]; rfl) | (rw [k0, k1]; simp; rfl) | (rw [k0, k1]; unfold partF; simp))
  have HT00 : partF (f + 1) 0 t = (92 :: ((jn [32] t.names) ++ (46 :: 32 :: (partF f 0 a)))) := by
    have e1 : needB t 0 = false := by unfold needB frontB lastP; rw [hk]; simp
    rw [show partF (f + 1) 0 t = (if needB t 0 then 40 :: (lineF (f + 1) t ++ [41]) else lineF (f + 1) t) from rfl, e1, if_neg (by simp), HT9]
    skip
  have HT0 : Hid (_ = _) := HT00
  clear HT00
  have HT10 : partF (f + 1) 2 t = (40 :: 92 :: ((jn [32] t.names) ++ (46 :: 32 :: ((partF f 0 a) ++ [41])))) := by
    have e1 : needB t 2 = true := by unfold needB frontB lastP; rw [hk]; simp
    rw [show partF (f + 1) 2 t = (if needB t 2 then 40 :: (lineF (f + 1) t ++ [41]) else lineF (f + 1) t) from rfl, e1, if_pos rfl, HT9]
    simp
  have HT1 : Hid (_ = _) := HT10
  clear HT10
  have HT20 : partF (f + 1) 3 t = (40 :: 92 :: ((jn [32] t.names) ++ (46 :: 32 :: ((partF f 0 a) ++ [41])))) := by
    have e1 : needB t 3 = true := by unfold needB frontB lastP; rw [hk]; simp
    rw [show partF (f + 1) 3 t = (if needB t 3 then 40 :: (lineF (f + 1) t ++ [41]) else lineF (f + 1) t) from rfl, e1, if_pos rfl, HT9]
    simp
  have HT2 : Hid (_ = _) := HT20
  clear HT20
  clear HT9
  have kk1 : (t.kind == 1) = false := by rw [hk]; rfl
  have kk2 : (t.kind == 2) = true := by rw [hk]; rfl
  have kk3 : (t.kind == 3) = false := by rw [hk]; rfl
  have kk4 : (t.kind == 4) = false := by rw [hk]; rfl
  have kk5 : (t.kind == 5) = false := by rw [hk]; rfl
  have kk6 : (t.kind == 6) = false := by rw [hk]; rfl
  have kk7 : (t.kind == 7) = false := by rw [hk]; rfl
  have kk8 : (t.kind == 8) = false := by rw [hk]; rfl
  have kk9 : (t.kind == 9) = false := by rw [hk]; rfl
  have kk10 : (t.kind == 10) = false := by rw [hk]; rfl
  clear hk
  have d00 := (hal1.cell (p := ⟨g, off, none⟩) (by show g < _; omega)).trans c00
  have r00 := d00
  rw [Hw1.out] at r00
  have d01 := (hal1.cell (p := ⟨g, off + 1, none⟩) (by show g < _; omega)).trans c01
  have r01 := d01
  rw [Hw1.out] at r01
  have d02 := (hal1.cell (p := ⟨g, off + 2, none⟩) (by show g < _; omega)).trans c02
  have r02 := d02
  rw [Hw1.out] at r02
  have d03 := (hal1.cell (p := ⟨g, off + 3, none⟩) (by show g < _; omega)).trans c03
  have r03 := d03
  rw [Hw1.out] at r03
  have d04 := (hal1.cell (p := ⟨g, off + 4, none⟩) (by show g < _; omega)).trans c04
  have r04 := d04
  rw [Hw1.out] at r04
  have X2 : ∀ u : ClsS w1, u.1.cell? ⟨w.heap.size, 2, none⟩ = _ := fun u => (u.2.cell (p := ⟨w.heap.size, 2, none⟩) hB1.lt).trans x2
  have X3 : ∀ u : ClsS w1, u.1.cell? ⟨w.heap.size, 3, none⟩ = _ := fun u => (u.2.cell (p := ⟨w.heap.size, 3, none⟩) hB1.lt).trans x3
  have C00 : ∀ u : ClsS w1, u.1.cell? ⟨g, off, none⟩ = _ := fun u => (u.2.cell (p := ⟨g, off, none⟩) (by show g < _; omega)).trans d00
  have C01 : ∀ u : ClsS w1, u.1.cell? ⟨g, off + 1, none⟩ = _ := fun u => (u.2.cell (p := ⟨g, off + 1, none⟩) (by show g < _; omega)).trans d01
  have C02 : ∀ u : ClsS w1, u.1.cell? ⟨g, off + 2, none⟩ = _ := fun u => (u.2.cell (p := ⟨g, off + 2, none⟩) (by show g < _; omega)).trans d02
  have C03 : ∀ u : ClsS w1, u.1.cell? ⟨g, off + 3, none⟩ = _ := fun u => (u.2.cell (p := ⟨g, off + 3, none⟩) (by show g < _; omega)).trans d03
  have C04 : ∀ u : ClsS w1, u.1.cell? ⟨g, off + 4, none⟩ = _ := fun u => (u.2.cell (p := ⟨g, off + 4, none⟩) (by show g < _; omega)).trans d04
  clear hl
  have hla := partF_len f 0 a
  have ad1 : ∀ w, (Op.stringOp .add (⟨#[92]⟩) (bs (jn [32] t.names))).run Try.prog w = .ok (.string (bs (92 :: (jn [32] t.names)))) w := add_as (a := [92]) (b := (jn [32] t.names)) (by simp) (by simp; omega)
  have ad2 : ∀ w, (Op.stringOp .add (bs (92 :: (jn [32] t.names))) (⟨#[46, 32]⟩)).run Try.prog w = .ok (.string (bs (92 :: ((jn [32] t.names) ++ [46, 32])))) w := add_as (a := (92 :: (jn [32] t.names))) (b := [46, 32]) (by simp) (by simp; omega)
  have ad3 : ∀ w, (Op.stringOp .add (bs (92 :: ((jn [32] t.names) ++ [46, 32]))) (bs (partF f 0 a))).run Try.prog w = .ok (.string (bs (92 :: ((jn [32] t.names) ++ (46 :: 32 :: (partF f 0 a)))))) w := add_as (a := (92 :: ((jn [32] t.names) ++ [46, 32]))) (b := (partF f 0 a)) (by simp) (by simp; omega)
  have HcJ : Hid (∀ u : ClsS w1, _) := fun u : ClsS w1 => clsS_call u (join_names (hN1.keep (u.2.mono hn1)) (Nat.le_trans hn1 u.2.size) (by omega) (by omega))
  have HcA : Hid (∀ u : ClsS w1, _) := fun u : ClsS w1 => clsS_call u (IH.at0 n a _ u.1 hoa (by omega) ((hxx0.keep (hal1.mono hn)).keep (u.2.mono hn1)) (Nat.le_trans hn1 u.2.size))
  go_enter Try.func19, Try.ntmps19
  go_wp2_with fail
  rw [← Hw1.out]
  clear Hw1
  have hne := clsS_any w1
  refine wp_region_clsS (by kernel_rfl) (by kernel_rfl) ?_
  iterate 3 (quiet_step (exact HcJ.out _))
  repeat (quiet_step (exact HcA.out _))
  refine wpQuiet_nil ?_
  rintro _ ⟨u, rfl⟩
  obtain ⟨w2, hb2⟩ := u
  have hal2 := chain hal1 hb2
  have ad8 : ∀ w, (Op.stringOp .add (⟨#[40]⟩) (bs (92 :: ((jn [32] t.names) ++ (46 :: 32 :: (partF f 0 a)))))).run Try.prog w = .ok (.string (bs (40 :: 92 :: ((jn [32] t.names) ++ (46 :: 32 :: (partF f 0 a)))))) w := add_as (a := [40]) (b := (92 :: ((jn [32] t.names) ++ (46 :: 32 :: (partF f 0 a))))) (by simp) (by simp; omega)
  have ad9 : ∀ w, (Op.stringOp .add (bs (40 :: 92 :: ((jn [32] t.names) ++ (46 :: 32 :: (partF f 0 a))))) (⟨#[41]⟩)).run Try.prog w = .ok (.string (bs (40 :: 92 :: ((jn [32] t.names) ++ (46 :: 32 :: ((partF f 0 a) ++ [41])))))) w := add_as (a := (40 :: 92 :: ((jn [32] t.names) ++ (46 :: 32 :: (partF f 0 a))))) (b := [41]) (by simp) (by simp; omega)
  rcases (show L = 0 ∨ L = 1 ∨ L = 2 by omega) with rfl | rfl | rfl
  · go_wp2_with fail
    go_ret
    exact ⟨by rw [show plc 0 = 0 from rfl, HT0.out]; rfl, hal2⟩
  · go_wp2_with (first | (refine wp_add rfl _ _ rfl _ _ _ rfl rfl ad8 ?_) | (refine wp_add rfl _ _ rfl _ _ _ rfl rfl ad9 ?_))
    go_ret
    exact ⟨by rw [show plc 1 = 2 from rfl, HT1.out]; rfl, hal2⟩
  · go_wp2_with (first | (refine wp_add rfl _ _ rfl _ _ _ rfl rfl ad8 ?_) | (refine wp_add rfl _ _ rfl _ _ _ rfl rfl ad9 ?_))
    go_ret
    exact ⟨by rw [show plc 2 = 3 from rfl, HT2.out]; rfl, hal2⟩

set_option maxRecDepth 100000 in
set_option maxHeartbeats 4000000 in
theorem text_3 (f n L : Nat) (IH : RTx f) (t : Sx) (v : Value) (w : World) (hL : L < 3) (hok : okF (f + 1) 0 t = true) (hb : blk t ≤ 65536) (h : SxIn n w t v) (hn : n ≤ w.heap.size) (hk : t.kind = 3) : Calls Try.prog 19 #[v, .int .i64 (L : Nat)] w fun e w' => e = .returned (.string (bs (partF (f + 1) (plc L) t))) ∧ Below w.heap.size w w' := by
  obtain ⟨ka, kc, na, nc, rfl, hN, hK⟩ := h.form
  have hbs := blk_sum t
  have hnl := blk_nlen t
  have hJ := jn_names_len t
  obtain ⟨w1, hw1⟩ : ∃ w1, w1 = w.alloc (.cells #[.int .i64 t.kind, .string (bs t.name), .slice ka t.kids.length kc, .slice na t.names.length nc, .int .i64 t.at_] 25) := ⟨_, rfl⟩
  have hal1 : Below w.heap.size w w1 := by rw [hw1]; exact below_alloc _ _
  have hB1 : Bx w1 w.heap.size (.int .i64 t.kind) (.string (bs t.name)) (.slice ka t.kids.length kc) (.slice na t.names.length nc) (.int .i64 t.at_) := by rw [hw1]; exact bx_new _ _ _ _ _ _
  have Hw1 : Hid (_ = _) := hw1
  clear hw1
  obtain ⟨x0, x1, x2, x3, x4⟩ := hB1.cells
  have hn1 := Nat.le_trans hn hal1.size
  have h1 := h.keep (hal1.mono hn)
  have hN1 := hN.keep (hal1.mono hn)
  obtain ⟨_, a, hl, hoa⟩ := (parts_term hok).one (by omega)
  obtain ⟨g, off, ka0, kc0, na0, nc0, rfl, hg, hxx0, c00, c01, c02, c03, c04⟩ := hK.at (j := 0) (x := a) (by rw [hl]; rfl)
  simp only [Nat.zero_mul, Nat.add_zero] at c00 c01 c02 c03 c04
  have hp0 : 0 < t.kids.length := by rw [hl]; simp
  have hba : blk a < blk t := blk_kid (by rw [hl]; simp)
  have k0 : kd t 0 = a := by rw [kd_kids hl]; rfl
  have k1 := hL
  have HT9 : lineF (f + 1) t = (60 :: ((jn [32] t.names) ++ (62 :: 32 :: (partF f 0 a)))) := by
    rw [lineF_s]
    unfold lineR
    rw [if_neg (by omega), if_neg (by omega), if_pos (by omega)]
    all_goals (first | rfl | (rw [k0]; rfl) | (rw [k0]; simp; rfl) | (rw [k0, k1]; rfl) | (rw [k0, k1]; simp; rfl) | (rw [k0, k1]; unfold partF; simp))
  have HT00 : partF (f + 1) 0 t = (60 :: ((jn [32] t.names) ++ (62 :: 32 :: (partF f 0 a)))) := by
    have e1 : needB t 0 = false := by unfold needB frontB lastP; rw [hk]; simp
    rw [show partF (f + 1) 0 t = (if needB t 0 then 40 :: (lineF (f + 1) t ++ [41]) else lineF (f + 1) t) from rfl, e1, if_neg (by simp), HT9]
    skip
  have HT0 : Hid (_ = _) := HT00
  clear HT00
  have HT10 : partF (f + 1) 2 t = (40 :: 60 :: ((jn [32] t.names) ++ (62 :: 32 :: ((partF f 0 a) ++ [41])))) := by
    have e1 : needB t 2 = true := by unfold needB frontB lastP; rw [hk]; simp
    rw [show partF (f + 1) 2 t = (if needB t 2 then 40 :: (lineF (f + 1) t ++ [41]) else lineF (f + 1) t) from rfl, e1, if_pos rfl, HT9]
    simp
  have HT1 : Hid (_ = _) := HT10
  clear HT10
  have HT20 : partF (f + 1) 3 t = (40 :: 60 :: ((jn [32] t.names) ++ (62 :: 32 :: ((partF f 0 a) ++ [41])))) := by
    have e1 : needB t 3 = true := by unfold needB frontB lastP; rw [hk]; simp
    rw [show partF (f + 1) 3 t = (if needB t 3 then 40 :: (lineF (f + 1) t ++ [41]) else lineF (f + 1) t) from rfl, e1, if_pos rfl, HT9]
    simp
  have HT2 : Hid (_ = _) := HT20
  clear HT20
  clear HT9
  have kk1 : (t.kind == 1) = false := by rw [hk]; rfl
  have kk2 : (t.kind == 2) = false := by rw [hk]; rfl
  have kk3 : (t.kind == 3) = true := by rw [hk]; rfl
  have kk4 : (t.kind == 4) = false := by rw [hk]; rfl
  have kk5 : (t.kind == 5) = false := by rw [hk]; rfl
  have kk6 : (t.kind == 6) = false := by rw [hk]; rfl
  have kk7 : (t.kind == 7) = false := by rw [hk]; rfl
  have kk8 : (t.kind == 8) = false := by rw [hk]; rfl
  have kk9 : (t.kind == 9) = false := by rw [hk]; rfl
  have kk10 : (t.kind == 10) = false := by rw [hk]; rfl
  clear hk
  have d00 := (hal1.cell (p := ⟨g, off, none⟩) (by show g < _; omega)).trans c00
  have r00 := d00
  rw [Hw1.out] at r00
  have d01 := (hal1.cell (p := ⟨g, off + 1, none⟩) (by show g < _; omega)).trans c01
  have r01 := d01
  rw [Hw1.out] at r01
  have d02 := (hal1.cell (p := ⟨g, off + 2, none⟩) (by show g < _; omega)).trans c02
  have r02 := d02
  rw [Hw1.out] at r02
  have d03 := (hal1.cell (p := ⟨g, off + 3, none⟩) (by show g < _; omega)).trans c03
  have r03 := d03
  rw [Hw1.out] at r03
  have d04 := (hal1.cell (p := ⟨g, off + 4, none⟩) (by show g < _; omega)).trans c04
  have r04 := d04
  rw [Hw1.out] at r04
  have X2 : ∀ u : ClsS w1, u.1.cell? ⟨w.heap.size, 2, none⟩ = _ := fun u => (u.2.cell (p := ⟨w.heap.size, 2, none⟩) hB1.lt).trans x2
  have X3 : ∀ u : ClsS w1, u.1.cell? ⟨w.heap.size, 3, none⟩ = _ := fun u => (u.2.cell (p := ⟨w.heap.size, 3, none⟩) hB1.lt).trans x3
  have C00 : ∀ u : ClsS w1, u.1.cell? ⟨g, off, none⟩ = _ := fun u => (u.2.cell (p := ⟨g, off, none⟩) (by show g < _; omega)).trans d00
  have C01 : ∀ u : ClsS w1, u.1.cell? ⟨g, off + 1, none⟩ = _ := fun u => (u.2.cell (p := ⟨g, off + 1, none⟩) (by show g < _; omega)).trans d01
  have C02 : ∀ u : ClsS w1, u.1.cell? ⟨g, off + 2, none⟩ = _ := fun u => (u.2.cell (p := ⟨g, off + 2, none⟩) (by show g < _; omega)).trans d02
  have C03 : ∀ u : ClsS w1, u.1.cell? ⟨g, off + 3, none⟩ = _ := fun u => (u.2.cell (p := ⟨g, off + 3, none⟩) (by show g < _; omega)).trans d03
  have C04 : ∀ u : ClsS w1, u.1.cell? ⟨g, off + 4, none⟩ = _ := fun u => (u.2.cell (p := ⟨g, off + 4, none⟩) (by show g < _; omega)).trans d04
  clear hl
  have hla := partF_len f 0 a
  have ad1 : ∀ w, (Op.stringOp .add (⟨#[60]⟩) (bs (jn [32] t.names))).run Try.prog w = .ok (.string (bs (60 :: (jn [32] t.names)))) w := add_as (a := [60]) (b := (jn [32] t.names)) (by simp) (by simp; omega)
  have ad2 : ∀ w, (Op.stringOp .add (bs (60 :: (jn [32] t.names))) (⟨#[62, 32]⟩)).run Try.prog w = .ok (.string (bs (60 :: ((jn [32] t.names) ++ [62, 32])))) w := add_as (a := (60 :: (jn [32] t.names))) (b := [62, 32]) (by simp) (by simp; omega)
  have ad3 : ∀ w, (Op.stringOp .add (bs (60 :: ((jn [32] t.names) ++ [62, 32]))) (bs (partF f 0 a))).run Try.prog w = .ok (.string (bs (60 :: ((jn [32] t.names) ++ (62 :: 32 :: (partF f 0 a)))))) w := add_as (a := (60 :: ((jn [32] t.names) ++ [62, 32]))) (b := (partF f 0 a)) (by simp) (by simp; omega)
  have HcJ : Hid (∀ u : ClsS w1, _) := fun u : ClsS w1 => clsS_call u (join_names (hN1.keep (u.2.mono hn1)) (Nat.le_trans hn1 u.2.size) (by omega) (by omega))
  have HcA : Hid (∀ u : ClsS w1, _) := fun u : ClsS w1 => clsS_call u (IH.at0 n a _ u.1 hoa (by omega) ((hxx0.keep (hal1.mono hn)).keep (u.2.mono hn1)) (Nat.le_trans hn1 u.2.size))
  go_enter Try.func19, Try.ntmps19
  go_wp2_with fail
  rw [← Hw1.out]
  clear Hw1
  have hne := clsS_any w1
  refine wp_region_clsS (by kernel_rfl) (by kernel_rfl) ?_
  iterate 3 (quiet_step (exact HcJ.out _))
  repeat (quiet_step (exact HcA.out _))
  refine wpQuiet_nil ?_
  rintro _ ⟨u, rfl⟩
  obtain ⟨w2, hb2⟩ := u
  have hal2 := chain hal1 hb2
  have ad8 : ∀ w, (Op.stringOp .add (⟨#[40]⟩) (bs (60 :: ((jn [32] t.names) ++ (62 :: 32 :: (partF f 0 a)))))).run Try.prog w = .ok (.string (bs (40 :: 60 :: ((jn [32] t.names) ++ (62 :: 32 :: (partF f 0 a)))))) w := add_as (a := [40]) (b := (60 :: ((jn [32] t.names) ++ (62 :: 32 :: (partF f 0 a))))) (by simp) (by simp; omega)
  have ad9 : ∀ w, (Op.stringOp .add (bs (40 :: 60 :: ((jn [32] t.names) ++ (62 :: 32 :: (partF f 0 a))))) (⟨#[41]⟩)).run Try.prog w = .ok (.string (bs (40 :: 60 :: ((jn [32] t.names) ++ (62 :: 32 :: ((partF f 0 a) ++ [41])))))) w := add_as (a := (40 :: 60 :: ((jn [32] t.names) ++ (62 :: 32 :: (partF f 0 a))))) (b := [41]) (by simp) (by simp; omega)
  rcases (show L = 0 ∨ L = 1 ∨ L = 2 by omega) with rfl | rfl | rfl
  · go_wp2_with fail
    go_ret
    exact ⟨by rw [show plc 0 = 0 from rfl, HT0.out]; rfl, hal2⟩
  · go_wp2_with (first | (refine wp_add rfl _ _ rfl _ _ _ rfl rfl ad8 ?_) | (refine wp_add rfl _ _ rfl _ _ _ rfl rfl ad9 ?_))
    go_ret
    exact ⟨by rw [show plc 1 = 2 from rfl, HT1.out]; rfl, hal2⟩
  · go_wp2_with (first | (refine wp_add rfl _ _ rfl _ _ _ rfl rfl ad8 ?_) | (refine wp_add rfl _ _ rfl _ _ _ rfl rfl ad9 ?_))
    go_ret
    exact ⟨by rw [show plc 2 = 3 from rfl, HT2.out]; rfl, hal2⟩

end Go.Proofs.Ytpfnjeefhddikaa
