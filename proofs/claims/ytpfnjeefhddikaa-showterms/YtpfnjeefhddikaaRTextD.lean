/- Texts of terms, by the document's answer. -/
import Derived.Test.YtpfnjeefhddikaaRTextM
namespace Go.Proofs.Ytpfnjeefhddikaa
open Go.RowKit
set_option linter.unusedVariables false
set_option linter.unusedSimpArgs false

set_option maxRecDepth 100000 in
set_option maxHeartbeats 4000000 in
theorem text_4_name (f n L : Nat) (IH : RTx f) (t : Sx) (v : Value) (w : World) (hL : L < 3) (hok : okF (f + 1) 0 t = true) (hb : blk t ≤ 65536) (h : SxIn n w t v) (hn : n ≤ w.heap.size) (hk : t.kind = 4) (x : Bs) (hnm : t.names = [x]) : Calls Try.prog 19 #[v, .int .i64 (L : Nat)] w fun e w' => e = .returned (.string (bs (partF (f + 1) (plc L) t))) ∧ Below w.heap.size w w' := by
  obtain ⟨ka, kc, na, nc, rfl, hN, hK⟩ := h.form
  have hbs := blk_sum t
  have hnl := blk_nlen t
  have hJ := jn_names_len t
  obtain ⟨w1, hw1⟩ : ∃ w1, w1 = w.alloc (.cells #[.int .i64 t.kind, .string (bs t.name), .slice ka t.kids.length kc, .slice na t.names.length nc, .int .i64 t.at_] 25) := ⟨_, rfl⟩
  have hal1 : Below w.heap.size w w1 := by rw [hw1]; exact below_alloc _ _
  have hB1 : Bx w1 w.heap.size (.int .i64 t.kind) (.string (bs t.name)) (.slice ka t.kids.length kc) (.slice na t.names.length nc) (.int .i64 t.at_) := by rw [hw1]; exact bx_new _ _ _ _ _ _
  have Hw1 : Hid (_ = _) := hw1
  clear hw1
  obtain ⟨x0, x1, x2, x3, x4⟩ := hB1.cells
  have hn1 := Nat.le_trans hn hal1.size
  have h1 := h.keep (hal1.mono hn)
  have hN1 := hN.keep (hal1.mono hn)
  obtain ⟨_, a, c, hl, hoa, hoc⟩ := (parts_term hok).bind (by omega)
  obtain ⟨g, off, ka0, kc0, na0, nc0, rfl, hg, hxx0, c00, c01, c02, c03, c04⟩ := hK.at (j := 0) (x := a) (by rw [hl]; rfl)
  obtain ⟨g', off', ka1, kc1, na1, nc1, he, _, hxx1, c10, c11, c12, c13, c14⟩ := hK.at (j := 1) (x := c) (by rw [hl]; rfl)
  cases he
  simp only [Nat.zero_mul, Nat.one_mul, Nat.add_zero] at c00 c01 c02 c03 c04 c10 c11 c12 c13 c14
  have hp0 : 0 < t.kids.length := by rw [hl]; simp
  have hp1 : 1 < t.kids.length := by rw [hl]; simp
  have hq1 : (1 : Int) < (t.kids.length : Int) := by omega
  have hba : blk a < blk t := blk_kid (by rw [hl]; simp)
  have hbc : blk c < blk t := blk_kid (by rw [hl]; simp)
  have k0 : kd t 0 = a := by rw [kd_kids hl]; rfl
  have k1 : kd t 1 = c := by rw [kd_kids hl]; rfl
  have HT9 : lineF (f + 1) t = (40 :: (x ++ (32 :: 58 :: 32 :: ((partF f 0 a) ++ (41 :: 32 :: 45 :: 62 :: 32 :: (partF f 0 c)))))) := by
    rw [lineF_s]
    unfold lineR
    rw [if_neg (by omega), if_neg (by omega), if_neg (by omega), if_pos (by omega)]
    unfold arrowR
    rw [hnm, if_neg (by simp), k0, k1]
    all_goals (first | rfl | (simp; done) | (simp; rfl) | (unfold partF; simp) | (rw [k0]; rfl) | (rw [k0]; simp; rfl) | (rw [k0, k1]; rfl) | (rw [k0, k1]; simp; rfl) | (rw [k0, k1]; unfold partF; simp))
  have HT00 : partF (f + 1) 0 t = (40 :: (x ++ (32 :: 58 :: 32 :: ((partF f 0 a) ++ (41 :: 32 :: 45 :: 62 :: 32 :: (partF f 0 c)))))) := by
    have e1 : needB t 0 = false := by unfold needB frontB lastP; rw [hk]; simp
    rw [show partF (f + 1) 0 t = (if needB t 0 then 40 :: (lineF (f + 1) t ++ [41]) else lineF (f + 1) t) from rfl, e1, if_neg (by simp), HT9]
    skip
  have HT0 : Hid (_ = _) := HT00
  clear HT00
  have HT10 : partF (f + 1) 2 t = (40 :: 40 :: (x ++ (32 :: 58 :: 32 :: ((partF f 0 a) ++ (41 :: 32 :: 45 :: 62 :: 32 :: ((partF f 0 c) ++ [41])))))) := by
    have e1 : needB t 2 = true := by unfold needB frontB lastP; rw [hk]; simp
    rw [show partF (f + 1) 2 t = (if needB t 2 then 40 :: (lineF (f + 1) t ++ [41]) else lineF (f + 1) t) from rfl, e1, if_pos rfl, HT9]
    simp
  have HT1 : Hid (_ = _) := HT10
  clear HT10
  have HT20 : partF (f + 1) 3 t = (40 :: 40 :: (x ++ (32 :: 58 :: 32 :: ((partF f 0 a) ++ (41 :: 32 :: 45 :: 62 :: 32 :: ((partF f 0 c) ++ [41])))))) := by
    have e1 : needB t 3 = true := by unfold needB frontB lastP; rw [hk]; simp
    rw [show partF (f + 1) 3 t = (if needB t 3 then 40 :: (lineF (f + 1) t ++ [41]) else lineF (f + 1) t) from rfl, e1, if_pos rfl, HT9]
    simp
  have HT2 : Hid (_ = _) := HT20
  clear HT20
  clear HT9
  have kk1 : (t.kind == 1) = false := by rw [hk]; rfl
  have kk2 : (t.kind == 2) = false := by rw [hk]; rfl
  have kk3 : (t.kind == 3) = false := by rw [hk]; rfl
  have kk4 : (t.kind == 4) = true := by rw [hk]; rfl
  have kk5 : (t.kind == 5) = false := by rw [hk]; rfl
  have kk6 : (t.kind == 6) = false := by rw [hk]; rfl
  have kk7 : (t.kind == 7) = false := by rw [hk]; rfl
  have kk8 : (t.kind == 8) = false := by rw [hk]; rfl
  have kk9 : (t.kind == 9) = false := by rw [hk]; rfl
  have kk10 : (t.kind == 10) = false := by rw [hk]; rfl
  obtain ⟨w2, hw2⟩ : ∃ w2, w2 = w1.alloc (.cells #[.int .i64 a.kind, .string (bs a.name), .slice ka0 a.kids.length kc0, .slice na0 a.names.length nc0, .int .i64 a.at_] 25) := ⟨_, rfl⟩
  have hs1 : w1.heap.size = w.heap.size + 1 := by rw [Hw1.out]; exact alloc_size1 _ _
  have hb12 : Below w1.heap.size w1 w2 := by rw [hw2]; exact below_alloc _ _
  have hB2 : Bx w2 (w.heap.size + 1) (.int .i64 a.kind) (.string (bs a.name)) (.slice ka0 a.kids.length kc0) (.slice na0 a.names.length nc0) (.int .i64 a.at_) := by rw [hw2, ← hs1]; exact bx_new _ _ _ _ _ _
  have Hw2 : Hid (_ = _) := hw2
  clear hw2
  have hal2 := chain hal1 hb12
  have hn2 := Nat.le_trans hn1 hb12.size
  have d00 := (hal1.cell (p := ⟨g, off, none⟩) (by show g < _; omega)).trans c00
  have r00 := d00
  rw [Hw1.out] at r00
  have d01 := (hal1.cell (p := ⟨g, off + 1, none⟩) (by show g < _; omega)).trans c01
  have r01 := d01
  rw [Hw1.out] at r01
  have d02 := (hal1.cell (p := ⟨g, off + 2, none⟩) (by show g < _; omega)).trans c02
  have r02 := d02
  rw [Hw1.out] at r02
  have d03 := (hal1.cell (p := ⟨g, off + 3, none⟩) (by show g < _; omega)).trans c03
  have r03 := d03
  rw [Hw1.out] at r03
  have d04 := (hal1.cell (p := ⟨g, off + 4, none⟩) (by show g < _; omega)).trans c04
  have r04 := d04
  rw [Hw1.out] at r04
  have d10 := (hal1.cell (p := ⟨g, off + 5, none⟩) (by show g < _; omega)).trans c10
  have r10 := d10
  rw [Hw1.out] at r10
  have d11 := (hal1.cell (p := ⟨g, off + 5 + 1, none⟩) (by show g < _; omega)).trans c11
  have r11 := d11
  rw [Hw1.out] at r11
  have d12 := (hal1.cell (p := ⟨g, off + 5 + 2, none⟩) (by show g < _; omega)).trans c12
  have r12 := d12
  rw [Hw1.out] at r12
  have d13 := (hal1.cell (p := ⟨g, off + 5 + 3, none⟩) (by show g < _; omega)).trans c13
  have r13 := d13
  rw [Hw1.out] at r13
  have d14 := (hal1.cell (p := ⟨g, off + 5 + 4, none⟩) (by show g < _; omega)).trans c14
  have r14 := d14
  rw [Hw1.out] at r14
  have en1 : ((t.names.length : Int) == 1) = true := by rw [hnm]; rfl
  have hpn : 0 < t.names.length := by rw [hnm]; simp
  obtain ⟨na', nc', eN, _, hNc⟩ := hN
  cases eN
  obtain ⟨gn, on, rfl, hgn, cn⟩ := hNc 0 x (by rw [hnm]; rfl)
  simp only [Nat.add_zero] at cn
  have hxl : x.length ≤ 65536 := by have := blk_names (t := t) (s := x) (by rw [hnm]; simp); omega
  have dn := (hal2.cell (p := ⟨gn, on, none⟩) (by show gn < _; omega)).trans cn
  clear hk hl hnm
  have hla := partF_len f 0 a
  have hlc := partF_len f 0 c
  have ad1 : ∀ w, (Op.stringOp .add (⟨#[40]⟩) (bs x)).run Try.prog w = .ok (.string (bs (40 :: x))) w := add_as (a := [40]) (b := x) (by simp) (by simp; omega)
  have ad2 : ∀ w, (Op.stringOp .add (bs (40 :: x)) (⟨#[32, 58, 32]⟩)).run Try.prog w = .ok (.string (bs (40 :: (x ++ [32, 58, 32])))) w := add_as (a := (40 :: x)) (b := [32, 58, 32]) (by simp) (by simp; omega)
  have ad3 : ∀ w, (Op.stringOp .add (bs (40 :: (x ++ [32, 58, 32]))) (bs (partF f 0 a))).run Try.prog w = .ok (.string (bs (40 :: (x ++ (32 :: 58 :: 32 :: (partF f 0 a)))))) w := add_as (a := (40 :: (x ++ [32, 58, 32]))) (b := (partF f 0 a)) (by simp) (by simp; omega)
  have ad4 : ∀ w, (Op.stringOp .add (bs (40 :: (x ++ (32 :: 58 :: 32 :: (partF f 0 a))))) (⟨#[41]⟩)).run Try.prog w = .ok (.string (bs (40 :: (x ++ (32 :: 58 :: 32 :: ((partF f 0 a) ++ [41])))))) w := add_as (a := (40 :: (x ++ (32 :: 58 :: 32 :: (partF f 0 a))))) (b := [41]) (by simp) (by simp; omega)
  have ad6 : ∀ w, (Op.stringOp .add (bs (40 :: (x ++ (32 :: 58 :: 32 :: ((partF f 0 a) ++ [41]))))) (⟨#[32, 45, 62, 32]⟩)).run Try.prog w = .ok (.string (bs (40 :: (x ++ (32 :: 58 :: 32 :: ((partF f 0 a) ++ [41, 32, 45, 62, 32])))))) w := add_as (a := (40 :: (x ++ (32 :: 58 :: 32 :: ((partF f 0 a) ++ [41]))))) (b := [32, 45, 62, 32]) (by simp) (by simp; omega)
  have ad7 : ∀ w, (Op.stringOp .add (bs (40 :: (x ++ (32 :: 58 :: 32 :: ((partF f 0 a) ++ [41, 32, 45, 62, 32]))))) (bs (partF f 0 c))).run Try.prog w = .ok (.string (bs (40 :: (x ++ (32 :: 58 :: 32 :: ((partF f 0 a) ++ (41 :: 32 :: 45 :: 62 :: 32 :: (partF f 0 c)))))))) w := add_as (a := (40 :: (x ++ (32 :: 58 :: 32 :: ((partF f 0 a) ++ [41, 32, 45, 62, 32]))))) (b := (partF f 0 c)) (by simp) (by simp; omega)
  go_enter Try.func19, Try.ntmps19
  go_wp2_with fail
  rw [← Hw1.out, ← Hw2.out]
  clear Hw1 Hw2
  obtain ⟨y0, y1, y2, y3, y4⟩ := hB2.cells
  have hBx := hB1.blw hb12
  clear x0 x1 x2 x3 x4
  obtain ⟨x0, x1, x2, x3, x4⟩ := hBx.cells
  have X3 : ∀ u : ClsS w2, u.1.cell? ⟨w.heap.size, 3, none⟩ = _ := fun u => (u.2.cell (p := ⟨w.heap.size, 3, none⟩) hBx.lt).trans x3
  have Y0 : ∀ u : ClsS w2, u.1.cell? ⟨w.heap.size + 1, 0, none⟩ = _ := fun u => (u.2.cell (p := ⟨w.heap.size + 1, 0, none⟩) hB2.lt).trans y0
  have Y1 : ∀ u : ClsS w2, u.1.cell? ⟨w.heap.size + 1, 1, none⟩ = _ := fun u => (u.2.cell (p := ⟨w.heap.size + 1, 1, none⟩) hB2.lt).trans y1
  have Y2 : ∀ u : ClsS w2, u.1.cell? ⟨w.heap.size + 1, 2, none⟩ = _ := fun u => (u.2.cell (p := ⟨w.heap.size + 1, 2, none⟩) hB2.lt).trans y2
  have Y3 : ∀ u : ClsS w2, u.1.cell? ⟨w.heap.size + 1, 3, none⟩ = _ := fun u => (u.2.cell (p := ⟨w.heap.size + 1, 3, none⟩) hB2.lt).trans y3
  have Y4 : ∀ u : ClsS w2, u.1.cell? ⟨w.heap.size + 1, 4, none⟩ = _ := fun u => (u.2.cell (p := ⟨w.heap.size + 1, 4, none⟩) hB2.lt).trans y4
  have XN : ∀ u : ClsS w2, u.1.cell? ⟨gn, on, none⟩ = _ := fun u => (u.2.cell (p := ⟨gn, on, none⟩) (by show gn < _; omega)).trans dn
  have HcA : Hid (∀ u : ClsS w2, _) := fun u : ClsS w2 => clsS_call u (IH.at0 n a _ u.1 hoa (by omega) ((hxx0.keep (hal2.mono hn)).keep (u.2.mono hn2)) (Nat.le_trans hn2 u.2.size))
  have hne := clsS_any w2
  refine wp_region_clsS (by kernel_rfl) (by kernel_rfl) ?_
  repeat (quiet_step (exact HcA.out _))
  refine wpQuiet_nil ?_
  rintro _ ⟨u, rfl⟩
  obtain ⟨w3, hb3⟩ := u
  have hal3 := chain hal2 hb3
  have hB3 := hBx.blw hb3
  have hn3 := Nat.le_trans hn2 hb3.size
  clear x0 x1 x2 x3 x4
  obtain ⟨x0, x1, x2, x3, x4⟩ := hB3.cells
  have f10 := (hal3.cell (p := ⟨g, off + 5, none⟩) (by show g < _; omega)).trans c10
  have f11 := (hal3.cell (p := ⟨g, off + 5 + 1, none⟩) (by show g < _; omega)).trans c11
  have f12 := (hal3.cell (p := ⟨g, off + 5 + 2, none⟩) (by show g < _; omega)).trans c12
  have f13 := (hal3.cell (p := ⟨g, off + 5 + 3, none⟩) (by show g < _; omega)).trans c13
  have f14 := (hal3.cell (p := ⟨g, off + 5 + 4, none⟩) (by show g < _; omega)).trans c14
  go_wp2_with (first | (refine wp_add rfl _ _ rfl _ _ _ rfl rfl ad6 ?_) | (refine wp_add rfl _ _ rfl _ _ _ rfl rfl ad7 ?_))
  have cB := IH.at0 n c _ w3 hoc (by omega) (hxx1.keep (hal3.mono hn)) hn3
  refine cB.mono ?_
  rintro e w4 ⟨rfl, hb4⟩
  clear cB
  have hal4 := chain hal3 hb4
  have ad8 : ∀ w, (Op.stringOp .add (⟨#[40]⟩) (bs (40 :: (x ++ (32 :: 58 :: 32 :: ((partF f 0 a) ++ (41 :: 32 :: 45 :: 62 :: 32 :: (partF f 0 c)))))))).run Try.prog w = .ok (.string (bs (40 :: 40 :: (x ++ (32 :: 58 :: 32 :: ((partF f 0 a) ++ (41 :: 32 :: 45 :: 62 :: 32 :: (partF f 0 c)))))))) w := add_as (a := [40]) (b := (40 :: (x ++ (32 :: 58 :: 32 :: ((partF f 0 a) ++ (41 :: 32 :: 45 :: 62 :: 32 :: (partF f 0 c))))))) (by simp) (by simp; omega)
  have ad9 : ∀ w, (Op.stringOp .add (bs (40 :: 40 :: (x ++ (32 :: 58 :: 32 :: ((partF f 0 a) ++ (41 :: 32 :: 45 :: 62 :: 32 :: (partF f 0 c))))))) (⟨#[41]⟩)).run Try.prog w = .ok (.string (bs (40 :: 40 :: (x ++ (32 :: 58 :: 32 :: ((partF f 0 a) ++ (41 :: 32 :: 45 :: 62 :: 32 :: ((partF f 0 c) ++ [41])))))))) w := add_as (a := (40 :: 40 :: (x ++ (32 :: 58 :: 32 :: ((partF f 0 a) ++ (41 :: 32 :: 45 :: 62 :: 32 :: (partF f 0 c))))))) (b := [41]) (by simp) (by simp; omega)
  rcases (show L = 0 ∨ L = 1 ∨ L = 2 by omega) with rfl | rfl | rfl
  · go_wp2_with (refine wp_add rfl _ _ rfl _ _ _ rfl rfl ad7 ?_)
    go_ret
    exact ⟨by rw [show plc 0 = 0 from rfl, HT0.out]; rfl, hal4⟩
  · go_wp2_with (first | (refine wp_add rfl _ _ rfl _ _ _ rfl rfl ad7 ?_) | (refine wp_add rfl _ _ rfl _ _ _ rfl rfl ad8 ?_) | (refine wp_add rfl _ _ rfl _ _ _ rfl rfl ad9 ?_))
    go_ret
    exact ⟨by rw [show plc 1 = 2 from rfl, HT1.out]; rfl, hal4⟩
  · go_wp2_with (first | (refine wp_add rfl _ _ rfl _ _ _ rfl rfl ad7 ?_) | (refine wp_add rfl _ _ rfl _ _ _ rfl rfl ad8 ?_) | (refine wp_add rfl _ _ rfl _ _ _ rfl rfl ad9 ?_))
    go_ret
    exact ⟨by rw [show plc 2 = 3 from rfl, HT2.out]; rfl, hal4⟩

set_option maxRecDepth 100000 in
set_option maxHeartbeats 4000000 in
theorem text_4_front (f n L : Nat) (IH : RTx f) (t : Sx) (v : Value) (w : World) (hL : L < 3) (hok : okF (f + 1) 0 t = true) (hb : blk t ≤ 65536) (h : SxIn n w t v) (hn : n ≤ w.heap.size) (hk : t.kind = 4) (hnm : t.names = []) (hfr : frontB (kd t 0) = true) : Calls Try.prog 19 #[v, .int .i64 (L : Nat)] w fun e w' => e = .returned (.string (bs (partF (f + 1) (plc L) t))) ∧ Below w.heap.size w w' := by
  obtain ⟨ka, kc, na, nc, rfl, hN, hK⟩ := h.form
  have hbs := blk_sum t
  have hnl := blk_nlen t
  have hJ := jn_names_len t
  obtain ⟨w1, hw1⟩ : ∃ w1, w1 = w.alloc (.cells #[.int .i64 t.kind, .string (bs t.name), .slice ka t.kids.length kc, .slice na t.names.length nc, .int .i64 t.at_] 25) := ⟨_, rfl⟩
  have hal1 : Below w.heap.size w w1 := by rw [hw1]; exact below_alloc _ _
  have hB1 : Bx w1 w.heap.size (.int .i64 t.kind) (.string (bs t.name)) (.slice ka t.kids.length kc) (.slice na t.names.length nc) (.int .i64 t.at_) := by rw [hw1]; exact bx_new _ _ _ _ _ _
  have Hw1 : Hid (_ = _) := hw1
  clear hw1
  obtain ⟨x0, x1, x2, x3, x4⟩ := hB1.cells
  have hn1 := Nat.le_trans hn hal1.size
  have h1 := h.keep (hal1.mono hn)
  have hN1 := hN.keep (hal1.mono hn)
  obtain ⟨_, a, c, hl, hoa, hoc⟩ := (parts_term hok).bind (by omega)
  obtain ⟨g, off, ka0, kc0, na0, nc0, rfl, hg, hxx0, c00, c01, c02, c03, c04⟩ := hK.at (j := 0) (x := a) (by rw [hl]; rfl)
  obtain ⟨g', off', ka1, kc1, na1, nc1, he, _, hxx1, c10, c11, c12, c13, c14⟩ := hK.at (j := 1) (x := c) (by rw [hl]; rfl)
  cases he
  simp only [Nat.zero_mul, Nat.one_mul, Nat.add_zero] at c00 c01 c02 c03 c04 c10 c11 c12 c13 c14
  have hp0 : 0 < t.kids.length := by rw [hl]; simp
  have hp1 : 1 < t.kids.length := by rw [hl]; simp
  have hq1 : (1 : Int) < (t.kids.length : Int) := by omega
  have hba : blk a < blk t := blk_kid (by rw [hl]; simp)
  have hbc : blk c < blk t := blk_kid (by rw [hl]; simp)
  have k0 : kd t 0 = a := by rw [kd_kids hl]; rfl
  have k1 : kd t 1 = c := by rw [kd_kids hl]; rfl
  rw [k0] at hfr
  have HT9 : lineF (f + 1) t = (40 :: ((partF f 2 a) ++ (41 :: 32 :: 45 :: 62 :: 32 :: (partF f 0 c)))) := by
    rw [lineF_s]
    unfold lineR
    rw [if_neg (by omega), if_neg (by omega), if_neg (by omega), if_pos (by omega)]
    unfold arrowR
    rw [hnm, if_pos rfl, k0, k1]
    rw [show partR (lineF f) 1 a = partF f 1 a from rfl, part_front f hfr]
    all_goals (first | rfl | (simp; done) | (simp; rfl) | (unfold partF; simp) | (rw [k0]; rfl) | (rw [k0]; simp; rfl) | (rw [k0, k1]; rfl) | (rw [k0, k1]; simp; rfl) | (rw [k0, k1]; unfold partF; simp))
  have HT00 : partF (f + 1) 0 t = (40 :: ((partF f 2 a) ++ (41 :: 32 :: 45 :: 62 :: 32 :: (partF f 0 c)))) := by
    have e1 : needB t 0 = false := by unfold needB frontB lastP; rw [hk]; simp
    rw [show partF (f + 1) 0 t = (if needB t 0 then 40 :: (lineF (f + 1) t ++ [41]) else lineF (f + 1) t) from rfl, e1, if_neg (by simp), HT9]
    skip
  have HT0 : Hid (_ = _) := HT00
  clear HT00
  have HT10 : partF (f + 1) 2 t = (40 :: 40 :: ((partF f 2 a) ++ (41 :: 32 :: 45 :: 62 :: 32 :: ((partF f 0 c) ++ [41])))) := by
    have e1 : needB t 2 = true := by unfold needB frontB lastP; rw [hk]; simp
    rw [show partF (f + 1) 2 t = (if needB t 2 then 40 :: (lineF (f + 1) t ++ [41]) else lineF (f + 1) t) from rfl, e1, if_pos rfl, HT9]
    simp
  have HT1 : Hid (_ = _) := HT10
  clear HT10
  have HT20 : partF (f + 1) 3 t = (40 :: 40 :: ((partF f 2 a) ++ (41 :: 32 :: 45 :: 62 :: 32 :: ((partF f 0 c) ++ [41])))) := by
    have e1 : needB t 3 = true := by unfold needB frontB lastP; rw [hk]; simp
    rw [show partF (f + 1) 3 t = (if needB t 3 then 40 :: (lineF (f + 1) t ++ [41]) else lineF (f + 1) t) from rfl, e1, if_pos rfl, HT9]
    simp
  have HT2 : Hid (_ = _) := HT20
  clear HT20
  clear HT9
  have kk1 : (t.kind == 1) = false := by rw [hk]; rfl
  have kk2 : (t.kind == 2) = false := by rw [hk]; rfl
  have kk3 : (t.kind == 3) = false := by rw [hk]; rfl
  have kk4 : (t.kind == 4) = true := by rw [hk]; rfl
  have kk5 : (t.kind == 5) = false := by rw [hk]; rfl
  have kk6 : (t.kind == 6) = false := by rw [hk]; rfl
  have kk7 : (t.kind == 7) = false := by rw [hk]; rfl
  have kk8 : (t.kind == 8) = false := by rw [hk]; rfl
  have kk9 : (t.kind == 9) = false := by rw [hk]; rfl
  have kk10 : (t.kind == 10) = false := by rw [hk]; rfl
  obtain ⟨w2, hw2⟩ : ∃ w2, w2 = w1.alloc (.cells #[.int .i64 a.kind, .string (bs a.name), .slice ka0 a.kids.length kc0, .slice na0 a.names.length nc0, .int .i64 a.at_] 25) := ⟨_, rfl⟩
  have hs1 : w1.heap.size = w.heap.size + 1 := by rw [Hw1.out]; exact alloc_size1 _ _
  have hb12 : Below w1.heap.size w1 w2 := by rw [hw2]; exact below_alloc _ _
  have hB2 : Bx w2 (w.heap.size + 1) (.int .i64 a.kind) (.string (bs a.name)) (.slice ka0 a.kids.length kc0) (.slice na0 a.names.length nc0) (.int .i64 a.at_) := by rw [hw2, ← hs1]; exact bx_new _ _ _ _ _ _
  have Hw2 : Hid (_ = _) := hw2
  clear hw2
  have hal2 := chain hal1 hb12
  have hn2 := Nat.le_trans hn1 hb12.size
  have d00 := (hal1.cell (p := ⟨g, off, none⟩) (by show g < _; omega)).trans c00
  have r00 := d00
  rw [Hw1.out] at r00
  have d01 := (hal1.cell (p := ⟨g, off + 1, none⟩) (by show g < _; omega)).trans c01
  have r01 := d01
  rw [Hw1.out] at r01
  have d02 := (hal1.cell (p := ⟨g, off + 2, none⟩) (by show g < _; omega)).trans c02
  have r02 := d02
  rw [Hw1.out] at r02
  have d03 := (hal1.cell (p := ⟨g, off + 3, none⟩) (by show g < _; omega)).trans c03
  have r03 := d03
  rw [Hw1.out] at r03
  have d04 := (hal1.cell (p := ⟨g, off + 4, none⟩) (by show g < _; omega)).trans c04
  have r04 := d04
  rw [Hw1.out] at r04
  have d10 := (hal1.cell (p := ⟨g, off + 5, none⟩) (by show g < _; omega)).trans c10
  have r10 := d10
  rw [Hw1.out] at r10
  have d11 := (hal1.cell (p := ⟨g, off + 5 + 1, none⟩) (by show g < _; omega)).trans c11
  have r11 := d11
  rw [Hw1.out] at r11
  have d12 := (hal1.cell (p := ⟨g, off + 5 + 2, none⟩) (by show g < _; omega)).trans c12
  have r12 := d12
  rw [Hw1.out] at r12
  have d13 := (hal1.cell (p := ⟨g, off + 5 + 3, none⟩) (by show g < _; omega)).trans c13
  have r13 := d13
  rw [Hw1.out] at r13
  have d14 := (hal1.cell (p := ⟨g, off + 5 + 4, none⟩) (by show g < _; omega)).trans c14
  have r14 := d14
  rw [Hw1.out] at r14
  have en1 : ((t.names.length : Int) == 1) = false := by rw [hnm]; rfl
  obtain ⟨e0, l0, hal⟩ : ∃ e0 l0, a.kids = e0 :: l0 := by
    obtain ⟨f0, rfl⟩ : ∃ f0, f = f0 + 1 := by
      cases f with
      | zero => rw [okF_z] at hoa; cases hoa
      | succ f => exact ⟨f, rfl⟩
    obtain ⟨p, q, hpq, _⟩ := (parts_term hoa).two (by unfold frontB at hfr; simp only [Bool.and_eq_true, decide_eq_true_eq] at hfr; omega)
    exact ⟨p, [q], hpq⟩
  have ha9 : a.kind = 9 := by unfold frontB at hfr; simp only [Bool.and_eq_true, decide_eq_true_eq] at hfr; exact hfr.1
  rw [front_kid ha9 hal] at hfr
  have kf1 : (e0.kind == 1) = true := by simpa using hfr
  have kf9 : (a.kind == 9) = true := by rw [ha9]; rfl
  obtain ⟨ge, oe, ke0, kce, ne0, nce, rfl, hge, _, ce0, _, _, _, _⟩ := (hxx0.parts).at (j := 0) (x := e0) (by rw [hal]; rfl)
  simp only [Nat.zero_mul, Nat.add_zero] at ce0
  have hpe : 0 < a.kids.length := by rw [hal]; simp
  have de0 := (hal1.cell (p := ⟨ge, oe, none⟩) (by show ge < _; omega)).trans ce0
  have re0 := (hb12.cell (p := ⟨ge, oe, none⟩) (by show ge < _; omega)).trans de0
  rw [Hw2.out, Hw1.out] at re0
  rw [Hw1.out] at de0
  clear hk hl hnm
  clear hfr ha9
  clear hal
  have hla := partF_len f 2 a
  have hlc := partF_len f 0 c
  have ad1 : ∀ w, (Op.stringOp .add (⟨#[40]⟩) (bs (partF f 2 a))).run Try.prog w = .ok (.string (bs (40 :: (partF f 2 a)))) w := add_as (a := [40]) (b := (partF f 2 a)) (by simp) (by simp; omega)
  have ad2 : ∀ w, (Op.stringOp .add (bs (40 :: (partF f 2 a))) (⟨#[41]⟩)).run Try.prog w = .ok (.string (bs (40 :: ((partF f 2 a) ++ [41])))) w := add_as (a := (40 :: (partF f 2 a))) (b := [41]) (by simp) (by simp; omega)
  have ad6 : ∀ w, (Op.stringOp .add (bs (40 :: ((partF f 2 a) ++ [41]))) (⟨#[32, 45, 62, 32]⟩)).run Try.prog w = .ok (.string (bs (40 :: ((partF f 2 a) ++ [41, 32, 45, 62, 32])))) w := add_as (a := (40 :: ((partF f 2 a) ++ [41]))) (b := [32, 45, 62, 32]) (by simp) (by simp; omega)
  have ad7 : ∀ w, (Op.stringOp .add (bs (40 :: ((partF f 2 a) ++ [41, 32, 45, 62, 32]))) (bs (partF f 0 c))).run Try.prog w = .ok (.string (bs (40 :: ((partF f 2 a) ++ (41 :: 32 :: 45 :: 62 :: 32 :: (partF f 0 c)))))) w := add_as (a := (40 :: ((partF f 2 a) ++ [41, 32, 45, 62, 32]))) (b := (partF f 0 c)) (by simp) (by simp; omega)
  go_enter Try.func19, Try.ntmps19
  go_wp2_with fail
  rw [← Hw1.out, ← Hw2.out]
  clear Hw1 Hw2
  obtain ⟨y0, y1, y2, y3, y4⟩ := hB2.cells
  have hBx := hB1.blw hb12
  clear x0 x1 x2 x3 x4
  obtain ⟨x0, x1, x2, x3, x4⟩ := hBx.cells
  have cA := IH.at1 n a _ w2 hoa (by omega) (hxx0.keep (hal2.mono hn)) hn2
  refine cA.mono ?_
  rintro e w3 ⟨rfl, hb3⟩
  clear cA
  have hal3 := chain hal2 hb3
  have hB3 := hBx.blw hb3
  have hn3 := Nat.le_trans hn2 hb3.size
  clear x0 x1 x2 x3 x4
  obtain ⟨x0, x1, x2, x3, x4⟩ := hB3.cells
  have f10 := (hal3.cell (p := ⟨g, off + 5, none⟩) (by show g < _; omega)).trans c10
  have f11 := (hal3.cell (p := ⟨g, off + 5 + 1, none⟩) (by show g < _; omega)).trans c11
  have f12 := (hal3.cell (p := ⟨g, off + 5 + 2, none⟩) (by show g < _; omega)).trans c12
  have f13 := (hal3.cell (p := ⟨g, off + 5 + 3, none⟩) (by show g < _; omega)).trans c13
  have f14 := (hal3.cell (p := ⟨g, off + 5 + 4, none⟩) (by show g < _; omega)).trans c14
  go_wp2_with (first | (refine wp_add rfl _ _ rfl _ _ _ rfl rfl ad1 ?_) | (refine wp_add rfl _ _ rfl _ _ _ rfl rfl ad2 ?_) | (refine wp_add rfl _ _ rfl _ _ _ rfl rfl ad6 ?_) | (refine wp_add rfl _ _ rfl _ _ _ rfl rfl ad7 ?_))
  have cB := IH.at0 n c _ w3 hoc (by omega) (hxx1.keep (hal3.mono hn)) hn3
  refine cB.mono ?_
  rintro e w4 ⟨rfl, hb4⟩
  clear cB
  have hal4 := chain hal3 hb4
  have ad8 : ∀ w, (Op.stringOp .add (⟨#[40]⟩) (bs (40 :: ((partF f 2 a) ++ (41 :: 32 :: 45 :: 62 :: 32 :: (partF f 0 c)))))).run Try.prog w = .ok (.string (bs (40 :: 40 :: ((partF f 2 a) ++ (41 :: 32 :: 45 :: 62 :: 32 :: (partF f 0 c)))))) w := add_as (a := [40]) (b := (40 :: ((partF f 2 a) ++ (41 :: 32 :: 45 :: 62 :: 32 :: (partF f 0 c))))) (by simp) (by simp; omega)
  have ad9 : ∀ w, (Op.stringOp .add (bs (40 :: 40 :: ((partF f 2 a) ++ (41 :: 32 :: 45 :: 62 :: 32 :: (partF f 0 c))))) (⟨#[41]⟩)).run Try.prog w = .ok (.string (bs (40 :: 40 :: ((partF f 2 a) ++ (41 :: 32 :: 45 :: 62 :: 32 :: ((partF f 0 c) ++ [41])))))) w := add_as (a := (40 :: 40 :: ((partF f 2 a) ++ (41 :: 32 :: 45 :: 62 :: 32 :: (partF f 0 c))))) (b := [41]) (by simp) (by simp; omega)
  rcases (show L = 0 ∨ L = 1 ∨ L = 2 by omega) with rfl | rfl | rfl
  · go_wp2_with (refine wp_add rfl _ _ rfl _ _ _ rfl rfl ad7 ?_)
    go_ret
    exact ⟨by rw [show plc 0 = 0 from rfl, HT0.out]; rfl, hal4⟩
  · go_wp2_with (first | (refine wp_add rfl _ _ rfl _ _ _ rfl rfl ad7 ?_) | (refine wp_add rfl _ _ rfl _ _ _ rfl rfl ad8 ?_) | (refine wp_add rfl _ _ rfl _ _ _ rfl rfl ad9 ?_))
    go_ret
    exact ⟨by rw [show plc 1 = 2 from rfl, HT1.out]; rfl, hal4⟩
  · go_wp2_with (first | (refine wp_add rfl _ _ rfl _ _ _ rfl rfl ad7 ?_) | (refine wp_add rfl _ _ rfl _ _ _ rfl rfl ad8 ?_) | (refine wp_add rfl _ _ rfl _ _ _ rfl rfl ad9 ?_))
    go_ret
    exact ⟨by rw [show plc 2 = 3 from rfl, HT2.out]; rfl, hal4⟩

set_option maxRecDepth 100000 in
set_option maxHeartbeats 4000000 in
theorem text_4_ann (f n L : Nat) (IH : RTx f) (t : Sx) (v : Value) (w : World) (hL : L < 3) (hok : okF (f + 1) 0 t = true) (hb : blk t ≤ 65536) (h : SxIn n w t v) (hn : n ≤ w.heap.size) (hk : t.kind = 4) (hnm : t.names = []) (hfr : frontB (kd t 0) = false) (ha9 : (kd t 0).kind = 9) : Calls Try.prog 19 #[v, .int .i64 (L : Nat)] w fun e w' => e = .returned (.string (bs (partF (f + 1) (plc L) t))) ∧ Below w.heap.size w w' := by
  obtain ⟨ka, kc, na, nc, rfl, hN, hK⟩ := h.form
  have hbs := blk_sum t
  have hnl := blk_nlen t
  have hJ := jn_names_len t
  obtain ⟨w1, hw1⟩ : ∃ w1, w1 = w.alloc (.cells #[.int .i64 t.kind, .string (bs t.name), .slice ka t.kids.length kc, .slice na t.names.length nc, .int .i64 t.at_] 25) := ⟨_, rfl⟩
  have hal1 : Below w.heap.size w w1 := by rw [hw1]; exact below_alloc _ _
  have hB1 : Bx w1 w.heap.size (.int .i64 t.kind) (.string (bs t.name)) (.slice ka t.kids.length kc) (.slice na t.names.length nc) (.int .i64 t.at_) := by rw [hw1]; exact bx_new _ _ _ _ _ _
  have Hw1 : Hid (_ = _) := hw1
  clear hw1
  obtain ⟨x0, x1, x2, x3, x4⟩ := hB1.cells
  have hn1 := Nat.le_trans hn hal1.size
  have h1 := h.keep (hal1.mono hn)
  have hN1 := hN.keep (hal1.mono hn)
  obtain ⟨_, a, c, hl, hoa, hoc⟩ := (parts_term hok).bind (by omega)
  obtain ⟨g, off, ka0, kc0, na0, nc0, rfl, hg, hxx0, c00, c01, c02, c03, c04⟩ := hK.at (j := 0) (x := a) (by rw [hl]; rfl)
  obtain ⟨g', off', ka1, kc1, na1, nc1, he, _, hxx1, c10, c11, c12, c13, c14⟩ := hK.at (j := 1) (x := c) (by rw [hl]; rfl)
  cases he
  simp only [Nat.zero_mul, Nat.one_mul, Nat.add_zero] at c00 c01 c02 c03 c04 c10 c11 c12 c13 c14
  have hp0 : 0 < t.kids.length := by rw [hl]; simp
  have hp1 : 1 < t.kids.length := by rw [hl]; simp
  have hq1 : (1 : Int) < (t.kids.length : Int) := by omega
  have hba : blk a < blk t := blk_kid (by rw [hl]; simp)
  have hbc : blk c < blk t := blk_kid (by rw [hl]; simp)
  have k0 : kd t 0 = a := by rw [kd_kids hl]; rfl
  have k1 : kd t 1 = c := by rw [kd_kids hl]; rfl
  rw [k0] at hfr ha9
  have HT9 : lineF (f + 1) t = ((partF f 2 a) ++ (32 :: 45 :: 62 :: 32 :: (partF f 0 c))) := by
    rw [lineF_s]
    unfold lineR
    rw [if_neg (by omega), if_neg (by omega), if_neg (by omega), if_pos (by omega)]
    unfold arrowR
    rw [hnm, if_pos rfl, k0, k1]
    rw [show partR (lineF f) 1 a = partF f 1 a from rfl, part_back f hfr]
    all_goals (first | rfl | (simp; done) | (simp; rfl) | (unfold partF; simp) | (rw [k0]; rfl) | (rw [k0]; simp; rfl) | (rw [k0, k1]; rfl) | (rw [k0, k1]; simp; rfl) | (rw [k0, k1]; unfold partF; simp))
  have HT00 : partF (f + 1) 0 t = ((partF f 2 a) ++ (32 :: 45 :: 62 :: 32 :: (partF f 0 c))) := by
    have e1 : needB t 0 = false := by unfold needB frontB lastP; rw [hk]; simp
    rw [show partF (f + 1) 0 t = (if needB t 0 then 40 :: (lineF (f + 1) t ++ [41]) else lineF (f + 1) t) from rfl, e1, if_neg (by simp), HT9]
    skip
  have HT0 : Hid (_ = _) := HT00
  clear HT00
  have HT10 : partF (f + 1) 2 t = (40 :: ((partF f 2 a) ++ (32 :: 45 :: 62 :: 32 :: ((partF f 0 c) ++ [41])))) := by
    have e1 : needB t 2 = true := by unfold needB frontB lastP; rw [hk]; simp
    rw [show partF (f + 1) 2 t = (if needB t 2 then 40 :: (lineF (f + 1) t ++ [41]) else lineF (f + 1) t) from rfl, e1, if_pos rfl, HT9]
    simp
  have HT1 : Hid (_ = _) := HT10
  clear HT10
  have HT20 : partF (f + 1) 3 t = (40 :: ((partF f 2 a) ++ (32 :: 45 :: 62 :: 32 :: ((partF f 0 c) ++ [41])))) := by
    have e1 : needB t 3 = true := by unfold needB frontB lastP; rw [hk]; simp
    rw [show partF (f + 1) 3 t = (if needB t 3 then 40 :: (lineF (f + 1) t ++ [41]) else lineF (f + 1) t) from rfl, e1, if_pos rfl, HT9]
    simp
  have HT2 : Hid (_ = _) := HT20
  clear HT20
  clear HT9
  have kk1 : (t.kind == 1) = false := by rw [hk]; rfl
  have kk2 : (t.kind == 2) = false := by rw [hk]; rfl
  have kk3 : (t.kind == 3) = false := by rw [hk]; rfl
  have kk4 : (t.kind == 4) = true := by rw [hk]; rfl
  have kk5 : (t.kind == 5) = false := by rw [hk]; rfl
  have kk6 : (t.kind == 6) = false := by rw [hk]; rfl
  have kk7 : (t.kind == 7) = false := by rw [hk]; rfl
  have kk8 : (t.kind == 8) = false := by rw [hk]; rfl
  have kk9 : (t.kind == 9) = false := by rw [hk]; rfl
  have kk10 : (t.kind == 10) = false := by rw [hk]; rfl
  obtain ⟨w2, hw2⟩ : ∃ w2, w2 = w1.alloc (.cells #[.int .i64 a.kind, .string (bs a.name), .slice ka0 a.kids.length kc0, .slice na0 a.names.length nc0, .int .i64 a.at_] 25) := ⟨_, rfl⟩
  have hs1 : w1.heap.size = w.heap.size + 1 := by rw [Hw1.out]; exact alloc_size1 _ _
  have hb12 : Below w1.heap.size w1 w2 := by rw [hw2]; exact below_alloc _ _
  have hB2 : Bx w2 (w.heap.size + 1) (.int .i64 a.kind) (.string (bs a.name)) (.slice ka0 a.kids.length kc0) (.slice na0 a.names.length nc0) (.int .i64 a.at_) := by rw [hw2, ← hs1]; exact bx_new _ _ _ _ _ _
  have Hw2 : Hid (_ = _) := hw2
  clear hw2
  have hal2 := chain hal1 hb12
  have hn2 := Nat.le_trans hn1 hb12.size
  have d00 := (hal1.cell (p := ⟨g, off, none⟩) (by show g < _; omega)).trans c00
  have r00 := d00
  rw [Hw1.out] at r00
  have d01 := (hal1.cell (p := ⟨g, off + 1, none⟩) (by show g < _; omega)).trans c01
  have r01 := d01
  rw [Hw1.out] at r01
  have d02 := (hal1.cell (p := ⟨g, off + 2, none⟩) (by show g < _; omega)).trans c02
  have r02 := d02
  rw [Hw1.out] at r02
  have d03 := (hal1.cell (p := ⟨g, off + 3, none⟩) (by show g < _; omega)).trans c03
  have r03 := d03
  rw [Hw1.out] at r03
  have d04 := (hal1.cell (p := ⟨g, off + 4, none⟩) (by show g < _; omega)).trans c04
  have r04 := d04
  rw [Hw1.out] at r04
  have d10 := (hal1.cell (p := ⟨g, off + 5, none⟩) (by show g < _; omega)).trans c10
  have r10 := d10
  rw [Hw1.out] at r10
  have d11 := (hal1.cell (p := ⟨g, off + 5 + 1, none⟩) (by show g < _; omega)).trans c11
  have r11 := d11
  rw [Hw1.out] at r11
  have d12 := (hal1.cell (p := ⟨g, off + 5 + 2, none⟩) (by show g < _; omega)).trans c12
  have r12 := d12
  rw [Hw1.out] at r12
  have d13 := (hal1.cell (p := ⟨g, off + 5 + 3, none⟩) (by show g < _; omega)).trans c13
  have r13 := d13
  rw [Hw1.out] at r13
  have d14 := (hal1.cell (p := ⟨g, off + 5 + 4, none⟩) (by show g < _; omega)).trans c14
  have r14 := d14
  rw [Hw1.out] at r14
  have en1 : ((t.names.length : Int) == 1) = false := by rw [hnm]; rfl
  obtain ⟨e0, l0, hal⟩ : ∃ e0 l0, a.kids = e0 :: l0 := by
    obtain ⟨f0, rfl⟩ : ∃ f0, f = f0 + 1 := by
      cases f with
      | zero => rw [okF_z] at hoa; cases hoa
      | succ f => exact ⟨f, rfl⟩
    obtain ⟨p, q, hpq, _⟩ := (parts_term hoa).two (by omega)
    exact ⟨p, [q], hpq⟩
  rw [front_kid ha9 hal] at hfr
  have kf1 : (e0.kind == 1) = false := by simpa using hfr
  have kf9 : (a.kind == 9) = true := by rw [ha9]; rfl
  obtain ⟨ge, oe, ke0, kce, ne0, nce, rfl, hge, _, ce0, _, _, _, _⟩ := (hxx0.parts).at (j := 0) (x := e0) (by rw [hal]; rfl)
  simp only [Nat.zero_mul, Nat.add_zero] at ce0
  have hpe : 0 < a.kids.length := by rw [hal]; simp
  have de0 := (hal1.cell (p := ⟨ge, oe, none⟩) (by show ge < _; omega)).trans ce0
  have re0 := (hb12.cell (p := ⟨ge, oe, none⟩) (by show ge < _; omega)).trans de0
  rw [Hw2.out, Hw1.out] at re0
  rw [Hw1.out] at de0
  clear hk hl hnm
  clear hfr ha9
  clear hal
  have hla := partF_len f 2 a
  have hlc := partF_len f 0 c
  have ad6 : ∀ w, (Op.stringOp .add (bs (partF f 2 a)) (⟨#[32, 45, 62, 32]⟩)).run Try.prog w = .ok (.string (bs ((partF f 2 a) ++ [32, 45, 62, 32]))) w := add_as (a := (partF f 2 a)) (b := [32, 45, 62, 32]) (by simp) (by simp; omega)
  have ad7 : ∀ w, (Op.stringOp .add (bs ((partF f 2 a) ++ [32, 45, 62, 32])) (bs (partF f 0 c))).run Try.prog w = .ok (.string (bs ((partF f 2 a) ++ (32 :: 45 :: 62 :: 32 :: (partF f 0 c))))) w := add_as (a := ((partF f 2 a) ++ [32, 45, 62, 32])) (b := (partF f 0 c)) (by simp) (by simp; omega)
  go_enter Try.func19, Try.ntmps19
  go_wp2_with fail
  rw [← Hw1.out, ← Hw2.out]
  clear Hw1 Hw2
  obtain ⟨y0, y1, y2, y3, y4⟩ := hB2.cells
  have hBx := hB1.blw hb12
  clear x0 x1 x2 x3 x4
  obtain ⟨x0, x1, x2, x3, x4⟩ := hBx.cells
  have cA := IH.at1 n a _ w2 hoa (by omega) (hxx0.keep (hal2.mono hn)) hn2
  refine cA.mono ?_
  rintro e w3 ⟨rfl, hb3⟩
  clear cA
  have hal3 := chain hal2 hb3
  have hB3 := hBx.blw hb3
  have hn3 := Nat.le_trans hn2 hb3.size
  clear x0 x1 x2 x3 x4
  obtain ⟨x0, x1, x2, x3, x4⟩ := hB3.cells
  have f10 := (hal3.cell (p := ⟨g, off + 5, none⟩) (by show g < _; omega)).trans c10
  have f11 := (hal3.cell (p := ⟨g, off + 5 + 1, none⟩) (by show g < _; omega)).trans c11
  have f12 := (hal3.cell (p := ⟨g, off + 5 + 2, none⟩) (by show g < _; omega)).trans c12
  have f13 := (hal3.cell (p := ⟨g, off + 5 + 3, none⟩) (by show g < _; omega)).trans c13
  have f14 := (hal3.cell (p := ⟨g, off + 5 + 4, none⟩) (by show g < _; omega)).trans c14
  go_wp2_with (first | (refine wp_add rfl _ _ rfl _ _ _ rfl rfl ad6 ?_) | (refine wp_add rfl _ _ rfl _ _ _ rfl rfl ad7 ?_))
  have cB := IH.at0 n c _ w3 hoc (by omega) (hxx1.keep (hal3.mono hn)) hn3
  refine cB.mono ?_
  rintro e w4 ⟨rfl, hb4⟩
  clear cB
  have hal4 := chain hal3 hb4
  have ad8 : ∀ w, (Op.stringOp .add (⟨#[40]⟩) (bs ((partF f 2 a) ++ (32 :: 45 :: 62 :: 32 :: (partF f 0 c))))).run Try.prog w = .ok (.string (bs (40 :: ((partF f 2 a) ++ (32 :: 45 :: 62 :: 32 :: (partF f 0 c)))))) w := add_as (a := [40]) (b := ((partF f 2 a) ++ (32 :: 45 :: 62 :: 32 :: (partF f 0 c)))) (by simp) (by simp; omega)
  have ad9 : ∀ w, (Op.stringOp .add (bs (40 :: ((partF f 2 a) ++ (32 :: 45 :: 62 :: 32 :: (partF f 0 c))))) (⟨#[41]⟩)).run Try.prog w = .ok (.string (bs (40 :: ((partF f 2 a) ++ (32 :: 45 :: 62 :: 32 :: ((partF f 0 c) ++ [41])))))) w := add_as (a := (40 :: ((partF f 2 a) ++ (32 :: 45 :: 62 :: 32 :: (partF f 0 c))))) (b := [41]) (by simp) (by simp; omega)
  rcases (show L = 0 ∨ L = 1 ∨ L = 2 by omega) with rfl | rfl | rfl
  · go_wp2_with (refine wp_add rfl _ _ rfl _ _ _ rfl rfl ad7 ?_)
    go_ret
    exact ⟨by rw [show plc 0 = 0 from rfl, HT0.out]; rfl, hal4⟩
  · go_wp2_with (first | (refine wp_add rfl _ _ rfl _ _ _ rfl rfl ad7 ?_) | (refine wp_add rfl _ _ rfl _ _ _ rfl rfl ad8 ?_) | (refine wp_add rfl _ _ rfl _ _ _ rfl rfl ad9 ?_))
    go_ret
    exact ⟨by rw [show plc 1 = 2 from rfl, HT1.out]; rfl, hal4⟩
  · go_wp2_with (first | (refine wp_add rfl _ _ rfl _ _ _ rfl rfl ad7 ?_) | (refine wp_add rfl _ _ rfl _ _ _ rfl rfl ad8 ?_) | (refine wp_add rfl _ _ rfl _ _ _ rfl rfl ad9 ?_))
    go_ret
    exact ⟨by rw [show plc 2 = 3 from rfl, HT2.out]; rfl, hal4⟩

set_option maxRecDepth 100000 in
set_option maxHeartbeats 4000000 in
theorem text_4_else (f n L : Nat) (IH : RTx f) (t : Sx) (v : Value) (w : World) (hL : L < 3) (hok : okF (f + 1) 0 t = true) (hb : blk t ≤ 65536) (h : SxIn n w t v) (hn : n ≤ w.heap.size) (hk : t.kind = 4) (hnm : t.names = []) (ha9 : (kd t 0).kind ≠ 9) : Calls Try.prog 19 #[v, .int .i64 (L : Nat)] w fun e w' => e = .returned (.string (bs (partF (f + 1) (plc L) t))) ∧ Below w.heap.size w w' := by
  obtain ⟨ka, kc, na, nc, rfl, hN, hK⟩ := h.form
  have hbs := blk_sum t
  have hnl := blk_nlen t
  have hJ := jn_names_len t
  obtain ⟨w1, hw1⟩ : ∃ w1, w1 = w.alloc (.cells #[.int .i64 t.kind, .string (bs t.name), .slice ka t.kids.length kc, .slice na t.names.length nc, .int .i64 t.at_] 25) := ⟨_, rfl⟩
  have hal1 : Below w.heap.size w w1 := by rw [hw1]; exact below_alloc _ _
  have hB1 : Bx w1 w.heap.size (.int .i64 t.kind) (.string (bs t.name)) (.slice ka t.kids.length kc) (.slice na t.names.length nc) (.int .i64 t.at_) := by rw [hw1]; exact bx_new _ _ _ _ _ _
  have Hw1 : Hid (_ = _) := hw1
  clear hw1
  obtain ⟨x0, x1, x2, x3, x4⟩ := hB1.cells
  have hn1 := Nat.le_trans hn hal1.size
  have h1 := h.keep (hal1.mono hn)
  have hN1 := hN.keep (hal1.mono hn)
  obtain ⟨_, a, c, hl, hoa, hoc⟩ := (parts_term hok).bind (by omega)
  obtain ⟨g, off, ka0, kc0, na0, nc0, rfl, hg, hxx0, c00, c01, c02, c03, c04⟩ := hK.at (j := 0) (x := a) (by rw [hl]; rfl)
  obtain ⟨g', off', ka1, kc1, na1, nc1, he, _, hxx1, c10, c11, c12, c13, c14⟩ := hK.at (j := 1) (x := c) (by rw [hl]; rfl)
  cases he
  simp only [Nat.zero_mul, Nat.one_mul, Nat.add_zero] at c00 c01 c02 c03 c04 c10 c11 c12 c13 c14
  have hp0 : 0 < t.kids.length := by rw [hl]; simp
  have hp1 : 1 < t.kids.length := by rw [hl]; simp
  have hq1 : (1 : Int) < (t.kids.length : Int) := by omega
  have hba : blk a < blk t := blk_kid (by rw [hl]; simp)
  have hbc : blk c < blk t := blk_kid (by rw [hl]; simp)
  have k0 : kd t 0 = a := by rw [kd_kids hl]; rfl
  have k1 : kd t 1 = c := by rw [kd_kids hl]; rfl
  rw [k0] at ha9
  have hfr := front_no ha9
  have HT9 : lineF (f + 1) t = ((partF f 2 a) ++ (32 :: 45 :: 62 :: 32 :: (partF f 0 c))) := by
    rw [lineF_s]
    unfold lineR
    rw [if_neg (by omega), if_neg (by omega), if_neg (by omega), if_pos (by omega)]
    unfold arrowR
    rw [hnm, if_pos rfl, k0, k1]
    rw [show partR (lineF f) 1 a = partF f 1 a from rfl, part_back f hfr]
    all_goals (first | rfl | (simp; done) | (simp; rfl) | (unfold partF; simp) | (rw [k0]; rfl) | (rw [k0]; simp; rfl) | (rw [k0, k1]; rfl) | (rw [k0, k1]; simp; rfl) | (rw [k0, k1]; unfold partF; simp))
  have HT00 : partF (f + 1) 0 t = ((partF f 2 a) ++ (32 :: 45 :: 62 :: 32 :: (partF f 0 c))) := by
    have e1 : needB t 0 = false := by unfold needB frontB lastP; rw [hk]; simp
    rw [show partF (f + 1) 0 t = (if needB t 0 then 40 :: (lineF (f + 1) t ++ [41]) else lineF (f + 1) t) from rfl, e1, if_neg (by simp), HT9]
    skip
  have HT0 : Hid (_ = _) := HT00
  clear HT00
  have HT10 : partF (f + 1) 2 t = (40 :: ((partF f 2 a) ++ (32 :: 45 :: 62 :: 32 :: ((partF f 0 c) ++ [41])))) := by
    have e1 : needB t 2 = true := by unfold needB frontB lastP; rw [hk]; simp
    rw [show partF (f + 1) 2 t = (if needB t 2 then 40 :: (lineF (f + 1) t ++ [41]) else lineF (f + 1) t) from rfl, e1, if_pos rfl, HT9]
    simp
  have HT1 : Hid (_ = _) := HT10
  clear HT10
  have HT20 : partF (f + 1) 3 t = (40 :: ((partF f 2 a) ++ (32 :: 45 :: 62 :: 32 :: ((partF f 0 c) ++ [41])))) := by
    have e1 : needB t 3 = true := by unfold needB frontB lastP; rw [hk]; simp
    rw [show partF (f + 1) 3 t = (if needB t 3 then 40 :: (lineF (f + 1) t ++ [41]) else lineF (f + 1) t) from rfl, e1, if_pos rfl, HT9]
    simp
  have HT2 : Hid (_ = _) := HT20
  clear HT20
  clear HT9
  have kk1 : (t.kind == 1) = false := by rw [hk]; rfl
  have kk2 : (t.kind == 2) = false := by rw [hk]; rfl
  have kk3 : (t.kind == 3) = false := by rw [hk]; rfl
  have kk4 : (t.kind == 4) = true := by rw [hk]; rfl
  have kk5 : (t.kind == 5) = false := by rw [hk]; rfl
  have kk6 : (t.kind == 6) = false := by rw [hk]; rfl
  have kk7 : (t.kind == 7) = false := by rw [hk]; rfl
  have kk8 : (t.kind == 8) = false := by rw [hk]; rfl
  have kk9 : (t.kind == 9) = false := by rw [hk]; rfl
  have kk10 : (t.kind == 10) = false := by rw [hk]; rfl
  obtain ⟨w2, hw2⟩ : ∃ w2, w2 = w1.alloc (.cells #[.int .i64 a.kind, .string (bs a.name), .slice ka0 a.kids.length kc0, .slice na0 a.names.length nc0, .int .i64 a.at_] 25) := ⟨_, rfl⟩
  have hs1 : w1.heap.size = w.heap.size + 1 := by rw [Hw1.out]; exact alloc_size1 _ _
  have hb12 : Below w1.heap.size w1 w2 := by rw [hw2]; exact below_alloc _ _
  have hB2 : Bx w2 (w.heap.size + 1) (.int .i64 a.kind) (.string (bs a.name)) (.slice ka0 a.kids.length kc0) (.slice na0 a.names.length nc0) (.int .i64 a.at_) := by rw [hw2, ← hs1]; exact bx_new _ _ _ _ _ _
  have Hw2 : Hid (_ = _) := hw2
  clear hw2
  have hal2 := chain hal1 hb12
  have hn2 := Nat.le_trans hn1 hb12.size
  have d00 := (hal1.cell (p := ⟨g, off, none⟩) (by show g < _; omega)).trans c00
  have r00 := d00
  rw [Hw1.out] at r00
  have d01 := (hal1.cell (p := ⟨g, off + 1, none⟩) (by show g < _; omega)).trans c01
  have r01 := d01
  rw [Hw1.out] at r01
  have d02 := (hal1.cell (p := ⟨g, off + 2, none⟩) (by show g < _; omega)).trans c02
  have r02 := d02
  rw [Hw1.out] at r02
  have d03 := (hal1.cell (p := ⟨g, off + 3, none⟩) (by show g < _; omega)).trans c03
  have r03 := d03
  rw [Hw1.out] at r03
  have d04 := (hal1.cell (p := ⟨g, off + 4, none⟩) (by show g < _; omega)).trans c04
  have r04 := d04
  rw [Hw1.out] at r04
  have d10 := (hal1.cell (p := ⟨g, off + 5, none⟩) (by show g < _; omega)).trans c10
  have r10 := d10
  rw [Hw1.out] at r10
  have d11 := (hal1.cell (p := ⟨g, off + 5 + 1, none⟩) (by show g < _; omega)).trans c11
  have r11 := d11
  rw [Hw1.out] at r11
  have d12 := (hal1.cell (p := ⟨g, off + 5 + 2, none⟩) (by show g < _; omega)).trans c12
  have r12 := d12
  rw [Hw1.out] at r12
  have d13 := (hal1.cell (p := ⟨g, off + 5 + 3, none⟩) (by show g < _; omega)).trans c13
  have r13 := d13
  rw [Hw1.out] at r13
  have d14 := (hal1.cell (p := ⟨g, off + 5 + 4, none⟩) (by show g < _; omega)).trans c14
  have r14 := d14
  rw [Hw1.out] at r14
  have en1 : ((t.names.length : Int) == 1) = false := by rw [hnm]; rfl
  have kf9 : (a.kind == 9) = false := by simpa using ha9
  clear hk hl hnm
  clear hfr ha9
  have hla := partF_len f 2 a
  have hlc := partF_len f 0 c
  have ad6 : ∀ w, (Op.stringOp .add (bs (partF f 2 a)) (⟨#[32, 45, 62, 32]⟩)).run Try.prog w = .ok (.string (bs ((partF f 2 a) ++ [32, 45, 62, 32]))) w := add_as (a := (partF f 2 a)) (b := [32, 45, 62, 32]) (by simp) (by simp; omega)
  have ad7 : ∀ w, (Op.stringOp .add (bs ((partF f 2 a) ++ [32, 45, 62, 32])) (bs (partF f 0 c))).run Try.prog w = .ok (.string (bs ((partF f 2 a) ++ (32 :: 45 :: 62 :: 32 :: (partF f 0 c))))) w := add_as (a := ((partF f 2 a) ++ [32, 45, 62, 32])) (b := (partF f 0 c)) (by simp) (by simp; omega)
  go_enter Try.func19, Try.ntmps19
  go_wp2_with fail
  rw [← Hw1.out, ← Hw2.out]
  clear Hw1 Hw2
  obtain ⟨y0, y1, y2, y3, y4⟩ := hB2.cells
  have hBx := hB1.blw hb12
  clear x0 x1 x2 x3 x4
  obtain ⟨x0, x1, x2, x3, x4⟩ := hBx.cells
  have cA := IH.at1 n a _ w2 hoa (by omega) (hxx0.keep (hal2.mono hn)) hn2
  refine cA.mono ?_
  rintro e w3 ⟨rfl, hb3⟩
  clear cA
  have hal3 := chain hal2 hb3
  have hB3 := hBx.blw hb3
  have hn3 := Nat.le_trans hn2 hb3.size
  clear x0 x1 x2 x3 x4
  obtain ⟨x0, x1, x2, x3, x4⟩ := hB3.cells
  have f10 := (hal3.cell (p := ⟨g, off + 5, none⟩) (by show g < _; omega)).trans c10
  have f11 := (hal3.cell (p := ⟨g, off + 5 + 1, none⟩) (by show g < _; omega)).trans c11
  have f12 := (hal3.cell (p := ⟨g, off + 5 + 2, none⟩) (by show g < _; omega)).trans c12
  have f13 := (hal3.cell (p := ⟨g, off + 5 + 3, none⟩) (by show g < _; omega)).trans c13
  have f14 := (hal3.cell (p := ⟨g, off + 5 + 4, none⟩) (by show g < _; omega)).trans c14
  go_wp2_with (first | (refine wp_add rfl _ _ rfl _ _ _ rfl rfl ad6 ?_) | (refine wp_add rfl _ _ rfl _ _ _ rfl rfl ad7 ?_))
  have cB := IH.at0 n c _ w3 hoc (by omega) (hxx1.keep (hal3.mono hn)) hn3
  refine cB.mono ?_
  rintro e w4 ⟨rfl, hb4⟩
  clear cB
  have hal4 := chain hal3 hb4
  have ad8 : ∀ w, (Op.stringOp .add (⟨#[40]⟩) (bs ((partF f 2 a) ++ (32 :: 45 :: 62 :: 32 :: (partF f 0 c))))).run Try.prog w = .ok (.string (bs (40 :: ((partF f 2 a) ++ (32 :: 45 :: 62 :: 32 :: (partF f 0 c)))))) w := add_as (a := [40]) (b := ((partF f 2 a) ++ (32 :: 45 :: 62 :: 32 :: (partF f 0 c)))) (by simp) (by simp; omega)
  have ad9 : ∀ w, (Op.stringOp .add (bs (40 :: ((partF f 2 a) ++ (32 :: 45 :: 62 :: 32 :: (partF f 0 c))))) (⟨#[41]⟩)).run Try.prog w = .ok (.string (bs (40 :: ((partF f 2 a) ++ (32 :: 45 :: 62 :: 32 :: ((partF f 0 c) ++ [41])))))) w := add_as (a := (40 :: ((partF f 2 a) ++ (32 :: 45 :: 62 :: 32 :: (partF f 0 c))))) (b := [41]) (by simp) (by simp; omega)
  rcases (show L = 0 ∨ L = 1 ∨ L = 2 by omega) with rfl | rfl | rfl
  · go_wp2_with (refine wp_add rfl _ _ rfl _ _ _ rfl rfl ad7 ?_)
    go_ret
    exact ⟨by rw [show plc 0 = 0 from rfl, HT0.out]; rfl, hal4⟩
  · go_wp2_with (first | (refine wp_add rfl _ _ rfl _ _ _ rfl rfl ad7 ?_) | (refine wp_add rfl _ _ rfl _ _ _ rfl rfl ad8 ?_) | (refine wp_add rfl _ _ rfl _ _ _ rfl rfl ad9 ?_))
    go_ret
    exact ⟨by rw [show plc 1 = 2 from rfl, HT1.out]; rfl, hal4⟩
  · go_wp2_with (first | (refine wp_add rfl _ _ rfl _ _ _ rfl rfl ad7 ?_) | (refine wp_add rfl _ _ rfl _ _ _ rfl rfl ad8 ?_) | (refine wp_add rfl _ _ rfl _ _ _ rfl rfl ad9 ?_))
    go_ret
    exact ⟨by rw [show plc 2 = 3 from rfl, HT2.out]; rfl, hal4⟩

end Go.Proofs.Ytpfnjeefhddikaa
