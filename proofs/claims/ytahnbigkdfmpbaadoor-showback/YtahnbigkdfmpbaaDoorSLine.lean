/- A tree's line by its kind; the writer as a whole. -/
import Derived.Test.YtahnbigkdfmpbaaDoorSWriteB
namespace Go.Proofs.YtahnbigkdfmpbaaDoor
open Go.RowKit
set_option linter.unusedVariables false
set_option linter.unusedSimpArgs false

set_option maxRecDepth 100000 in
set_option maxHeartbeats 4000000 in
theorem line_1 (f g n B b : Nat) (IH : ∀ m, m ≤ f → PartC m) (t : Sx) (v : Value) (w : World) (X : Bs) (hg : g < 2) (hok : okF (f + 1) g t = true) (hR : Rdy n B b t v w X) (hk : t.kind = 1) :
    Calls Tryd.prog 22 #[wp_ b, v] w (Wrote B b X (lineF (f + 1) t) w) := by
  have hP := IH f (Nat.le_refl _)
  have hp := parts_of hg hok
  have HT : Hid (lineF (f + 1) t = t.name) := by
    rw [lineF_s]
    unfold lineR
    rw [if_pos (by omega)]
    rfl
  rw [HT.out]
  unfold wp_
  obtain ⟨hb, h, hnB, hBw, hw, hX⟩ := hR
  obtain ⟨ka, kc, na, nc, rfl, hN, hK⟩ := h.form
  obtain ⟨w1, hw1⟩ : ∃ w1, w1 = w.alloc (.cells #[.int .i64 t.kind, .string (bs t.name), .slice ka t.kids.length kc, .slice na t.names.length nc, .int .i64 t.at_] 25) := ⟨_, rfl⟩
  have hK1 : KW B b w w1 := by rw [hw1]; exact KW.of_alloc B b w hBw _
  have hx1 : Bx w1 w.heap.size (.int .i64 t.kind) (.string (bs t.name)) (.slice ka t.kids.length kc) (.slice na t.names.length nc) (.int .i64 t.at_) := by rw [hw1]; exact bx_new _ _ _ _ _ _
  have hW1 : WB B b (cut (X ++ [])) w1 := by rw [hw1]; exact (hw.alloc _).start hX
  have hxb : w.heap.size ≠ b := by have := hw.lt; omega
  have hs1 := Nat.le_trans hBw hK1.below.size
  have hz1 : w1.heap.size = w.heap.size + 1 := by rw [hw1]; simp
  have Hz1 : Hid (_ = _) := hz1
  clear hz1
  have Hw1 : Hid (_ = _) := hw1
  clear hw1
  obtain ⟨x0, x1, x2, x3, x4⟩ := hx1.cells
  skip
  have k1 : (t.kind == 1) = true := by rw [hk]; rfl
  have k17 : (t.kind == 17) = false := by rw [hk]; rfl
  have k2 : (t.kind == 2) = false := by rw [hk]; rfl
  have k3 : (t.kind == 3) = false := by rw [hk]; rfl
  have k4 : (t.kind == 4) = false := by rw [hk]; rfl
  have k5 : (t.kind == 5) = false := by rw [hk]; rfl
  have k6 : (t.kind == 6) = false := by rw [hk]; rfl
  have k7 : (t.kind == 7) = false := by rw [hk]; rfl
  have k8 : (t.kind == 8) = false := by rw [hk]; rfl
  have k9 : (t.kind == 9) = false := by rw [hk]; rfl
  have k10 : (t.kind == 10) = false := by rw [hk]; rfl
  have k14 : (t.kind == 14) = false := by rw [hk]; rfl
  have k15 : (t.kind == 15) = false := by rw [hk]; rfl
  have k16 : (t.kind == 16) = false := by rw [hk]; rfl
  clear hk hp HT
  go_enter Tryd.func22, Tryd.ntmps22
  go_wp2_with fail
  rw [← Hw1.out]
  clear Hw1
  have cc := put1_any B b _ (bs t.name) w1 hW1 (cut_len _) hs1 (by rw [bs_size]; have := blk_name t; omega)
  unfold wp_ at cc
  rw [Hz1.out] at cc
  refine cc.mono ?_
  rintro e w2 ⟨rfl, hW, hk⟩
  have hW2 := hW.step
  have hK2 := hK1.trans hk
  have hx2 := KW.bx hx1 hk hxb
  clear x0 x1 x2 x3 x4
  obtain ⟨x0, x1, x2, x3, x4⟩ := hx2.cells
  have hs2 := Nat.le_trans hBw hK2.below.size
  clear hW hk cc
  go_wp2_with fail
  go_end0
  exact ⟨rfl, hW2.fit (by rw [tl_bs]; simp), hK2⟩

set_option maxRecDepth 100000 in
set_option maxHeartbeats 4000000 in
theorem line_17 (f g n B b : Nat) (IH : ∀ m, m ≤ f → PartC m) (t : Sx) (v : Value) (w : World) (X : Bs) (hg : g < 2) (hok : okF (f + 1) g t = true) (hR : Rdy n B b t v w X) (hk : t.kind = 17) :
    Calls Tryd.prog 22 #[wp_ b, v] w (Wrote B b X (lineF (f + 1) t) w) := by
  have hP := IH f (Nat.le_refl _)
  have hp := parts_of hg hok
  have HT : Hid (lineF (f + 1) t = t.name) := by
    rw [lineF_s]
    unfold lineR
    rw [if_pos (by omega)]
    rfl
  rw [HT.out]
  unfold wp_
  obtain ⟨hb, h, hnB, hBw, hw, hX⟩ := hR
  obtain ⟨ka, kc, na, nc, rfl, hN, hK⟩ := h.form
  obtain ⟨w1, hw1⟩ : ∃ w1, w1 = w.alloc (.cells #[.int .i64 t.kind, .string (bs t.name), .slice ka t.kids.length kc, .slice na t.names.length nc, .int .i64 t.at_] 25) := ⟨_, rfl⟩
  have hK1 : KW B b w w1 := by rw [hw1]; exact KW.of_alloc B b w hBw _
  have hx1 : Bx w1 w.heap.size (.int .i64 t.kind) (.string (bs t.name)) (.slice ka t.kids.length kc) (.slice na t.names.length nc) (.int .i64 t.at_) := by rw [hw1]; exact bx_new _ _ _ _ _ _
  have hW1 : WB B b (cut (X ++ [])) w1 := by rw [hw1]; exact (hw.alloc _).start hX
  have hxb : w.heap.size ≠ b := by have := hw.lt; omega
  have hs1 := Nat.le_trans hBw hK1.below.size
  have hz1 : w1.heap.size = w.heap.size + 1 := by rw [hw1]; simp
  have Hz1 : Hid (_ = _) := hz1
  clear hz1
  have Hw1 : Hid (_ = _) := hw1
  clear hw1
  obtain ⟨x0, x1, x2, x3, x4⟩ := hx1.cells
  skip
  have k1 : (t.kind == 1) = false := by rw [hk]; rfl
  have k17 : (t.kind == 17) = true := by rw [hk]; rfl
  have k2 : (t.kind == 2) = false := by rw [hk]; rfl
  have k3 : (t.kind == 3) = false := by rw [hk]; rfl
  have k4 : (t.kind == 4) = false := by rw [hk]; rfl
  have k5 : (t.kind == 5) = false := by rw [hk]; rfl
  have k6 : (t.kind == 6) = false := by rw [hk]; rfl
  have k7 : (t.kind == 7) = false := by rw [hk]; rfl
  have k8 : (t.kind == 8) = false := by rw [hk]; rfl
  have k9 : (t.kind == 9) = false := by rw [hk]; rfl
  have k10 : (t.kind == 10) = false := by rw [hk]; rfl
  have k14 : (t.kind == 14) = false := by rw [hk]; rfl
  have k15 : (t.kind == 15) = false := by rw [hk]; rfl
  have k16 : (t.kind == 16) = false := by rw [hk]; rfl
  clear hk hp HT
  go_enter Tryd.func22, Tryd.ntmps22
  go_wp2_with fail
  rw [← Hw1.out]
  clear Hw1
  have cc := put1_any B b _ (bs t.name) w1 hW1 (cut_len _) hs1 (by rw [bs_size]; have := blk_name t; omega)
  unfold wp_ at cc
  rw [Hz1.out] at cc
  refine cc.mono ?_
  rintro e w2 ⟨rfl, hW, hk⟩
  have hW2 := hW.step
  have hK2 := hK1.trans hk
  have hx2 := KW.bx hx1 hk hxb
  clear x0 x1 x2 x3 x4
  obtain ⟨x0, x1, x2, x3, x4⟩ := hx2.cells
  have hs2 := Nat.le_trans hBw hK2.below.size
  clear hW hk cc
  go_wp2_with fail
  go_end0
  exact ⟨rfl, hW2.fit (by rw [tl_bs]; simp), hK2⟩

set_option maxRecDepth 100000 in
set_option maxHeartbeats 4000000 in
theorem line_2 (f g n B b : Nat) (IH : ∀ m, m ≤ f → PartC m) (t : Sx) (v : Value) (w : World) (X : Bs) (hg : g < 2) (hok : okF (f + 1) g t = true) (hR : Rdy n B b t v w X) (hk : t.kind = 2) :
    Calls Tryd.prog 22 #[wp_ b, v] w (Wrote B b X (lineF (f + 1) t) w) := by
  have hP := IH f (Nat.le_refl _)
  have hp := parts_of hg hok
  have HT : Hid (lineF (f + 1) t = 92 :: (jn [32] t.names ++ ([46, 32] ++ partR (lineF f) 0 (kd t 0)))) := by
    rw [lineF_s]
    unfold lineR
    rw [if_neg (by omega), if_pos (by omega)]
    rfl
  rw [HT.out]
  unfold wp_
  obtain ⟨hb, h, hnB, hBw, hw, hX⟩ := hR
  obtain ⟨ka, kc, na, nc, rfl, hN, hK⟩ := h.form
  obtain ⟨w1, hw1⟩ : ∃ w1, w1 = w.alloc (.cells #[.int .i64 t.kind, .string (bs t.name), .slice ka t.kids.length kc, .slice na t.names.length nc, .int .i64 t.at_] 25) := ⟨_, rfl⟩
  have hK1 : KW B b w w1 := by rw [hw1]; exact KW.of_alloc B b w hBw _
  have hx1 : Bx w1 w.heap.size (.int .i64 t.kind) (.string (bs t.name)) (.slice ka t.kids.length kc) (.slice na t.names.length nc) (.int .i64 t.at_) := by rw [hw1]; exact bx_new _ _ _ _ _ _
  have hW1 : WB B b (cut (X ++ [])) w1 := by rw [hw1]; exact (hw.alloc _).start hX
  have hxb : w.heap.size ≠ b := by have := hw.lt; omega
  have hs1 := Nat.le_trans hBw hK1.below.size
  have hz1 : w1.heap.size = w.heap.size + 1 := by rw [hw1]; simp
  have Hz1 : Hid (_ = _) := hz1
  clear hz1
  have Hw1 : Hid (_ = _) := hw1
  clear hw1
  obtain ⟨x0, x1, x2, x3, x4⟩ := hx1.cells
  obtain ⟨hne, a, hl, hoa⟩ := hp.one (by omega)
  have Hk : Hid (kd t 0 = a) := by rw [kd_kids hl]; rfl
  have Hne : Hid (_ ≠ _) := hne
  clear hne
  have Hl : Hid (_ = _) := hl
  clear hl
  have k1 : (t.kind == 1) = false := by rw [hk]; rfl
  have k17 : (t.kind == 17) = false := by rw [hk]; rfl
  have k2 : (t.kind == 2) = true := by rw [hk]; rfl
  have k3 : (t.kind == 3) = false := by rw [hk]; rfl
  have k4 : (t.kind == 4) = false := by rw [hk]; rfl
  have k5 : (t.kind == 5) = false := by rw [hk]; rfl
  have k6 : (t.kind == 6) = false := by rw [hk]; rfl
  have k7 : (t.kind == 7) = false := by rw [hk]; rfl
  have k8 : (t.kind == 8) = false := by rw [hk]; rfl
  have k9 : (t.kind == 9) = false := by rw [hk]; rfl
  have k10 : (t.kind == 10) = false := by rw [hk]; rfl
  have k14 : (t.kind == 14) = false := by rw [hk]; rfl
  have k15 : (t.kind == 15) = false := by rw [hk]; rfl
  have k16 : (t.kind == 16) = false := by rw [hk]; rfl
  clear hk hp HT
  go_enter Tryd.func22, Tryd.ntmps22
  go_wp2_with fail
  rw [← Hw1.out]
  clear Hw1
  have cc := binds_any f hP n B b t a Hl.out Hne.out ⟨#[92]⟩ ⟨#[46, 32]⟩ _ w1 _ hoa ⟨hb, h.keep (hK1.below.mono hnB), hnB, hs1, hW1, cut_len _⟩ (by decide) (by decide)
  unfold wp_ at cc
  refine cc.mono ?_
  rintro e w2 ⟨rfl, hW, hk⟩
  have hW2 := hW.step
  have hK2 := hK1.trans hk
  have hx2 := KW.bx hx1 hk hxb
  clear x0 x1 x2 x3 x4
  obtain ⟨x0, x1, x2, x3, x4⟩ := hx2.cells
  have hs2 := Nat.le_trans hBw hK2.below.size
  clear hW hk cc
  go_wp2_with fail
  go_end0
  exact ⟨rfl, hW2.fit (by rw [Hk.out]; simp [tl, List.append_assoc]; rfl), hK2⟩

set_option maxRecDepth 100000 in
set_option maxHeartbeats 4000000 in
theorem line_3 (f g n B b : Nat) (IH : ∀ m, m ≤ f → PartC m) (t : Sx) (v : Value) (w : World) (X : Bs) (hg : g < 2) (hok : okF (f + 1) g t = true) (hR : Rdy n B b t v w X) (hk : t.kind = 3) :
    Calls Tryd.prog 22 #[wp_ b, v] w (Wrote B b X (lineF (f + 1) t) w) := by
  have hP := IH f (Nat.le_refl _)
  have hp := parts_of hg hok
  have HT : Hid (lineF (f + 1) t = 60 :: (jn [32] t.names ++ ([62, 32] ++ partR (lineF f) 0 (kd t 0)))) := by
    rw [lineF_s]
    unfold lineR
    rw [if_neg (by omega), if_neg (by omega), if_pos (by omega)]
    rfl
  rw [HT.out]
  unfold wp_
  obtain ⟨hb, h, hnB, hBw, hw, hX⟩ := hR
  obtain ⟨ka, kc, na, nc, rfl, hN, hK⟩ := h.form
  obtain ⟨w1, hw1⟩ : ∃ w1, w1 = w.alloc (.cells #[.int .i64 t.kind, .string (bs t.name), .slice ka t.kids.length kc, .slice na t.names.length nc, .int .i64 t.at_] 25) := ⟨_, rfl⟩
  have hK1 : KW B b w w1 := by rw [hw1]; exact KW.of_alloc B b w hBw _
  have hx1 : Bx w1 w.heap.size (.int .i64 t.kind) (.string (bs t.name)) (.slice ka t.kids.length kc) (.slice na t.names.length nc) (.int .i64 t.at_) := by rw [hw1]; exact bx_new _ _ _ _ _ _
  have hW1 : WB B b (cut (X ++ [])) w1 := by rw [hw1]; exact (hw.alloc _).start hX
  have hxb : w.heap.size ≠ b := by have := hw.lt; omega
  have hs1 := Nat.le_trans hBw hK1.below.size
  have hz1 : w1.heap.size = w.heap.size + 1 := by rw [hw1]; simp
  have Hz1 : Hid (_ = _) := hz1
  clear hz1
  have Hw1 : Hid (_ = _) := hw1
  clear hw1
  obtain ⟨x0, x1, x2, x3, x4⟩ := hx1.cells
  obtain ⟨hne, a, hl, hoa⟩ := hp.one (by omega)
  have Hk : Hid (kd t 0 = a) := by rw [kd_kids hl]; rfl
  have Hne : Hid (_ ≠ _) := hne
  clear hne
  have Hl : Hid (_ = _) := hl
  clear hl
  have k1 : (t.kind == 1) = false := by rw [hk]; rfl
  have k17 : (t.kind == 17) = false := by rw [hk]; rfl
  have k2 : (t.kind == 2) = false := by rw [hk]; rfl
  have k3 : (t.kind == 3) = true := by rw [hk]; rfl
  have k4 : (t.kind == 4) = false := by rw [hk]; rfl
  have k5 : (t.kind == 5) = false := by rw [hk]; rfl
  have k6 : (t.kind == 6) = false := by rw [hk]; rfl
  have k7 : (t.kind == 7) = false := by rw [hk]; rfl
  have k8 : (t.kind == 8) = false := by rw [hk]; rfl
  have k9 : (t.kind == 9) = false := by rw [hk]; rfl
  have k10 : (t.kind == 10) = false := by rw [hk]; rfl
  have k14 : (t.kind == 14) = false := by rw [hk]; rfl
  have k15 : (t.kind == 15) = false := by rw [hk]; rfl
  have k16 : (t.kind == 16) = false := by rw [hk]; rfl
  clear hk hp HT
  go_enter Tryd.func22, Tryd.ntmps22
  go_wp2_with fail
  rw [← Hw1.out]
  clear Hw1
  have cc := binds_any f hP n B b t a Hl.out Hne.out ⟨#[60]⟩ ⟨#[62, 32]⟩ _ w1 _ hoa ⟨hb, h.keep (hK1.below.mono hnB), hnB, hs1, hW1, cut_len _⟩ (by decide) (by decide)
  unfold wp_ at cc
  refine cc.mono ?_
  rintro e w2 ⟨rfl, hW, hk⟩
  have hW2 := hW.step
  have hK2 := hK1.trans hk
  have hx2 := KW.bx hx1 hk hxb
  clear x0 x1 x2 x3 x4
  obtain ⟨x0, x1, x2, x3, x4⟩ := hx2.cells
  have hs2 := Nat.le_trans hBw hK2.below.size
  clear hW hk cc
  go_wp2_with fail
  go_end0
  exact ⟨rfl, hW2.fit (by rw [Hk.out]; simp [tl, List.append_assoc]; rfl), hK2⟩

set_option maxRecDepth 100000 in
set_option maxHeartbeats 4000000 in
theorem line_4 (f g n B b : Nat) (IH : ∀ m, m ≤ f → PartC m) (t : Sx) (v : Value) (w : World) (X : Bs) (hg : g < 2) (hok : okF (f + 1) g t = true) (hR : Rdy n B b t v w X) (hk : t.kind = 4) :
    Calls Tryd.prog 22 #[wp_ b, v] w (Wrote B b X (lineF (f + 1) t) w) := by
  have hP := IH f (Nat.le_refl _)
  have hp := parts_of hg hok
  have HT : Hid (lineF (f + 1) t = arrowR (lineF f) t [32, 45, 62, 32]) := by
    rw [lineF_s]
    unfold lineR
    rw [if_neg (by omega), if_neg (by omega), if_neg (by omega), if_pos (by omega)]
    rfl
  rw [HT.out]
  unfold wp_
  obtain ⟨hb, h, hnB, hBw, hw, hX⟩ := hR
  obtain ⟨ka, kc, na, nc, rfl, hN, hK⟩ := h.form
  obtain ⟨w1, hw1⟩ : ∃ w1, w1 = w.alloc (.cells #[.int .i64 t.kind, .string (bs t.name), .slice ka t.kids.length kc, .slice na t.names.length nc, .int .i64 t.at_] 25) := ⟨_, rfl⟩
  have hK1 : KW B b w w1 := by rw [hw1]; exact KW.of_alloc B b w hBw _
  have hx1 : Bx w1 w.heap.size (.int .i64 t.kind) (.string (bs t.name)) (.slice ka t.kids.length kc) (.slice na t.names.length nc) (.int .i64 t.at_) := by rw [hw1]; exact bx_new _ _ _ _ _ _
  have hW1 : WB B b (cut (X ++ [])) w1 := by rw [hw1]; exact (hw.alloc _).start hX
  have hxb : w.heap.size ≠ b := by have := hw.lt; omega
  have hs1 := Nat.le_trans hBw hK1.below.size
  have hz1 : w1.heap.size = w.heap.size + 1 := by rw [hw1]; simp
  have Hz1 : Hid (_ = _) := hz1
  clear hz1
  have Hw1 : Hid (_ = _) := hw1
  clear hw1
  obtain ⟨x0, x1, x2, x3, x4⟩ := hx1.cells
  obtain ⟨hlen, a, c, hl, hoa, hoc⟩ := hp.bind (by omega)
  have Hl : Hid (_ = _) := hl
  clear hl
  have k1 : (t.kind == 1) = false := by rw [hk]; rfl
  have k17 : (t.kind == 17) = false := by rw [hk]; rfl
  have k2 : (t.kind == 2) = false := by rw [hk]; rfl
  have k3 : (t.kind == 3) = false := by rw [hk]; rfl
  have k4 : (t.kind == 4) = true := by rw [hk]; rfl
  have k5 : (t.kind == 5) = false := by rw [hk]; rfl
  have k6 : (t.kind == 6) = false := by rw [hk]; rfl
  have k7 : (t.kind == 7) = false := by rw [hk]; rfl
  have k8 : (t.kind == 8) = false := by rw [hk]; rfl
  have k9 : (t.kind == 9) = false := by rw [hk]; rfl
  have k10 : (t.kind == 10) = false := by rw [hk]; rfl
  have k14 : (t.kind == 14) = false := by rw [hk]; rfl
  have k15 : (t.kind == 15) = false := by rw [hk]; rfl
  have k16 : (t.kind == 16) = false := by rw [hk]; rfl
  clear hk hp HT
  go_enter Tryd.func22, Tryd.ntmps22
  go_wp2_with fail
  rw [← Hw1.out]
  clear Hw1
  have cc := sarrow_any f hP n B b t a c Hl.out hlen ⟨#[32, 45, 62, 32]⟩ _ w1 _ hoa hoc ⟨hb, h.keep (hK1.below.mono hnB), hnB, hs1, hW1, cut_len _⟩ (by decide)
  unfold wp_ at cc
  refine cc.mono ?_
  rintro e w2 ⟨rfl, hW, hk⟩
  have hW2 := hW.step
  have hK2 := hK1.trans hk
  have hx2 := KW.bx hx1 hk hxb
  clear x0 x1 x2 x3 x4
  obtain ⟨x0, x1, x2, x3, x4⟩ := hx2.cells
  have hs2 := Nat.le_trans hBw hK2.below.size
  clear hW hk cc
  go_wp2_with fail
  go_end0
  exact ⟨rfl, hW2.fit (by simp; rfl), hK2⟩

set_option maxRecDepth 100000 in
set_option maxHeartbeats 4000000 in
theorem line_5 (f g n B b : Nat) (IH : ∀ m, m ≤ f → PartC m) (t : Sx) (v : Value) (w : World) (X : Bs) (hg : g < 2) (hok : okF (f + 1) g t = true) (hR : Rdy n B b t v w X) (hk : t.kind = 5) :
    Calls Tryd.prog 22 #[wp_ b, v] w (Wrote B b X (lineF (f + 1) t) w) := by
  have hP := IH f (Nat.le_refl _)
  have hp := parts_of hg hok
  have HT : Hid (lineF (f + 1) t = arrowR (lineF f) t [32, 42, 32]) := by
    rw [lineF_s]
    unfold lineR
    rw [if_neg (by omega), if_neg (by omega), if_neg (by omega), if_neg (by omega), if_pos (by omega)]
    rfl
  rw [HT.out]
  unfold wp_
  obtain ⟨hb, h, hnB, hBw, hw, hX⟩ := hR
  obtain ⟨ka, kc, na, nc, rfl, hN, hK⟩ := h.form
  obtain ⟨w1, hw1⟩ : ∃ w1, w1 = w.alloc (.cells #[.int .i64 t.kind, .string (bs t.name), .slice ka t.kids.length kc, .slice na t.names.length nc, .int .i64 t.at_] 25) := ⟨_, rfl⟩
  have hK1 : KW B b w w1 := by rw [hw1]; exact KW.of_alloc B b w hBw _
  have hx1 : Bx w1 w.heap.size (.int .i64 t.kind) (.string (bs t.name)) (.slice ka t.kids.length kc) (.slice na t.names.length nc) (.int .i64 t.at_) := by rw [hw1]; exact bx_new _ _ _ _ _ _
  have hW1 : WB B b (cut (X ++ [])) w1 := by rw [hw1]; exact (hw.alloc _).start hX
  have hxb : w.heap.size ≠ b := by have := hw.lt; omega
  have hs1 := Nat.le_trans hBw hK1.below.size
  have hz1 : w1.heap.size = w.heap.size + 1 := by rw [hw1]; simp
  have Hz1 : Hid (_ = _) := hz1
  clear hz1
  have Hw1 : Hid (_ = _) := hw1
  clear hw1
  obtain ⟨x0, x1, x2, x3, x4⟩ := hx1.cells
  obtain ⟨hlen, a, c, hl, hoa, hoc⟩ := hp.bind (by omega)
  have Hl : Hid (_ = _) := hl
  clear hl
  have k1 : (t.kind == 1) = false := by rw [hk]; rfl
  have k17 : (t.kind == 17) = false := by rw [hk]; rfl
  have k2 : (t.kind == 2) = false := by rw [hk]; rfl
  have k3 : (t.kind == 3) = false := by rw [hk]; rfl
  have k4 : (t.kind == 4) = false := by rw [hk]; rfl
  have k5 : (t.kind == 5) = true := by rw [hk]; rfl
  have k6 : (t.kind == 6) = false := by rw [hk]; rfl
  have k7 : (t.kind == 7) = false := by rw [hk]; rfl
  have k8 : (t.kind == 8) = false := by rw [hk]; rfl
  have k9 : (t.kind == 9) = false := by rw [hk]; rfl
  have k10 : (t.kind == 10) = false := by rw [hk]; rfl
  have k14 : (t.kind == 14) = false := by rw [hk]; rfl
  have k15 : (t.kind == 15) = false := by rw [hk]; rfl
  have k16 : (t.kind == 16) = false := by rw [hk]; rfl
  clear hk hp HT
  go_enter Tryd.func22, Tryd.ntmps22
  go_wp2_with fail
  rw [← Hw1.out]
  clear Hw1
  have cc := sarrow_any f hP n B b t a c Hl.out hlen ⟨#[32, 42, 32]⟩ _ w1 _ hoa hoc ⟨hb, h.keep (hK1.below.mono hnB), hnB, hs1, hW1, cut_len _⟩ (by decide)
  unfold wp_ at cc
  refine cc.mono ?_
  rintro e w2 ⟨rfl, hW, hk⟩
  have hW2 := hW.step
  have hK2 := hK1.trans hk
  have hx2 := KW.bx hx1 hk hxb
  clear x0 x1 x2 x3 x4
  obtain ⟨x0, x1, x2, x3, x4⟩ := hx2.cells
  have hs2 := Nat.le_trans hBw hK2.below.size
  clear hW hk cc
  go_wp2_with fail
  go_end0
  exact ⟨rfl, hW2.fit (by simp; rfl), hK2⟩

set_option maxRecDepth 100000 in
set_option maxHeartbeats 4000000 in
theorem line_6 (f g n B b : Nat) (IH : ∀ m, m ≤ f → PartC m) (t : Sx) (v : Value) (w : World) (X : Bs) (hg : g < 2) (hok : okF (f + 1) g t = true) (hR : Rdy n B b t v w X) (hk : t.kind = 6) :
    Calls Tryd.prog 22 #[wp_ b, v] w (Wrote B b X (lineF (f + 1) t) w) := by
  have hP := IH f (Nat.le_refl _)
  have hp := parts_of hg hok
  have HT : Hid (lineF (f + 1) t = partR (lineF f) 2 (kd t 0) ++ ([32] ++ partR (lineF f) 3 (kd t 1))) := by
    rw [lineF_s]
    unfold lineR
    rw [if_neg (by omega), if_neg (by omega), if_neg (by omega), if_neg (by omega), if_neg (by omega), if_pos (by omega)]
    rfl
  rw [HT.out]
  unfold wp_
  obtain ⟨hb, h, hnB, hBw, hw, hX⟩ := hR
  obtain ⟨ka, kc, na, nc, rfl, hN, hK⟩ := h.form
  obtain ⟨w1, hw1⟩ : ∃ w1, w1 = w.alloc (.cells #[.int .i64 t.kind, .string (bs t.name), .slice ka t.kids.length kc, .slice na t.names.length nc, .int .i64 t.at_] 25) := ⟨_, rfl⟩
  have hK1 : KW B b w w1 := by rw [hw1]; exact KW.of_alloc B b w hBw _
  have hx1 : Bx w1 w.heap.size (.int .i64 t.kind) (.string (bs t.name)) (.slice ka t.kids.length kc) (.slice na t.names.length nc) (.int .i64 t.at_) := by rw [hw1]; exact bx_new _ _ _ _ _ _
  have hW1 : WB B b (cut (X ++ [])) w1 := by rw [hw1]; exact (hw.alloc _).start hX
  have hxb : w.heap.size ≠ b := by have := hw.lt; omega
  have hs1 := Nat.le_trans hBw hK1.below.size
  have hz1 : w1.heap.size = w.heap.size + 1 := by rw [hw1]; simp
  have Hz1 : Hid (_ = _) := hz1
  clear hz1
  have Hw1 : Hid (_ = _) := hw1
  clear hw1
  obtain ⟨x0, x1, x2, x3, x4⟩ := hx1.cells
  obtain ⟨a, c, hl, hoa, hoc⟩ := hp.two (by omega)
  have Hk : Hid (kd t 0 = a ∧ kd t 1 = c) := ⟨by rw [kd_kids hl]; rfl, by rw [kd_kids hl]; rfl⟩
  have hba : blk a ≤ 1000000 := by have := blk_kid (t := t) (x := a) (by rw [hl]; simp); omega
  have hbc : blk c ≤ 1000000 := by have := blk_kid (t := t) (x := c) (by rw [hl]; simp); omega
  have Hl : Hid (_ = _) := hl
  clear hl
  have k1 : (t.kind == 1) = false := by rw [hk]; rfl
  have k17 : (t.kind == 17) = false := by rw [hk]; rfl
  have k2 : (t.kind == 2) = false := by rw [hk]; rfl
  have k3 : (t.kind == 3) = false := by rw [hk]; rfl
  have k4 : (t.kind == 4) = false := by rw [hk]; rfl
  have k5 : (t.kind == 5) = false := by rw [hk]; rfl
  have k6 : (t.kind == 6) = true := by rw [hk]; rfl
  have k7 : (t.kind == 7) = false := by rw [hk]; rfl
  have k8 : (t.kind == 8) = false := by rw [hk]; rfl
  have k9 : (t.kind == 9) = false := by rw [hk]; rfl
  have k10 : (t.kind == 10) = false := by rw [hk]; rfl
  have k14 : (t.kind == 14) = false := by rw [hk]; rfl
  have k15 : (t.kind == 15) = false := by rw [hk]; rfl
  have k16 : (t.kind == 16) = false := by rw [hk]; rfl
  clear hk hp HT
  go_enter Tryd.func22, Tryd.ntmps22
  go_wp2_with fail
  rw [← Hw1.out]
  clear Hw1
  have cc := stwo_any f hP 2 3 0 0 n B b a c t.kids Hl.out ka kc (⟨#[32]⟩) w1 _ (by omega) (by omega) (by omega) (by omega) hoa hoc hba hbc (hK.all (hK1.below.mono hnB)) hnB hs1 hW1 (cut_len _) (by decide)
  unfold wp_ at cc
  refine cc.mono ?_
  rintro e w2 ⟨rfl, hW, hk⟩
  have hW2 := hW.step
  have hK2 := hK1.trans hk
  have hx2 := KW.bx hx1 hk hxb
  clear x0 x1 x2 x3 x4
  obtain ⟨x0, x1, x2, x3, x4⟩ := hx2.cells
  have hs2 := Nat.le_trans hBw hK2.below.size
  clear hW hk cc
  go_wp2_with fail
  go_end0
  exact ⟨rfl, hW2.fit (by rw [Hk.out.1, Hk.out.2]; simp [tl]; rfl), hK2⟩

set_option maxRecDepth 100000 in
set_option maxHeartbeats 4000000 in
theorem line_7 (f g n B b : Nat) (IH : ∀ m, m ≤ f → PartC m) (t : Sx) (v : Value) (w : World) (X : Bs) (hg : g < 2) (hok : okF (f + 1) g t = true) (hR : Rdy n B b t v w X) (hk : t.kind = 7) :
    Calls Tryd.prog 22 #[wp_ b, v] w (Wrote B b X (lineF (f + 1) t) w) := by
  have hP := IH f (Nat.le_refl _)
  have hp := parts_of hg hok
  have HT : Hid (lineF (f + 1) t = partR (lineF f) 2 (kd t 0) ++ ([32, 64, 32] ++ partR (lineF f) 6 (kd t 1))) := by
    rw [lineF_s]
    unfold lineR
    rw [if_neg (by omega), if_neg (by omega), if_neg (by omega), if_neg (by omega), if_neg (by omega), if_neg (by omega), if_pos (by omega)]
    rfl
  rw [HT.out]
  unfold wp_
  obtain ⟨hb, h, hnB, hBw, hw, hX⟩ := hR
  obtain ⟨ka, kc, na, nc, rfl, hN, hK⟩ := h.form
  obtain ⟨w1, hw1⟩ : ∃ w1, w1 = w.alloc (.cells #[.int .i64 t.kind, .string (bs t.name), .slice ka t.kids.length kc, .slice na t.names.length nc, .int .i64 t.at_] 25) := ⟨_, rfl⟩
  have hK1 : KW B b w w1 := by rw [hw1]; exact KW.of_alloc B b w hBw _
  have hx1 : Bx w1 w.heap.size (.int .i64 t.kind) (.string (bs t.name)) (.slice ka t.kids.length kc) (.slice na t.names.length nc) (.int .i64 t.at_) := by rw [hw1]; exact bx_new _ _ _ _ _ _
  have hW1 : WB B b (cut (X ++ [])) w1 := by rw [hw1]; exact (hw.alloc _).start hX
  have hxb : w.heap.size ≠ b := by have := hw.lt; omega
  have hs1 := Nat.le_trans hBw hK1.below.size
  have hz1 : w1.heap.size = w.heap.size + 1 := by rw [hw1]; simp
  have Hz1 : Hid (_ = _) := hz1
  clear hz1
  have Hw1 : Hid (_ = _) := hw1
  clear hw1
  obtain ⟨x0, x1, x2, x3, x4⟩ := hx1.cells
  obtain ⟨a, c, hl, hoa, hoc⟩ := hp.at7 (by omega)
  have Hk : Hid (kd t 0 = a ∧ kd t 1 = c) := ⟨by rw [kd_kids hl]; rfl, by rw [kd_kids hl]; rfl⟩
  have hba : blk a ≤ 1000000 := by have := blk_kid (t := t) (x := a) (by rw [hl]; simp); omega
  have hbc : blk c ≤ 1000000 := by have := blk_kid (t := t) (x := c) (by rw [hl]; simp); omega
  have Hl : Hid (_ = _) := hl
  clear hl
  have k1 : (t.kind == 1) = false := by rw [hk]; rfl
  have k17 : (t.kind == 17) = false := by rw [hk]; rfl
  have k2 : (t.kind == 2) = false := by rw [hk]; rfl
  have k3 : (t.kind == 3) = false := by rw [hk]; rfl
  have k4 : (t.kind == 4) = false := by rw [hk]; rfl
  have k5 : (t.kind == 5) = false := by rw [hk]; rfl
  have k6 : (t.kind == 6) = false := by rw [hk]; rfl
  have k7 : (t.kind == 7) = true := by rw [hk]; rfl
  have k8 : (t.kind == 8) = false := by rw [hk]; rfl
  have k9 : (t.kind == 9) = false := by rw [hk]; rfl
  have k10 : (t.kind == 10) = false := by rw [hk]; rfl
  have k14 : (t.kind == 14) = false := by rw [hk]; rfl
  have k15 : (t.kind == 15) = false := by rw [hk]; rfl
  have k16 : (t.kind == 16) = false := by rw [hk]; rfl
  clear hk hp HT
  go_enter Tryd.func22, Tryd.ntmps22
  go_wp2_with fail
  rw [← Hw1.out]
  clear Hw1
  have cc := stwo_any f hP 2 6 0 1 n B b a c t.kids Hl.out ka kc (⟨#[32, 64, 32]⟩) w1 _ (by omega) (by omega) (by omega) (by omega) hoa hoc hba hbc (hK.all (hK1.below.mono hnB)) hnB hs1 hW1 (cut_len _) (by decide)
  unfold wp_ at cc
  refine cc.mono ?_
  rintro e w2 ⟨rfl, hW, hk⟩
  have hW2 := hW.step
  have hK2 := hK1.trans hk
  have hx2 := KW.bx hx1 hk hxb
  clear x0 x1 x2 x3 x4
  obtain ⟨x0, x1, x2, x3, x4⟩ := hx2.cells
  have hs2 := Nat.le_trans hBw hK2.below.size
  clear hW hk cc
  go_wp2_with fail
  go_end0
  exact ⟨rfl, hW2.fit (by rw [Hk.out.1, Hk.out.2]; simp [tl]; rfl), hK2⟩

set_option maxRecDepth 100000 in
set_option maxHeartbeats 4000000 in
theorem line_14 (f g n B b : Nat) (IH : ∀ m, m ≤ f → PartC m) (t : Sx) (v : Value) (w : World) (X : Bs) (hg : g < 2) (hok : okF (f + 1) g t = true) (hR : Rdy n B b t v w X) (hk : t.kind = 14) :
    Calls Tryd.prog 22 #[wp_ b, v] w (Wrote B b X (lineF (f + 1) t) w) := by
  have hP := IH f (Nat.le_refl _)
  have hp := parts_of hg hok
  have HT : Hid (lineF (f + 1) t = partR (lineF f) 4 (kd t 0) ++ ([32, 92, 47, 32] ++ partR (lineF f) 5 (kd t 1))) := by
    rw [lineF_s]
    unfold lineR
    rw [if_neg (by omega), if_neg (by omega), if_neg (by omega), if_neg (by omega), if_neg (by omega), if_neg (by omega), if_neg (by omega), if_neg (by omega), if_neg (by omega), if_neg (by omega), if_neg (by omega), if_neg (by omega), if_neg (by omega), if_pos (by omega)]
    rfl
  rw [HT.out]
  unfold wp_
  obtain ⟨hb, h, hnB, hBw, hw, hX⟩ := hR
  obtain ⟨ka, kc, na, nc, rfl, hN, hK⟩ := h.form
  obtain ⟨w1, hw1⟩ : ∃ w1, w1 = w.alloc (.cells #[.int .i64 t.kind, .string (bs t.name), .slice ka t.kids.length kc, .slice na t.names.length nc, .int .i64 t.at_] 25) := ⟨_, rfl⟩
  have hK1 : KW B b w w1 := by rw [hw1]; exact KW.of_alloc B b w hBw _
  have hx1 : Bx w1 w.heap.size (.int .i64 t.kind) (.string (bs t.name)) (.slice ka t.kids.length kc) (.slice na t.names.length nc) (.int .i64 t.at_) := by rw [hw1]; exact bx_new _ _ _ _ _ _
  have hW1 : WB B b (cut (X ++ [])) w1 := by rw [hw1]; exact (hw.alloc _).start hX
  have hxb : w.heap.size ≠ b := by have := hw.lt; omega
  have hs1 := Nat.le_trans hBw hK1.below.size
  have hz1 : w1.heap.size = w.heap.size + 1 := by rw [hw1]; simp
  have Hz1 : Hid (_ = _) := hz1
  clear hz1
  have Hw1 : Hid (_ = _) := hw1
  clear hw1
  obtain ⟨x0, x1, x2, x3, x4⟩ := hx1.cells
  obtain ⟨a, c, hl, hoa, hoc⟩ := hp.dims (by omega)
  have Hk : Hid (kd t 0 = a ∧ kd t 1 = c) := ⟨by rw [kd_kids hl]; rfl, by rw [kd_kids hl]; rfl⟩
  have hba : blk a ≤ 1000000 := by have := blk_kid (t := t) (x := a) (by rw [hl]; simp); omega
  have hbc : blk c ≤ 1000000 := by have := blk_kid (t := t) (x := c) (by rw [hl]; simp); omega
  have Hl : Hid (_ = _) := hl
  clear hl
  have k1 : (t.kind == 1) = false := by rw [hk]; rfl
  have k17 : (t.kind == 17) = false := by rw [hk]; rfl
  have k2 : (t.kind == 2) = false := by rw [hk]; rfl
  have k3 : (t.kind == 3) = false := by rw [hk]; rfl
  have k4 : (t.kind == 4) = false := by rw [hk]; rfl
  have k5 : (t.kind == 5) = false := by rw [hk]; rfl
  have k6 : (t.kind == 6) = false := by rw [hk]; rfl
  have k7 : (t.kind == 7) = false := by rw [hk]; rfl
  have k8 : (t.kind == 8) = false := by rw [hk]; rfl
  have k9 : (t.kind == 9) = false := by rw [hk]; rfl
  have k10 : (t.kind == 10) = false := by rw [hk]; rfl
  have k14 : (t.kind == 14) = true := by rw [hk]; rfl
  have k15 : (t.kind == 15) = false := by rw [hk]; rfl
  have k16 : (t.kind == 16) = false := by rw [hk]; rfl
  clear hk hp HT
  go_enter Tryd.func22, Tryd.ntmps22
  go_wp2_with fail
  rw [← Hw1.out]
  clear Hw1
  have cc := stwo_any f hP 4 5 1 1 n B b a c t.kids Hl.out ka kc (⟨#[32, 92, 47, 32]⟩) w1 _ (by omega) (by omega) (by omega) (by omega) hoa hoc hba hbc (hK.all (hK1.below.mono hnB)) hnB hs1 hW1 (cut_len _) (by decide)
  unfold wp_ at cc
  refine cc.mono ?_
  rintro e w2 ⟨rfl, hW, hk⟩
  have hW2 := hW.step
  have hK2 := hK1.trans hk
  have hx2 := KW.bx hx1 hk hxb
  clear x0 x1 x2 x3 x4
  obtain ⟨x0, x1, x2, x3, x4⟩ := hx2.cells
  have hs2 := Nat.le_trans hBw hK2.below.size
  clear hW hk cc
  go_wp2_with fail
  go_end0
  exact ⟨rfl, hW2.fit (by rw [Hk.out.1, Hk.out.2]; simp [tl]; rfl), hK2⟩

set_option maxRecDepth 100000 in
set_option maxHeartbeats 4000000 in
theorem line_15 (f g n B b : Nat) (IH : ∀ m, m ≤ f → PartC m) (t : Sx) (v : Value) (w : World) (X : Bs) (hg : g < 2) (hok : okF (f + 1) g t = true) (hR : Rdy n B b t v w X) (hk : t.kind = 15) :
    Calls Tryd.prog 22 #[wp_ b, v] w (Wrote B b X (lineF (f + 1) t) w) := by
  have hP := IH f (Nat.le_refl _)
  have hp := parts_of hg hok
  have HT : Hid (lineF (f + 1) t = partR (lineF f) 5 (kd t 0) ++ ([32, 47, 92, 32] ++ partR (lineF f) 6 (kd t 1))) := by
    rw [lineF_s]
    unfold lineR
    rw [if_neg (by omega), if_neg (by omega), if_neg (by omega), if_neg (by omega), if_neg (by omega), if_neg (by omega), if_neg (by omega), if_neg (by omega), if_neg (by omega), if_neg (by omega), if_neg (by omega), if_neg (by omega), if_neg (by omega), if_neg (by omega), if_pos (by omega)]
    rfl
  rw [HT.out]
  unfold wp_
  obtain ⟨hb, h, hnB, hBw, hw, hX⟩ := hR
  obtain ⟨ka, kc, na, nc, rfl, hN, hK⟩ := h.form
  obtain ⟨w1, hw1⟩ : ∃ w1, w1 = w.alloc (.cells #[.int .i64 t.kind, .string (bs t.name), .slice ka t.kids.length kc, .slice na t.names.length nc, .int .i64 t.at_] 25) := ⟨_, rfl⟩
  have hK1 : KW B b w w1 := by rw [hw1]; exact KW.of_alloc B b w hBw _
  have hx1 : Bx w1 w.heap.size (.int .i64 t.kind) (.string (bs t.name)) (.slice ka t.kids.length kc) (.slice na t.names.length nc) (.int .i64 t.at_) := by rw [hw1]; exact bx_new _ _ _ _ _ _
  have hW1 : WB B b (cut (X ++ [])) w1 := by rw [hw1]; exact (hw.alloc _).start hX
  have hxb : w.heap.size ≠ b := by have := hw.lt; omega
  have hs1 := Nat.le_trans hBw hK1.below.size
  have hz1 : w1.heap.size = w.heap.size + 1 := by rw [hw1]; simp
  have Hz1 : Hid (_ = _) := hz1
  clear hz1
  have Hw1 : Hid (_ = _) := hw1
  clear hw1
  obtain ⟨x0, x1, x2, x3, x4⟩ := hx1.cells
  obtain ⟨a, c, hl, hoa, hoc⟩ := hp.dims (by omega)
  have Hk : Hid (kd t 0 = a ∧ kd t 1 = c) := ⟨by rw [kd_kids hl]; rfl, by rw [kd_kids hl]; rfl⟩
  have hba : blk a ≤ 1000000 := by have := blk_kid (t := t) (x := a) (by rw [hl]; simp); omega
  have hbc : blk c ≤ 1000000 := by have := blk_kid (t := t) (x := c) (by rw [hl]; simp); omega
  have Hl : Hid (_ = _) := hl
  clear hl
  have k1 : (t.kind == 1) = false := by rw [hk]; rfl
  have k17 : (t.kind == 17) = false := by rw [hk]; rfl
  have k2 : (t.kind == 2) = false := by rw [hk]; rfl
  have k3 : (t.kind == 3) = false := by rw [hk]; rfl
  have k4 : (t.kind == 4) = false := by rw [hk]; rfl
  have k5 : (t.kind == 5) = false := by rw [hk]; rfl
  have k6 : (t.kind == 6) = false := by rw [hk]; rfl
  have k7 : (t.kind == 7) = false := by rw [hk]; rfl
  have k8 : (t.kind == 8) = false := by rw [hk]; rfl
  have k9 : (t.kind == 9) = false := by rw [hk]; rfl
  have k10 : (t.kind == 10) = false := by rw [hk]; rfl
  have k14 : (t.kind == 14) = false := by rw [hk]; rfl
  have k15 : (t.kind == 15) = true := by rw [hk]; rfl
  have k16 : (t.kind == 16) = false := by rw [hk]; rfl
  clear hk hp HT
  go_enter Tryd.func22, Tryd.ntmps22
  go_wp2_with fail
  rw [← Hw1.out]
  clear Hw1
  have cc := stwo_any f hP 5 6 1 1 n B b a c t.kids Hl.out ka kc (⟨#[32, 47, 92, 32]⟩) w1 _ (by omega) (by omega) (by omega) (by omega) hoa hoc hba hbc (hK.all (hK1.below.mono hnB)) hnB hs1 hW1 (cut_len _) (by decide)
  unfold wp_ at cc
  refine cc.mono ?_
  rintro e w2 ⟨rfl, hW, hk⟩
  have hW2 := hW.step
  have hK2 := hK1.trans hk
  have hx2 := KW.bx hx1 hk hxb
  clear x0 x1 x2 x3 x4
  obtain ⟨x0, x1, x2, x3, x4⟩ := hx2.cells
  have hs2 := Nat.le_trans hBw hK2.below.size
  clear hW hk cc
  go_wp2_with fail
  go_end0
  exact ⟨rfl, hW2.fit (by rw [Hk.out.1, Hk.out.2]; simp [tl]; rfl), hK2⟩

set_option maxRecDepth 100000 in
set_option maxHeartbeats 4000000 in
theorem line_8 (f g n B b : Nat) (IH : ∀ m, m ≤ f → PartC m) (t : Sx) (v : Value) (w : World) (X : Bs) (hg : g < 2) (hok : okF (f + 1) g t = true) (hR : Rdy n B b t v w X) (hk : t.kind = 8) :
    Calls Tryd.prog 22 #[wp_ b, v] w (Wrote B b X (lineF (f + 1) t) w) := by
  have hP := IH f (Nat.le_refl _)
  have hp := parts_of hg hok
  have HT : Hid (lineF (f + 1) t = 40 :: (partR (lineF f) 0 (kd t 0) ++ ([44, 32] ++ (partR (lineF f) 0 (kd t 1) ++ [41])))) := by
    rw [lineF_s]
    unfold lineR
    rw [if_neg (by omega), if_neg (by omega), if_neg (by omega), if_neg (by omega), if_neg (by omega), if_neg (by omega), if_neg (by omega), if_pos (by omega)]
    rfl
  rw [HT.out]
  unfold wp_
  obtain ⟨hb, h, hnB, hBw, hw, hX⟩ := hR
  obtain ⟨ka, kc, na, nc, rfl, hN, hK⟩ := h.form
  obtain ⟨w1, hw1⟩ : ∃ w1, w1 = w.alloc (.cells #[.int .i64 t.kind, .string (bs t.name), .slice ka t.kids.length kc, .slice na t.names.length nc, .int .i64 t.at_] 25) := ⟨_, rfl⟩
  have hK1 : KW B b w w1 := by rw [hw1]; exact KW.of_alloc B b w hBw _
  have hx1 : Bx w1 w.heap.size (.int .i64 t.kind) (.string (bs t.name)) (.slice ka t.kids.length kc) (.slice na t.names.length nc) (.int .i64 t.at_) := by rw [hw1]; exact bx_new _ _ _ _ _ _
  have hW1 : WB B b (cut (X ++ [])) w1 := by rw [hw1]; exact (hw.alloc _).start hX
  have hxb : w.heap.size ≠ b := by have := hw.lt; omega
  have hs1 := Nat.le_trans hBw hK1.below.size
  have hz1 : w1.heap.size = w.heap.size + 1 := by rw [hw1]; simp
  have Hz1 : Hid (_ = _) := hz1
  clear hz1
  have Hw1 : Hid (_ = _) := hw1
  clear hw1
  obtain ⟨x0, x1, x2, x3, x4⟩ := hx1.cells
  obtain ⟨a, c, hl, hoa, hoc⟩ := hp.two (by omega)
  have Hk : Hid (kd t 0 = a ∧ kd t 1 = c) := ⟨by rw [kd_kids hl]; rfl, by rw [kd_kids hl]; rfl⟩
  have Hl : Hid (_ = _) := hl
  clear hl
  have k1 : (t.kind == 1) = false := by rw [hk]; rfl
  have k17 : (t.kind == 17) = false := by rw [hk]; rfl
  have k2 : (t.kind == 2) = false := by rw [hk]; rfl
  have k3 : (t.kind == 3) = false := by rw [hk]; rfl
  have k4 : (t.kind == 4) = false := by rw [hk]; rfl
  have k5 : (t.kind == 5) = false := by rw [hk]; rfl
  have k6 : (t.kind == 6) = false := by rw [hk]; rfl
  have k7 : (t.kind == 7) = false := by rw [hk]; rfl
  have k8 : (t.kind == 8) = true := by rw [hk]; rfl
  have k9 : (t.kind == 9) = false := by rw [hk]; rfl
  have k10 : (t.kind == 10) = false := by rw [hk]; rfl
  have k14 : (t.kind == 14) = false := by rw [hk]; rfl
  have k15 : (t.kind == 15) = false := by rw [hk]; rfl
  have k16 : (t.kind == 16) = false := by rw [hk]; rfl
  clear hk hp HT
  go_enter Tryd.func22, Tryd.ntmps22
  go_wp2_with fail
  rw [← Hw1.out]
  clear Hw1
  have cc := atom_any f hP n B b t a c Hl.out ⟨#[44, 32]⟩ _ w1 _ hoa hoc ⟨hb, h.keep (hK1.below.mono hnB), hnB, hs1, hW1, cut_len _⟩ (by decide)
  unfold wp_ at cc
  refine cc.mono ?_
  rintro e w2 ⟨rfl, hW, hk⟩
  have hW2 := hW.step
  have hK2 := hK1.trans hk
  have hx2 := KW.bx hx1 hk hxb
  clear x0 x1 x2 x3 x4
  obtain ⟨x0, x1, x2, x3, x4⟩ := hx2.cells
  have hs2 := Nat.le_trans hBw hK2.below.size
  clear hW hk cc
  go_wp2_with fail
  go_end0
  exact ⟨rfl, hW2.fit (by rw [Hk.out.1, Hk.out.2]; simp [tl]; rfl), hK2⟩

set_option maxRecDepth 100000 in
set_option maxHeartbeats 4000000 in
theorem line_9 (f g n B b : Nat) (IH : ∀ m, m ≤ f → PartC m) (t : Sx) (v : Value) (w : World) (X : Bs) (hg : g < 2) (hok : okF (f + 1) g t = true) (hR : Rdy n B b t v w X) (hk : t.kind = 9) :
    Calls Tryd.prog 22 #[wp_ b, v] w (Wrote B b X (lineF (f + 1) t) w) := by
  have hP := IH f (Nat.le_refl _)
  have hp := parts_of hg hok
  have HT : Hid (lineF (f + 1) t = 40 :: (partR (lineF f) 0 (kd t 0) ++ ([32, 58, 32] ++ (partR (lineF f) 0 (kd t 1) ++ [41])))) := by
    rw [lineF_s]
    unfold lineR
    rw [if_neg (by omega), if_neg (by omega), if_neg (by omega), if_neg (by omega), if_neg (by omega), if_neg (by omega), if_neg (by omega), if_neg (by omega), if_pos (by omega)]
    rfl
  rw [HT.out]
  unfold wp_
  obtain ⟨hb, h, hnB, hBw, hw, hX⟩ := hR
  obtain ⟨ka, kc, na, nc, rfl, hN, hK⟩ := h.form
  obtain ⟨w1, hw1⟩ : ∃ w1, w1 = w.alloc (.cells #[.int .i64 t.kind, .string (bs t.name), .slice ka t.kids.length kc, .slice na t.names.length nc, .int .i64 t.at_] 25) := ⟨_, rfl⟩
  have hK1 : KW B b w w1 := by rw [hw1]; exact KW.of_alloc B b w hBw _
  have hx1 : Bx w1 w.heap.size (.int .i64 t.kind) (.string (bs t.name)) (.slice ka t.kids.length kc) (.slice na t.names.length nc) (.int .i64 t.at_) := by rw [hw1]; exact bx_new _ _ _ _ _ _
  have hW1 : WB B b (cut (X ++ [])) w1 := by rw [hw1]; exact (hw.alloc _).start hX
  have hxb : w.heap.size ≠ b := by have := hw.lt; omega
  have hs1 := Nat.le_trans hBw hK1.below.size
  have hz1 : w1.heap.size = w.heap.size + 1 := by rw [hw1]; simp
  have Hz1 : Hid (_ = _) := hz1
  clear hz1
  have Hw1 : Hid (_ = _) := hw1
  clear hw1
  obtain ⟨x0, x1, x2, x3, x4⟩ := hx1.cells
  obtain ⟨a, c, hl, hoa, hoc⟩ := hp.two (by omega)
  have Hk : Hid (kd t 0 = a ∧ kd t 1 = c) := ⟨by rw [kd_kids hl]; rfl, by rw [kd_kids hl]; rfl⟩
  have Hl : Hid (_ = _) := hl
  clear hl
  have k1 : (t.kind == 1) = false := by rw [hk]; rfl
  have k17 : (t.kind == 17) = false := by rw [hk]; rfl
  have k2 : (t.kind == 2) = false := by rw [hk]; rfl
  have k3 : (t.kind == 3) = false := by rw [hk]; rfl
  have k4 : (t.kind == 4) = false := by rw [hk]; rfl
  have k5 : (t.kind == 5) = false := by rw [hk]; rfl
  have k6 : (t.kind == 6) = false := by rw [hk]; rfl
  have k7 : (t.kind == 7) = false := by rw [hk]; rfl
  have k8 : (t.kind == 8) = false := by rw [hk]; rfl
  have k9 : (t.kind == 9) = true := by rw [hk]; rfl
  have k10 : (t.kind == 10) = false := by rw [hk]; rfl
  have k14 : (t.kind == 14) = false := by rw [hk]; rfl
  have k15 : (t.kind == 15) = false := by rw [hk]; rfl
  have k16 : (t.kind == 16) = false := by rw [hk]; rfl
  clear hk hp HT
  go_enter Tryd.func22, Tryd.ntmps22
  go_wp2_with fail
  rw [← Hw1.out]
  clear Hw1
  have cc := atom_any f hP n B b t a c Hl.out ⟨#[32, 58, 32]⟩ _ w1 _ hoa hoc ⟨hb, h.keep (hK1.below.mono hnB), hnB, hs1, hW1, cut_len _⟩ (by decide)
  unfold wp_ at cc
  refine cc.mono ?_
  rintro e w2 ⟨rfl, hW, hk⟩
  have hW2 := hW.step
  have hK2 := hK1.trans hk
  have hx2 := KW.bx hx1 hk hxb
  clear x0 x1 x2 x3 x4
  obtain ⟨x0, x1, x2, x3, x4⟩ := hx2.cells
  have hs2 := Nat.le_trans hBw hK2.below.size
  clear hW hk cc
  go_wp2_with fail
  go_end0
  exact ⟨rfl, hW2.fit (by rw [Hk.out.1, Hk.out.2]; simp [tl]; rfl), hK2⟩

set_option maxRecDepth 100000 in
set_option maxHeartbeats 4000000 in
theorem line_10 (f g n B b : Nat) (IH : ∀ m, m ≤ f → PartC m) (t : Sx) (v : Value) (w : World) (X : Bs) (hg : g < 2) (hok : okF (f + 1) g t = true) (hR : Rdy n B b t v w X) (hk : t.kind = 10) :
    Calls Tryd.prog 22 #[wp_ b, v] w (Wrote B b X (lineF (f + 1) t) w) := by
  have hP := IH f (Nat.le_refl _)
  have hp := parts_of hg hok
  have HT : Hid (lineF (f + 1) t = 91 :: (jn [44, 32] (t.kids.map (lineF f)) ++ [93])) := by
    rw [lineF_s]
    unfold lineR
    rw [if_neg (by omega), if_neg (by omega), if_neg (by omega), if_neg (by omega), if_neg (by omega), if_neg (by omega), if_neg (by omega), if_neg (by omega), if_neg (by omega), if_pos (by omega)]
    rfl
  rw [HT.out]
  unfold wp_
  obtain ⟨hb, h, hnB, hBw, hw, hX⟩ := hR
  obtain ⟨ka, kc, na, nc, rfl, hN, hK⟩ := h.form
  obtain ⟨w1, hw1⟩ : ∃ w1, w1 = w.alloc (.cells #[.int .i64 t.kind, .string (bs t.name), .slice ka t.kids.length kc, .slice na t.names.length nc, .int .i64 t.at_] 25) := ⟨_, rfl⟩
  have hK1 : KW B b w w1 := by rw [hw1]; exact KW.of_alloc B b w hBw _
  have hx1 : Bx w1 w.heap.size (.int .i64 t.kind) (.string (bs t.name)) (.slice ka t.kids.length kc) (.slice na t.names.length nc) (.int .i64 t.at_) := by rw [hw1]; exact bx_new _ _ _ _ _ _
  have hW1 : WB B b (cut (X ++ [])) w1 := by rw [hw1]; exact (hw.alloc _).start hX
  have hxb : w.heap.size ≠ b := by have := hw.lt; omega
  have hs1 := Nat.le_trans hBw hK1.below.size
  have hz1 : w1.heap.size = w.heap.size + 1 := by rw [hw1]; simp
  have Hz1 : Hid (_ = _) := hz1
  clear hz1
  have Hw1 : Hid (_ = _) := hw1
  clear hw1
  obtain ⟨x0, x1, x2, x3, x4⟩ := hx1.cells
  obtain ⟨m, hm, hall, HM⟩ : ∃ m, m ≤ f ∧ t.kids.all (okF (m + 1) 2) = true ∧ Hid (t.kids.map (lineF f) = t.kids.map (lineF (m + 1))) := by
    have h0 := hp.box hk
    cases f with
    | zero =>
      have hnil : t.kids = [] := by
        match hh : t.kids, h0 with
        | [], _ => rfl
        | x :: l, h0 => simp [okF_z] at h0
      exact ⟨0, Nat.le_refl _, by rw [hnil]; rfl, by rw [hnil]; rfl⟩
    | succ m => exact ⟨m, by omega, h0, rfl⟩
  have k1 : (t.kind == 1) = false := by rw [hk]; rfl
  have k17 : (t.kind == 17) = false := by rw [hk]; rfl
  have k2 : (t.kind == 2) = false := by rw [hk]; rfl
  have k3 : (t.kind == 3) = false := by rw [hk]; rfl
  have k4 : (t.kind == 4) = false := by rw [hk]; rfl
  have k5 : (t.kind == 5) = false := by rw [hk]; rfl
  have k6 : (t.kind == 6) = false := by rw [hk]; rfl
  have k7 : (t.kind == 7) = false := by rw [hk]; rfl
  have k8 : (t.kind == 8) = false := by rw [hk]; rfl
  have k9 : (t.kind == 9) = false := by rw [hk]; rfl
  have k10 : (t.kind == 10) = true := by rw [hk]; rfl
  have k14 : (t.kind == 14) = false := by rw [hk]; rfl
  have k15 : (t.kind == 15) = false := by rw [hk]; rfl
  have k16 : (t.kind == 16) = false := by rw [hk]; rfl
  clear hk hp HT
  go_enter Tryd.func22, Tryd.ntmps22
  go_wp2_with fail
  rw [← Hw1.out]
  clear Hw1
  have cc := box_any m (IH m hm) n B b t _ w1 _ hall ⟨hb, h.keep (hK1.below.mono hnB), hnB, hs1, hW1, cut_len _⟩
  unfold wp_ at cc
  refine cc.mono ?_
  rintro e w2 ⟨rfl, hW, hk⟩
  have hW2 := hW.step
  have hK2 := hK1.trans hk
  have hx2 := KW.bx hx1 hk hxb
  clear x0 x1 x2 x3 x4
  obtain ⟨x0, x1, x2, x3, x4⟩ := hx2.cells
  have hs2 := Nat.le_trans hBw hK2.below.size
  clear hW hk cc
  go_wp2_with fail
  go_end0
  exact ⟨rfl, hW2.fit (by rw [HM.out]; simp), hK2⟩

set_option maxRecDepth 100000 in
set_option maxHeartbeats 4000000 in
theorem line_16 (f g n B b : Nat) (IH : ∀ m, m ≤ f → PartC m) (t : Sx) (v : Value) (w : World) (X : Bs) (hg : g < 2) (hok : okF (f + 1) g t = true) (hR : Rdy n B b t v w X) (hk : t.kind = 16) :
    Calls Tryd.prog 22 #[wp_ b, v] w (Wrote B b X (lineF (f + 1) t) w) := by
  have hP := IH f (Nat.le_refl _)
  have hp := parts_of hg hok
  have HT : Hid (lineF (f + 1) t = 126 :: partR (lineF f) 6 (kd t 0)) := by
    rw [lineF_s]
    unfold lineR
    rw [if_neg (by omega), if_neg (by omega), if_neg (by omega), if_neg (by omega), if_neg (by omega), if_neg (by omega), if_neg (by omega), if_neg (by omega), if_neg (by omega), if_neg (by omega), if_neg (by omega), if_neg (by omega), if_neg (by omega), if_neg (by omega), if_neg (by omega), if_pos (by omega)]
    rfl
  rw [HT.out]
  unfold wp_
  obtain ⟨hb, h, hnB, hBw, hw, hX⟩ := hR
  obtain ⟨ka, kc, na, nc, rfl, hN, hK⟩ := h.form
  obtain ⟨w1, hw1⟩ : ∃ w1, w1 = w.alloc (.cells #[.int .i64 t.kind, .string (bs t.name), .slice ka t.kids.length kc, .slice na t.names.length nc, .int .i64 t.at_] 25) := ⟨_, rfl⟩
  have hK1 : KW B b w w1 := by rw [hw1]; exact KW.of_alloc B b w hBw _
  have hx1 : Bx w1 w.heap.size (.int .i64 t.kind) (.string (bs t.name)) (.slice ka t.kids.length kc) (.slice na t.names.length nc) (.int .i64 t.at_) := by rw [hw1]; exact bx_new _ _ _ _ _ _
  have hW1 : WB B b (cut (X ++ [])) w1 := by rw [hw1]; exact (hw.alloc _).start hX
  have hxb : w.heap.size ≠ b := by have := hw.lt; omega
  have hs1 := Nat.le_trans hBw hK1.below.size
  have hz1 : w1.heap.size = w.heap.size + 1 := by rw [hw1]; simp
  have Hz1 : Hid (_ = _) := hz1
  clear hz1
  have Hw1 : Hid (_ = _) := hw1
  clear hw1
  obtain ⟨x0, x1, x2, x3, x4⟩ := hx1.cells
  obtain ⟨a, hl, hoa⟩ := hp.not (by omega)
  have Hk : Hid (kd t 0 = a) := by rw [kd_kids hl]; rfl
  have hba : blk a ≤ 1000000 := by have := blk_kid (t := t) (x := a) (by rw [hl]; simp); omega
  obtain ⟨g, off, ka0, kc0, na0, nc0, rfl, hg, hxx0, c00, c01, c02, c03, c04⟩ := hK.at (j := 0) (x := a) (by rw [hl]; rfl)
  simp only [Nat.zero_mul, Nat.add_zero] at c00 c01 c02 c03 c04
  have hgB : g < B := by omega
  have hp0 : 0 < t.kids.length := by rw [hl]; simp
  have Hl : Hid (_ = _) := hl
  clear hl
  have k1 : (t.kind == 1) = false := by rw [hk]; rfl
  have k17 : (t.kind == 17) = false := by rw [hk]; rfl
  have k2 : (t.kind == 2) = false := by rw [hk]; rfl
  have k3 : (t.kind == 3) = false := by rw [hk]; rfl
  have k4 : (t.kind == 4) = false := by rw [hk]; rfl
  have k5 : (t.kind == 5) = false := by rw [hk]; rfl
  have k6 : (t.kind == 6) = false := by rw [hk]; rfl
  have k7 : (t.kind == 7) = false := by rw [hk]; rfl
  have k8 : (t.kind == 8) = false := by rw [hk]; rfl
  have k9 : (t.kind == 9) = false := by rw [hk]; rfl
  have k10 : (t.kind == 10) = false := by rw [hk]; rfl
  have k14 : (t.kind == 14) = false := by rw [hk]; rfl
  have k15 : (t.kind == 15) = false := by rw [hk]; rfl
  have k16 : (t.kind == 16) = true := by rw [hk]; rfl
  clear hk hp HT
  go_enter Tryd.func22, Tryd.ntmps22
  go_wp2_with fail
  rw [← Hw1.out]
  clear Hw1
  have cc := put1_any B b _ (⟨#[126]⟩) w1 hW1 (cut_len _) hs1 (by decide)
  unfold wp_ at cc
  rw [Hz1.out] at cc
  refine cc.mono ?_
  rintro e w2 ⟨rfl, hW, hk⟩
  have hW2 := hW.step
  have hK2 := hK1.trans hk
  have hx2 := KW.bx hx1 hk hxb
  clear x0 x1 x2 x3 x4
  obtain ⟨x0, x1, x2, x3, x4⟩ := hx2.cells
  have hs2 := Nat.le_trans hBw hK2.below.size
  clear hW hk cc
  have d00 := (hK2.below.cell (p := ⟨g, off, none⟩) hgB).trans c00
  have d01 := (hK2.below.cell (p := ⟨g, off + 1, none⟩) hgB).trans c01
  have d02 := (hK2.below.cell (p := ⟨g, off + 2, none⟩) hgB).trans c02
  have d03 := (hK2.below.cell (p := ⟨g, off + 3, none⟩) hgB).trans c03
  have d04 := (hK2.below.cell (p := ⟨g, off + 4, none⟩) hgB).trans c04
  go_wp2_with fail
  have cc := hP 1 6 n B b a _ w2 _ (by omega) (by omega) hoa ⟨hba, hxx0.keep (hK2.below.mono hnB), hnB, hs2, hW2, cut_len _⟩
  unfold wp_ at cc
  refine cc.mono ?_
  rintro e w3 ⟨rfl, hW, hk⟩
  have hW3 := hW.step
  have hK3 := hK2.trans hk
  have hx3 := KW.bx hx2 hk hxb
  clear x0 x1 x2 x3 x4
  obtain ⟨x0, x1, x2, x3, x4⟩ := hx3.cells
  have hs3 := Nat.le_trans hBw hK3.below.size
  clear hW hk cc
  have d00 := (hK3.below.cell (p := ⟨g, off, none⟩) hgB).trans c00
  have d01 := (hK3.below.cell (p := ⟨g, off + 1, none⟩) hgB).trans c01
  have d02 := (hK3.below.cell (p := ⟨g, off + 2, none⟩) hgB).trans c02
  have d03 := (hK3.below.cell (p := ⟨g, off + 3, none⟩) hgB).trans c03
  have d04 := (hK3.below.cell (p := ⟨g, off + 4, none⟩) hgB).trans c04
  go_wp2_with fail
  go_end0
  exact ⟨rfl, hW3.fit (by rw [Hk.out]; simp [tl]; rfl), hK3⟩

theorem line_step (f : Nat) (IH : ∀ m, m ≤ f → PartC m) : LineC (f + 1) := by
  intro g n B b t v w X hg hok hR
  have hp := (parts_of hg hok).kinds
  rcases hp with h | h | h | h | h | h | h | h | h | h | h | h | h | h
  · exact line_1 f g n B b IH t v w X hg hok hR h
  · exact line_2 f g n B b IH t v w X hg hok hR h
  · exact line_3 f g n B b IH t v w X hg hok hR h
  · exact line_4 f g n B b IH t v w X hg hok hR h
  · exact line_5 f g n B b IH t v w X hg hok hR h
  · exact line_6 f g n B b IH t v w X hg hok hR h
  · exact line_7 f g n B b IH t v w X hg hok hR h
  · exact line_8 f g n B b IH t v w X hg hok hR h
  · exact line_9 f g n B b IH t v w X hg hok hR h
  · exact line_10 f g n B b IH t v w X hg hok hR h
  · exact line_14 f g n B b IH t v w X hg hok hR h
  · exact line_15 f g n B b IH t v w X hg hok hR h
  · exact line_16 f g n B b IH t v w X hg hok hR h
  · exact line_17 f g n B b IH t v w X hg hok hR h
theorem part_any : ∀ f m, m ≤ f → PartC m := by
  intro f
  induction f with
  | zero =>
    intro m hm
    obtain rfl : m = 0 := by omega
    exact part_step 0 (fun g n B b t v w X hg hok => by rw [okF_z] at hok; cases hok)
  | succ f ih =>
    intro m hm
    rcases Nat.lt_or_ge f m with h | h
    · obtain rfl : m = f + 1 := by omega
      exact part_step (f + 1) (line_step f ih)
    · exact ih m h
end Go.Proofs.YtahnbigkdfmpbaaDoor
