/- The writer's functions, the rest: faces, elems, boxes, decls; a tree's line; all of them together. -/
import Derived.Deep.RegionHeld
import Derived.Deep.Cut
import Derived.Test.YtahnbigkdfmpbaaDoorSWrite
namespace Go.Proofs.YtahnbigkdfmpbaaDoor
open Go.RowKit
set_option linter.unusedVariables false
set_option linter.unusedSimpArgs false

theorem SxIn.names {n : Nat} {w : World} {x : Sx} {a0 a1 a2 v3 a4 : Value} (h : SxIn n w x (.agg #[a0, a1, a2, v3, a4])) : NmS n w x.names v3 := by
  obtain ⟨_, _, _, _, e, hN, _⟩ := h.form
  cases e
  exact hN
theorem SxIn.parts {n : Nat} {w : World} {x : Sx} {a0 a1 v3 a4 : Value} {a : Option Addr} {m cap : Nat} (h : SxIn n w x (.agg #[a0, a1, .slice a m cap, v3, a4])) : KdP n w (SxIn n w) x.kids a := by
  obtain ⟨_, _, _, _, e, _, hK⟩ := h.form
  cases e
  exact hK
theorem eq_form {t : Sx} (h : eqB t = true) : t.kind = 13 ∧ nameB t.name = true ∧ (∃ d, t.names = [d] ∧ digB d = true) ∧ t.kids = [] := by
  unfold eqB at h
  simp only [Bool.and_eq_true, decide_eq_true_eq] at h
  refine ⟨h.1, h.2.1, ?_, h.2.2.2⟩
  have h3 := h.2.2.1
  match hh : t.names, h3 with
  | [d], h3 => exact ⟨d, rfl, h3⟩
theorem line_eq {f : Nat} {t : Sx} (h : okF f 4 t = true) : lineF f t = eqR t ∧ eqB t = true := by
  cases f with
  | zero => rw [okF_z] at h; cases h
  | succ f =>
    rw [okF_s] at h
    have h : eqB t = true := h
    obtain ⟨hk, _⟩ := eq_form h
    refine ⟨?_, h⟩
    rw [lineF_s]; unfold lineR; simp [hk]
theorem line_face {f : Nat} {t : Sx} (h : okF f 3 t = true) : lineF f t = (if t.kids = [] then [49] else (t.kids.map eqR).flatten) ∧ ∀ q ∈ t.kids, eqB q = true := by
  cases f with
  | zero => rw [okF_z] at h; cases h
  | succ f =>
    rw [okF_s] at h
    have h : faceB (okF f) t = true := h
    unfold faceB at h
    simp only [Bool.and_eq_true, decide_eq_true_eq] at h
    have ha := List.all_eq_true.1 h.2.2
    refine ⟨?_, fun q hq => (line_eq (ha q hq)).2⟩
    rw [lineF_s]; unfold lineR; simp only [h.1]
    show faceR (lineF f) t = _
    unfold faceR
    rw [List.map_congr_left (fun q hq => (line_eq (ha q hq)).1)]
theorem line_elem {f : Nat} {t : Sx} (h : okF (f + 1) 2 t = true) : lineF (f + 1) t = elemR (lineF f) t ∧ ((∃ a, t.kids = [a] ∧ okF f 3 a = true) ∨ ∃ a c, t.kids = [a, c] ∧ okF f 3 a = true ∧ okF f 0 c = true) := by
  rw [okF_s] at h
  have h : elemB (okF f) t = true := h
  unfold elemB at h
  simp only [Bool.and_eq_true, Bool.or_eq_true, decide_eq_true_eq] at h
  refine ⟨?_, h.2.2.elim (fun h => .inl (are1_inv h)) (fun h => .inr (are2_inv h))⟩
  rw [lineF_s]; unfold lineR; simp [h.1]
theorem flat_take {α : Type} (f : α → Bs) {l : List α} {k : Nat} {y : α} (h : l[k]? = some y) : ((l.take (k + 1)).map f).flatten = ((l.take k).map f).flatten ++ f y := by
  obtain ⟨h1, h2⟩ := List.getElem?_eq_some_iff.1 h
  rw [List.take_succ_eq_append_getElem h1, h2]; simp

set_option maxRecDepth 100000 in
set_option maxHeartbeats 4000000 in
theorem sface_any (f n B b : Nat) (t : Sx) (v : Value) (w : World) (X : Bs) (hok : okF f 3 t = true) (hR : Rdy n B b t v w X) :
    Calls Tryd.prog 77 #[wp_ b, v] w (Wrote B b X (lineF f t) w) := by
  obtain ⟨ht, hq⟩ := line_face hok
  rw [ht]
  clear ht hok
  unfold wp_
  obtain ⟨hb, h, hnB, hBw, hw, hX⟩ := hR
  obtain ⟨ka, kc, na, nc, rfl, hN, hK⟩ := h.form
  obtain ⟨w1, hw1⟩ : ∃ w1, w1 = w.alloc (.cells #[.int .i64 t.kind, .string (bs t.name), .slice ka t.kids.length kc, .slice na t.names.length nc, .int .i64 t.at_] 25) := ⟨_, rfl⟩
  have hK1 : KW B b w w1 := by rw [hw1]; exact KW.of_alloc B b w hBw _
  have hx1 : Bx w1 w.heap.size (.int .i64 t.kind) (.string (bs t.name)) (.slice ka t.kids.length kc) (.slice na t.names.length nc) (.int .i64 t.at_) := by rw [hw1]; exact bx_new _ _ _ _ _ _
  have hW1 : WB B b (cut (X ++ [])) w1 := by rw [hw1]; exact (hw.alloc _).start hX
  have hxb : w.heap.size ≠ b := by have := hw.lt; omega
  have hs1 := Nat.le_trans hBw hK1.below.size
  have hz1 : w1.heap.size = w.heap.size + 1 := by rw [hw1]; simp
  have Hz1 : Hid (_ = _) := hz1
  clear hz1
  have Hw1 : Hid (_ = _) := hw1
  clear hw1
  obtain ⟨x0, x1, x2, x3, x4⟩ := hx1.cells
  by_cases hkn : t.kids = []
  · rw [if_pos hkn]
    have hz : ((t.kids.length : Int) == 0) = true := by rw [hkn]; rfl
    have hz0 : ¬ (0 : Int) < (t.kids.length : Int) := by rw [hkn]; simp
    have Hkn : Hid (_ = _) := hkn
    clear hkn
    go_enter Tryd.func77, Tryd.ntmps77
    go_wp2_with fail
    rw [← Hw1.out]
    clear Hw1
    have cc := put1_any B b _ (⟨#[49]⟩) w1 hW1 (cut_len _) hs1 (by decide)
    unfold wp_ at cc
    rw [Hz1.out] at cc
    refine cc.mono ?_
    rintro e w2 ⟨rfl, hW, hk⟩
    have hW2 := hW.step
    have hK2 := hK1.trans hk
    have hx2 := KW.bx hx1 hk hxb
    clear x0 x1 x2 x3 x4
    obtain ⟨x0, x1, x2, x3, x4⟩ := hx2.cells
    have hs2 := Nat.le_trans hBw hK2.below.size
    clear hW hk cc
    go_wp2_with fail
    go_loopw [16] (fun i wr => i = .int .i64 0 ∧ wr = w2) (fun i _ => 0)
    case atStart => exact ⟨rfl, rfl⟩
    case round =>
      obtain ⟨rfl, rfl⟩ := hrel
      go_wp2_with fail
      go_end0
      exact ⟨rfl, hW2.fit (by simp [tl]), hK2⟩
  · rw [if_neg hkn]
    have hz : ((t.kids.length : Int) == 0) = false := by
      have : t.kids.length ≠ 0 := fun h => hkn (List.length_eq_zero_iff.1 h)
      simp; omega
    have hkl : t.kids.length < 1000000 := by have := blk_klen t; omega
    obtain ⟨L, hL⟩ : ∃ L, L = t.kids.length := ⟨_, rfl⟩
    have HL : Hid (L = t.kids.length) := hL
    rw [← hL] at hx1 x2 h hz hkl Hw1 ⊢
    clear hL hkn
    have HK : Hid (KdP n w (SxIn n w) t.kids ka) := hK
    clear hK
    have HQ : Hid (∀ q ∈ t.kids, eqB q = true) := hq
    clear hq
    go_enter Tryd.func77, Tryd.ntmps77
    go_wp2_with fail
    rw [← Hw1.out]
    clear Hw1
    have HZ : Hid (WB B b (cut (X ++ ([] ++ ((t.kids.take 0).map eqR).flatten))) w1) := hW1.fit (by simp)
    go_loopw [16] (fun i wr => ∃ k : Nat, k ≤ L ∧ i = .int .i64 k ∧ Hid (WB B b (cut (X ++ ([] ++ ((t.kids.take k).map eqR).flatten))) wr) ∧ KW B b w wr) (fun i _ => L - (intOf i).toNat)
    case atStart => exact ⟨0, Nat.zero_le _, rfl, HZ, hK1⟩
    case round =>
      obtain ⟨k, hk, rfl, HW, hKr⟩ := hrel
      clear HZ
      have hsr := Nat.le_trans hBw hKr.below.size
      by_cases hlt : k < L
      · obtain ⟨y, hy⟩ := someS (l := t.kids) (k := k) (by rw [← HL.out]; exact hlt)
        obtain ⟨g, off, ka0, kc0, na0, nc0, rfl, hg, hxx, c0, c1, c2, c3, c4⟩ := (HK.out.all (hKr.below.mono hnB)).at hy
        obtain ⟨hk13, hnm, ⟨d, hd, hdd⟩, hky⟩ := eq_form (HQ.out y (List.mem_of_getElem? hy))
        have hblk : blk y ≤ 1000000 := by have := blk_kid (List.mem_of_getElem? hy); omega
        have hNy := hxx.names
        obtain ⟨gn, on, rfl, hgn, cn⟩ := hNy.at (j := 0) (x := d) (by rw [hd]; rfl)
        simp only [Nat.add_zero] at cn
        have hpn : 0 < y.names.length := by rw [hd]; simp
        have hal := KW.of_alloc B b wr hsr (.cells #[.int .i64 y.kind, .string (bs y.name), .slice ka0 y.kids.length kc0, .slice (some ⟨gn, on, none⟩) y.names.length nc0, .int .i64 y.at_] 25)
        have hbx := bx_new wr (.int .i64 y.kind) (.string (bs y.name)) (.slice ka0 y.kids.length kc0) (.slice (some ⟨gn, on, none⟩) y.names.length nc0) (.int .i64 y.at_)
        have hWa := HW.out.alloc (.cells #[.int .i64 y.kind, .string (bs y.name), .slice ka0 y.kids.length kc0, .slice (some ⟨gn, on, none⟩) y.names.length nc0, .int .i64 y.at_] 25)
        have cn2 := (hal.below.cell (p := ⟨gn, on, none⟩) (by show gn < B; omega)).trans cn
        have HN : Hid (((t.kids.take (k + 1)).map eqR).flatten = ((t.kids.take k).map eqR).flatten ++ eqR y) := flat_take eqR hy
        have HE : Hid (eqR y = 40 :: (y.name ++ (61 :: (d ++ [41])))) := by unfold eqR; rw [hd]; rfl
        obtain ⟨wa, hwa⟩ : ∃ wa, wa = wr.alloc (.cells #[.int .i64 y.kind, .string (bs y.name), .slice ka0 y.kids.length kc0, .slice (some ⟨gn, on, none⟩) y.names.length nc0, .int .i64 y.at_] 25) := ⟨_, rfl⟩
        rw [← hwa] at hal hbx hWa cn2
        have hsa := Nat.le_trans hsr hal.below.size
        have cc := put5_any B b _ ⟨#[40]⟩ (bs y.name) ⟨#[61]⟩ (bs d) ⟨#[41]⟩ wa.drew hWa (cut_len _) hsa (by decide) (by rw [bs_size]; have := blk_name y; omega) (by decide) (by rw [bs_size]; exact snames_any hblk d (by rw [hd]; simp)) (by decide)
        have hdr : KW B b wa wa.drew := ⟨Below.drew (Below.refl _ _), (Lib.OthersKept.refl _ _ _).drew⟩
        have Hwa : Hid (_ = _) := hwa
        obtain ⟨b0, b1, b2, b3, b4⟩ := hbx.cells
        unfold wp_ at cc
        clear hy hd hky hk13 hnm hNy hxx cn hwa
        go_wp2_with fail
        rw [← Hwa.out]
        have hpn2 : (0 : Int) < (y.names.length : Int) := by omega
        refine wp_region_held_drew (S := fun W => Bx W wr.heap.size (.int .i64 y.kind) (.string (bs y.name)) (.slice ka0 y.kids.length kc0) (.slice (some ⟨gn, on, none⟩) y.names.length nc0) (.int .i64 y.at_) ∧ W.cell? ⟨gn, on, none⟩ = some (.string (bs d))) (by kernel_rfl) ⟨hbx, cn2⟩ (fun hS => ?_)
        refine wpAnyH_take (i := 0) (v := .pointer (some ⟨b, 0, none⟩)) rfl (by kernel_rfl) (by kernel_rfl) (by kernel_rfl) (fun _ _ _ h => h) (Or.inl ⟨by rfl, fun w hS => by go_simp⟩) hS ?_
        simp only [Act.put, List.setIfInBounds_toArray, List.set_cons_zero, List.set_cons_succ]
        refine wpAnyH_take (i := 1) (v := .pointer (some ⟨wr.heap.size, 1, none⟩)) rfl (by kernel_rfl) (by kernel_rfl) (by kernel_rfl) (fun _ _ _ h => h) (Or.inl ⟨by rfl, fun w hS => by go_simp⟩) hS ?_
        simp only [Act.put, List.setIfInBounds_toArray, List.set_cons_zero, List.set_cons_succ]
        refine wpAnyH_take (i := 2) (v := .string (bs y.name)) rfl (by kernel_rfl) (by kernel_rfl) (by kernel_rfl) (fun _ _ _ h => h) (Or.inl ⟨by rfl, fun w hS => by obtain ⟨s0, s1, s2, s3, s4⟩ := Bx.cells hS.1; go_simp⟩) hS ?_
        simp only [Act.put, List.setIfInBounds_toArray, List.set_cons_zero, List.set_cons_succ]
        refine wpAnyH_take (i := 3) (v := .pointer (some ⟨wr.heap.size, 3, none⟩)) rfl (by kernel_rfl) (by kernel_rfl) (by kernel_rfl) (fun _ _ _ h => h) (Or.inl ⟨by rfl, fun w hS => by go_simp⟩) hS ?_
        simp only [Act.put, List.setIfInBounds_toArray, List.set_cons_zero, List.set_cons_succ]
        refine wpAnyH_take (i := 4) (v := .slice (some ⟨gn, on, none⟩) y.names.length nc0) rfl (by kernel_rfl) (by kernel_rfl) (by kernel_rfl) (fun _ _ _ h => h) (Or.inl ⟨by rfl, fun w hS => by obtain ⟨s0, s1, s2, s3, s4⟩ := Bx.cells hS.1; go_simp⟩) hS ?_
        simp only [Act.put, List.setIfInBounds_toArray, List.set_cons_zero, List.set_cons_succ]
        refine wpAnyH_take (i := 5) (v := .pointer (some ⟨gn, on, none⟩)) rfl (by kernel_rfl) (by kernel_rfl) (by kernel_rfl) (fun _ _ _ h => h) (Or.inl ⟨by rfl, fun w hS => by go_simp⟩) hS ?_
        simp only [Act.put, List.setIfInBounds_toArray, List.set_cons_zero, List.set_cons_succ]
        refine wpAnyH_take (i := 6) (v := .string (bs d)) rfl (by kernel_rfl) (by kernel_rfl) (by kernel_rfl) (fun _ _ _ h => h) (Or.inl ⟨by rfl, fun w hS => by have s5 := hS.2; go_simp⟩) hS ?_
        simp only [Act.put, List.setIfInBounds_toArray, List.set_cons_zero, List.set_cons_succ]
        refine wpAnyH_ready (rs := [7]) (by kernel_rfl) (by simp) ?_
        refine AllReadyH.cons rfl (fun KK hKK => ?_) AllReadyH.nil
        go_simp
        refine hKK.out _ _ (⟨hbx.blw (Below.alloc (Below.drew (Below.refl _ _)) (Nat.le_refl _) _), ((Below.alloc (Below.drew (Below.refl wa.heap.size wa)) (Nat.le_refl _) _).cell (p := ⟨gn, on, none⟩) (by show gn < _; omega)).trans cn2⟩) (fun hS => ?_)
        clear hKK KK
        refine wpAnyH_ready (rs := [8]) (by kernel_rfl) (by simp) ?_
        refine AllReadyH.cons rfl (fun KK hKK => ?_) AllReadyH.nil
        go_simp
        refine cc.mono ?_
        rintro e w3 ⟨rfl, hW, hk3⟩
        have hW3 := hW.step
        refine hKK.out _ _ (⟨KW.bx (w := wa.drew) hbx hk3 (by have := HW.out.lt; omega), (hk3.below.cell (p := ⟨gn, on, none⟩) (by show gn < B; omega)).trans cn2⟩) (fun hS => ?_)
        clear hKK KK
        refine wpAnyH_done (by kernel_rfl) ?_ _
        go_wp2_with fail
        go_roundw
        case rel => exact ⟨k + 1, by omega, by go_num, hW3.fit (by rw [HN.out, HE.out, tl_bs, tl_bs]; simp [tl, List.append_assoc]), hKr.trans (hal.trans (hdr.trans hk3))⟩
        case measure => simp [intOf]; omega
      · have h9 := HW.out
        rw [List.take_of_length_le (by rw [← HL.out]; omega)] at h9
        clear HW
        go_wp2_with fail
        go_end0
        exact ⟨rfl, h9.fit (by simp), hKr⟩

set_option maxRecDepth 100000 in
set_option maxHeartbeats 4000000 in
theorem elem_any (f : Nat) (hP : PartC f) (n B b : Nat) (t : Sx) (v : Value) (w : World) (X : Bs) (hok : okF (f + 1) 2 t = true) (hR : Rdy n B b t v w X) :
    Calls Tryd.prog 59 #[wp_ b, v] w (Wrote B b X (lineF (f + 1) t) w) := by
  obtain ⟨ht, hq⟩ := line_elem hok
  rw [ht]
  clear ht hok
  unfold wp_
  obtain ⟨hb, h, hnB, hBw, hw, hX⟩ := hR
  obtain ⟨ka, kc, na, nc, rfl, hN, hK⟩ := h.form
  obtain ⟨w1, hw1⟩ : ∃ w1, w1 = w.alloc (.cells #[.int .i64 t.kind, .string (bs t.name), .slice ka t.kids.length kc, .slice na t.names.length nc, .int .i64 t.at_] 25) := ⟨_, rfl⟩
  have hK1 : KW B b w w1 := by rw [hw1]; exact KW.of_alloc B b w hBw _
  have hx1 : Bx w1 w.heap.size (.int .i64 t.kind) (.string (bs t.name)) (.slice ka t.kids.length kc) (.slice na t.names.length nc) (.int .i64 t.at_) := by rw [hw1]; exact bx_new _ _ _ _ _ _
  have hW1 : WB B b (cut (X ++ [])) w1 := by rw [hw1]; exact (hw.alloc _).start hX
  have hxb : w.heap.size ≠ b := by have := hw.lt; omega
  have hs1 := Nat.le_trans hBw hK1.below.size
  have hz1 : w1.heap.size = w.heap.size + 1 := by rw [hw1]; simp
  have Hz1 : Hid (_ = _) := hz1
  clear hz1
  have Hw1 : Hid (_ = _) := hw1
  clear hw1
  obtain ⟨x0, x1, x2, x3, x4⟩ := hx1.cells
  rcases hq with ⟨a, hl, hoa⟩ | ⟨a, c, hl, hoa, hoc⟩
  · skip
    obtain ⟨g, off, ka0, kc0, na0, nc0, rfl, hg, hxx0, c00, c01, c02, c03, c04⟩ := hK.at (j := 0) (x := a) (by rw [hl]; rfl)
    simp only [Nat.zero_mul, Nat.add_zero] at c00 c01 c02 c03 c04
    have hgB : g < B := by omega
    have hp0 : 0 < t.kids.length := by rw [hl]; simp
    have hz : ((t.kids.length : Int) == 2) = false := by rw [hl]; rfl
    have hba : blk a ≤ 1000000 := by have := blk_kid (t := t) (x := a) (by rw [hl]; simp); omega
    have HT : Hid (elemR (lineF f) t = lineF f a ++ []) := by
      unfold elemR
      rw [hl, kd_kids hl]
      rfl
    have Hl : Hid (_ = _) := hl
    clear hl
    rw [HT.out]
    have d00 := (hK1.below.cell (p := ⟨g, off, none⟩) hgB).trans c00
    have d01 := (hK1.below.cell (p := ⟨g, off + 1, none⟩) hgB).trans c01
    have d02 := (hK1.below.cell (p := ⟨g, off + 2, none⟩) hgB).trans c02
    have d03 := (hK1.below.cell (p := ⟨g, off + 3, none⟩) hgB).trans c03
    have d04 := (hK1.below.cell (p := ⟨g, off + 4, none⟩) hgB).trans c04
    have r00 := d00
    rw [Hw1.out] at r00
    have r01 := d01
    rw [Hw1.out] at r01
    have r02 := d02
    rw [Hw1.out] at r02
    have r03 := d03
    rw [Hw1.out] at r03
    have r04 := d04
    rw [Hw1.out] at r04
    go_enter Tryd.func59, Tryd.ntmps59
    go_wp2_with fail
    rw [← Hw1.out]
    clear Hw1
    have cc := sface_any f n B b a _ w1 _ hoa ⟨hba, hxx0.keep (hK1.below.mono hnB), hnB, hs1, hW1, cut_len _⟩
    unfold wp_ at cc
    refine cc.mono ?_
    rintro e w2 ⟨rfl, hW, hk⟩
    have hW2 := hW.step
    have hK2 := hK1.trans hk
    have hx2 := KW.bx hx1 hk hxb
    clear x0 x1 x2 x3 x4
    obtain ⟨x0, x1, x2, x3, x4⟩ := hx2.cells
    have hs2 := Nat.le_trans hBw hK2.below.size
    clear hW hk cc
    have d00 := (hK2.below.cell (p := ⟨g, off, none⟩) hgB).trans c00
    have d01 := (hK2.below.cell (p := ⟨g, off + 1, none⟩) hgB).trans c01
    have d02 := (hK2.below.cell (p := ⟨g, off + 2, none⟩) hgB).trans c02
    have d03 := (hK2.below.cell (p := ⟨g, off + 3, none⟩) hgB).trans c03
    have d04 := (hK2.below.cell (p := ⟨g, off + 4, none⟩) hgB).trans c04
    go_wp2_with fail
    go_end0
    exact ⟨rfl, hW2.fit (by simp [tl, List.append_assoc]), hK2⟩
  · skip
    obtain ⟨g, off, ka0, kc0, na0, nc0, rfl, hg, hxx0, c00, c01, c02, c03, c04⟩ := hK.at (j := 0) (x := a) (by rw [hl]; rfl)
    obtain ⟨g', off', ka1, kc1, na1, nc1, he, _, hxx1, c10, c11, c12, c13, c14⟩ := hK.at (j := 1) (x := c) (by rw [hl]; rfl)
    cases he
    simp only [Nat.zero_mul, Nat.one_mul, Nat.add_zero] at c00 c01 c02 c03 c04 c10 c11 c12 c13 c14
    have hgB : g < B := by omega
    have hp0 : 0 < t.kids.length := by rw [hl]; simp
    have hp1 : 1 < t.kids.length := by rw [hl]; simp
    have hz : ((t.kids.length : Int) == 2) = true := by rw [hl]; rfl
    have hba : blk a ≤ 1000000 := by have := blk_kid (t := t) (x := a) (by rw [hl]; simp); omega
    have hbc : blk c ≤ 1000000 := by have := blk_kid (t := t) (x := c) (by rw [hl]; simp); omega
    have HT : Hid (elemR (lineF f) t = lineF f a ++ ([32, 45, 62, 32] ++ partF f 0 c)) := by
      unfold elemR
      rw [hl, kd_kids hl]
      rw [kd_kids hl]; rfl
    have Hl : Hid (_ = _) := hl
    clear hl
    rw [HT.out]
    have d00 := (hK1.below.cell (p := ⟨g, off, none⟩) hgB).trans c00
    have d01 := (hK1.below.cell (p := ⟨g, off + 1, none⟩) hgB).trans c01
    have d02 := (hK1.below.cell (p := ⟨g, off + 2, none⟩) hgB).trans c02
    have d03 := (hK1.below.cell (p := ⟨g, off + 3, none⟩) hgB).trans c03
    have d04 := (hK1.below.cell (p := ⟨g, off + 4, none⟩) hgB).trans c04
    have d10 := (hK1.below.cell (p := ⟨g, off + 5, none⟩) hgB).trans c10
    have d11 := (hK1.below.cell (p := ⟨g, off + 5 + 1, none⟩) hgB).trans c11
    have d12 := (hK1.below.cell (p := ⟨g, off + 5 + 2, none⟩) hgB).trans c12
    have d13 := (hK1.below.cell (p := ⟨g, off + 5 + 3, none⟩) hgB).trans c13
    have d14 := (hK1.below.cell (p := ⟨g, off + 5 + 4, none⟩) hgB).trans c14
    have r00 := d00
    rw [Hw1.out] at r00
    have r01 := d01
    rw [Hw1.out] at r01
    have r02 := d02
    rw [Hw1.out] at r02
    have r03 := d03
    rw [Hw1.out] at r03
    have r04 := d04
    rw [Hw1.out] at r04
    go_enter Tryd.func59, Tryd.ntmps59
    go_wp2_with fail
    rw [← Hw1.out]
    clear Hw1
    have cc := sface_any f n B b a _ w1 _ hoa ⟨hba, hxx0.keep (hK1.below.mono hnB), hnB, hs1, hW1, cut_len _⟩
    unfold wp_ at cc
    refine cc.mono ?_
    rintro e w2 ⟨rfl, hW, hk⟩
    have hW2 := hW.step
    have hK2 := hK1.trans hk
    have hx2 := KW.bx hx1 hk hxb
    clear x0 x1 x2 x3 x4
    obtain ⟨x0, x1, x2, x3, x4⟩ := hx2.cells
    have hs2 := Nat.le_trans hBw hK2.below.size
    clear hW hk cc
    have d00 := (hK2.below.cell (p := ⟨g, off, none⟩) hgB).trans c00
    have d01 := (hK2.below.cell (p := ⟨g, off + 1, none⟩) hgB).trans c01
    have d02 := (hK2.below.cell (p := ⟨g, off + 2, none⟩) hgB).trans c02
    have d03 := (hK2.below.cell (p := ⟨g, off + 3, none⟩) hgB).trans c03
    have d04 := (hK2.below.cell (p := ⟨g, off + 4, none⟩) hgB).trans c04
    have d10 := (hK2.below.cell (p := ⟨g, off + 5, none⟩) hgB).trans c10
    have d11 := (hK2.below.cell (p := ⟨g, off + 5 + 1, none⟩) hgB).trans c11
    have d12 := (hK2.below.cell (p := ⟨g, off + 5 + 2, none⟩) hgB).trans c12
    have d13 := (hK2.below.cell (p := ⟨g, off + 5 + 3, none⟩) hgB).trans c13
    have d14 := (hK2.below.cell (p := ⟨g, off + 5 + 4, none⟩) hgB).trans c14
    go_wp2_with fail
    have cc := put1_any B b _ (⟨#[32, 45, 62, 32]⟩) w2 hW2 (cut_len _) hs2 (by decide)
    unfold wp_ at cc
    refine cc.mono ?_
    rintro e w3 ⟨rfl, hW, hk⟩
    have hW3 := hW.step
    have hK3 := hK2.trans hk
    have hx3 := KW.bx hx2 hk hxb
    clear x0 x1 x2 x3 x4
    obtain ⟨x0, x1, x2, x3, x4⟩ := hx3.cells
    have hs3 := Nat.le_trans hBw hK3.below.size
    clear hW hk cc
    have d00 := (hK3.below.cell (p := ⟨g, off, none⟩) hgB).trans c00
    have d01 := (hK3.below.cell (p := ⟨g, off + 1, none⟩) hgB).trans c01
    have d02 := (hK3.below.cell (p := ⟨g, off + 2, none⟩) hgB).trans c02
    have d03 := (hK3.below.cell (p := ⟨g, off + 3, none⟩) hgB).trans c03
    have d04 := (hK3.below.cell (p := ⟨g, off + 4, none⟩) hgB).trans c04
    have d10 := (hK3.below.cell (p := ⟨g, off + 5, none⟩) hgB).trans c10
    have d11 := (hK3.below.cell (p := ⟨g, off + 5 + 1, none⟩) hgB).trans c11
    have d12 := (hK3.below.cell (p := ⟨g, off + 5 + 2, none⟩) hgB).trans c12
    have d13 := (hK3.below.cell (p := ⟨g, off + 5 + 3, none⟩) hgB).trans c13
    have d14 := (hK3.below.cell (p := ⟨g, off + 5 + 4, none⟩) hgB).trans c14
    go_wp2_with fail
    have cc := hP 0 0 n B b c _ w3 _ (by omega) (by omega) hoc ⟨hbc, hxx1.keep (hK3.below.mono hnB), hnB, hs3, hW3, cut_len _⟩
    unfold wp_ at cc
    refine cc.mono ?_
    rintro e w4 ⟨rfl, hW, hk⟩
    have hW4 := hW.step
    have hK4 := hK3.trans hk
    have hx4 := KW.bx hx3 hk hxb
    clear x0 x1 x2 x3 x4
    obtain ⟨x0, x1, x2, x3, x4⟩ := hx4.cells
    have hs4 := Nat.le_trans hBw hK4.below.size
    clear hW hk cc
    have d00 := (hK4.below.cell (p := ⟨g, off, none⟩) hgB).trans c00
    have d01 := (hK4.below.cell (p := ⟨g, off + 1, none⟩) hgB).trans c01
    have d02 := (hK4.below.cell (p := ⟨g, off + 2, none⟩) hgB).trans c02
    have d03 := (hK4.below.cell (p := ⟨g, off + 3, none⟩) hgB).trans c03
    have d04 := (hK4.below.cell (p := ⟨g, off + 4, none⟩) hgB).trans c04
    have d10 := (hK4.below.cell (p := ⟨g, off + 5, none⟩) hgB).trans c10
    have d11 := (hK4.below.cell (p := ⟨g, off + 5 + 1, none⟩) hgB).trans c11
    have d12 := (hK4.below.cell (p := ⟨g, off + 5 + 2, none⟩) hgB).trans c12
    have d13 := (hK4.below.cell (p := ⟨g, off + 5 + 3, none⟩) hgB).trans c13
    have d14 := (hK4.below.cell (p := ⟨g, off + 5 + 4, none⟩) hgB).trans c14
    go_wp2_with fail
    go_end0
    exact ⟨rfl, hW4.fit (by simp [tl, List.append_assoc]), hK4⟩

theorem jn_take (sep : Bs) {l : List Bs} {k : Nat} {y : Bs} (h : l[k]? = some y) : jn sep (l.take (k + 1)) = jn sep (l.take k) ++ ((if k = 0 then [] else sep) ++ y) := by
  match l, k, h with
  | [], _, h => simp at h
  | x :: l, 0, h => simp at h; subst h; simp [jn]
  | x :: l, k + 1, h =>
    have h2 : l[k]? = some y := by simpa using h
    obtain ⟨q1, q2⟩ := List.getElem?_eq_some_iff.1 h2
    rw [List.take_succ_cons, List.take_succ_cons, jn, jn, List.take_succ_eq_append_getElem q1, q2]
    simp

set_option maxRecDepth 100000 in
set_option maxHeartbeats 4000000 in
theorem box_any (f : Nat) (hP : PartC f) (n B b : Nat) (t : Sx) (v : Value) (w : World) (X : Bs) (hall : t.kids.all (okF (f + 1) 2) = true) (hR : Rdy n B b t v w X) :
    Calls Tryd.prog 42 #[wp_ b, v] w (Wrote B b X (91 :: (jn [44, 32] (t.kids.map (lineF (f + 1))) ++ [93])) w) := by
  unfold wp_
  obtain ⟨hb, h, hnB, hBw, hw, hX⟩ := hR
  obtain ⟨ka, kc, na, nc, rfl, hN, hK⟩ := h.form
  obtain ⟨w1, hw1⟩ : ∃ w1, w1 = w.alloc (.cells #[.int .i64 t.kind, .string (bs t.name), .slice ka t.kids.length kc, .slice na t.names.length nc, .int .i64 t.at_] 25) := ⟨_, rfl⟩
  have hK1 : KW B b w w1 := by rw [hw1]; exact KW.of_alloc B b w hBw _
  have hx1 : Bx w1 w.heap.size (.int .i64 t.kind) (.string (bs t.name)) (.slice ka t.kids.length kc) (.slice na t.names.length nc) (.int .i64 t.at_) := by rw [hw1]; exact bx_new _ _ _ _ _ _
  have hW1 : WB B b (cut (X ++ [])) w1 := by rw [hw1]; exact (hw.alloc _).start hX
  have hxb : w.heap.size ≠ b := by have := hw.lt; omega
  have hs1 := Nat.le_trans hBw hK1.below.size
  have hz1 : w1.heap.size = w.heap.size + 1 := by rw [hw1]; simp
  have Hz1 : Hid (_ = _) := hz1
  clear hz1
  have Hw1 : Hid (_ = _) := hw1
  clear hw1
  obtain ⟨x0, x1, x2, x3, x4⟩ := hx1.cells
  have hkl : t.kids.length < 1000000 := by have := blk_klen t; omega
  obtain ⟨L, hL⟩ : ∃ L, L = t.kids.length := ⟨_, rfl⟩
  have HL : Hid (L = t.kids.length) := hL
  rw [← hL] at hx1 x2 h hkl Hw1 ⊢
  clear hL
  have HK : Hid (KdP n w (SxIn n w) t.kids ka) := hK
  clear hK
  have HQ : Hid (∀ q ∈ t.kids, okF (f + 1) 2 q = true) := List.all_eq_true.1 hall
  clear hall
  have HP : Hid (PartC f) := hP
  clear hP
  go_enter Tryd.func42, Tryd.ntmps42
  go_wp2_with fail
  rw [← Hw1.out]
  clear Hw1
  have cc := put1_any B b _ (⟨#[91]⟩) w1 hW1 (cut_len _) hs1 (by decide)
  unfold wp_ at cc
  rw [Hz1.out] at cc
  refine cc.mono ?_
  rintro e w2 ⟨rfl, hW, hk⟩
  have hW2 := hW.step
  have hK2 := hK1.trans hk
  have hx2 := KW.bx hx1 hk hxb
  clear x0 x1 x2 x3 x4
  obtain ⟨x0, x1, x2, x3, x4⟩ := hx2.cells
  have hs2 := Nat.le_trans hBw hK2.below.size
  clear hW hk cc
  go_wp2_with fail
  have HZ : Hid (WB B b (cut (X ++ (([] ++ tl ⟨#[91]⟩) ++ jn [44, 32] ((t.kids.map (lineF (f + 1))).take 0)))) w2) := hW2.fit (by simp [jn])
  go_loopw [12] (fun i wr => ∃ k : Nat, k ≤ L ∧ i = .int .i64 k ∧ Hid (WB B b (cut (X ++ (([] ++ tl ⟨#[91]⟩) ++ jn [44, 32] ((t.kids.map (lineF (f + 1))).take k)))) wr) ∧ KW B b w wr) (fun i _ => L - (intOf i).toNat)
  case atStart => exact ⟨0, Nat.zero_le _, rfl, HZ, hK2⟩
  case round =>
    obtain ⟨k, hk, rfl, HW, hKr⟩ := hrel
    clear HZ
    have hsr := Nat.le_trans hBw hKr.below.size
    by_cases hlt : k < L
    · obtain ⟨y, hy⟩ := someS (l := t.kids) (k := k) (by rw [← HL.out]; exact hlt)
      obtain ⟨g, off, ka0, kc0, na0, nc0, rfl, hg, hxx, c0, c1, c2, c3, c4⟩ := (HK.out.all (hKr.below.mono hnB)).at hy
      have hblk : blk y ≤ 1000000 := by have := blk_kid (List.mem_of_getElem? hy); omega
      have HN := jn_take [44, 32] (l := t.kids.map (lineF (f + 1))) (k := k) (y := lineF (f + 1) y) (by rw [List.getElem?_map, hy]; rfl)
      have HN2 : Hid (_ = _) := HN
      have hoy := HQ.out y (List.mem_of_getElem? hy)
      have hal := KW.of_alloc B b wr hsr (.cells #[.int .i64 y.kind, .string (bs y.name), .slice ka0 y.kids.length kc0, .slice na0 y.names.length nc0, .int .i64 y.at_] 25)
      have hbx := bx_new wr (.int .i64 y.kind) (.string (bs y.name)) (.slice ka0 y.kids.length kc0) (.slice na0 y.names.length nc0) (.int .i64 y.at_)
      have hWa := HW.out.alloc (.cells #[.int .i64 y.kind, .string (bs y.name), .slice ka0 y.kids.length kc0, .slice na0 y.names.length nc0, .int .i64 y.at_] 25)
      have hyb : wr.heap.size ≠ b := by have := HW.out.lt; omega
      obtain ⟨wa, hwa⟩ : ∃ wa, wa = wr.alloc (.cells #[.int .i64 y.kind, .string (bs y.name), .slice ka0 y.kids.length kc0, .slice na0 y.names.length nc0, .int .i64 y.at_] 25) := ⟨_, rfl⟩
      rw [← hwa] at hal hbx hWa
      have hza : wa.heap.size = wr.heap.size + 1 := by rw [hwa]; simp
      have Hza : Hid (_ = _) := hza
      have hsa := Nat.le_trans hsr hal.below.size
      have Hwa : Hid (_ = _) := hwa
      clear hy hwa HN hza
      by_cases hk0 : k = 0
      · subst hk0
        simp only [Nat.zero_mul, Nat.add_zero] at c0 c1 c2 c3 c4
        have cc := elem_any f HP.out n B b y _ wa _ hoy ⟨hblk, hxx.keep (hal.below.mono hnB), hnB, hsa, hWa, cut_len _⟩
        unfold wp_ at cc
        go_wp2_with fail
        rw [← Hwa.out]
        refine cc.mono ?_
        rintro e w3 ⟨rfl, hW, hk3⟩
        have hW3 := hW.step
        go_wp2_with fail
        go_roundw
        case rel => exact ⟨0 + 1, by omega, by go_num, hW3.fit (by rw [HN2.out]; simp), hKr.trans (hal.trans hk3)⟩
        case measure => simp [intOf]; omega
      · have hkp : (0 : Int) < (k : Int) := by omega
        have cc := put1_any B b _ ⟨#[44, 32]⟩ wa hWa (cut_len _) hsa (by decide)
        unfold wp_ at cc
        rw [Hza.out] at cc
        go_wp2_with fail
        rw [← Hwa.out]
        refine cc.mono ?_
        rintro e w3 ⟨rfl, hW, hk3⟩
        have hW3 := hW.step
        have hs3 := Nat.le_trans hsa hk3.below.size
        have hb3 := KW.bx hbx hk3 hyb
        obtain ⟨b0, b1, b2, b3, b4⟩ := hb3.cells
        clear cc hW
        have cc := elem_any f HP.out n B b y _ w3 _ hoy ⟨hblk, hxx.keep ((hal.below.trans hk3.below).mono hnB), hnB, hs3, hW3, cut_len _⟩
        unfold wp_ at cc
        go_wp2_with fail
        refine cc.mono ?_
        rintro e w4 ⟨rfl, hW, hk4⟩
        have hW4 := hW.step
        go_wp2_with fail
        go_roundw
        case rel => exact ⟨k + 1, by omega, by go_num, hW4.fit (by rw [HN2.out, if_neg hk0]; simp [tl, List.append_assoc]), hKr.trans (hal.trans (hk3.trans hk4))⟩
        case measure => simp [intOf]; omega
    · have h9 := HW.out
      rw [List.take_of_length_le (by rw [List.length_map, ← HL.out]; omega)] at h9
      clear HW
      go_wp2_with fail
      have cc := put1_any B b _ ⟨#[93]⟩ wr h9 (cut_len _) hsr (by decide)
      unfold wp_ at cc
      refine cc.mono ?_
      rintro e w3 ⟨rfl, hW, hk3⟩
      have hW3 := hW.step
      go_wp2_with fail
      go_end0
      exact ⟨rfl, hW3.fit (by simp [tl, List.append_assoc]), hKr.trans hk3⟩

end Go.Proofs.YtahnbigkdfmpbaaDoor
