/- Right, Term and File of show, of every tree that is not too great. -/
import Derived.Test.YtahnbigkdfmpbaaDoorSLine
namespace Go.Proofs.YtahnbigkdfmpbaaDoor
open Go.RowKit
set_option linter.unusedVariables false
set_option linter.unusedSimpArgs false

theorem line_ne {f : Nat} {t : Sx} (h : okF f 0 t = true) : partF f 0 t ≠ [] := by
  have e : partF f 0 t = lineF f t := part0 _ _
  rw [e]
  cases f with
  | zero => rw [okF_z] at h; cases h
  | succ f =>
    by_cases h1 : t.kind = 1
    · have hn : nameTreeB t = true := by
        rw [okF_s] at h
        have h : termB (okF f) t = true := h
        unfold termB at h
        rw [if_pos h1] at h
        exact h
      have : nameB t.name = true := by
        unfold nameTreeB at hn
        simp only [Bool.and_eq_true] at hn
        exact hn.1
      obtain ⟨c, l, e2, _⟩ := nameB_form this
      rw [lineF_s]; unfold lineR; rw [if_pos (.inl h1), e2]; simp
    · have hp := parts_term h
      rw [lineF_s]
      unfold lineR arrowR
      rw [if_neg (by
        intro h2
        rcases h2 with h2 | h2
        · exact h1 h2
        · rw [okF_s] at h
          have h : termB (okF f) t = true := h
          unfold termB at h
          rw [if_neg (by omega), if_neg (by omega), if_neg (by omega), if_neg (by omega), if_neg (by omega), if_neg (by omega)] at h
          cases h)]
      have hk := hp.kinds
      by_cases h2 : t.kind = 2
      · rw [if_pos h2]; simp
      rw [if_neg h2]
      by_cases h3 : t.kind = 3
      · rw [if_pos h3]; simp
      rw [if_neg h3]
      by_cases h4 : t.kind = 4
      · rw [if_pos h4]; split <;> simp
      rw [if_neg h4]
      by_cases h5 : t.kind = 5
      · rw [if_pos h5]; split <;> simp
      rw [if_neg h5]
      by_cases h6 : t.kind = 6
      · rw [if_pos h6]; simp
      rw [if_neg h6]
      by_cases h7 : t.kind = 7
      · rw [if_pos h7]; simp
      rw [if_neg h7]
      by_cases h8 : t.kind = 8
      · rw [if_pos h8]; simp
      rw [if_neg h8]
      by_cases h9 : t.kind = 9
      · rw [if_pos h9]; simp
      rw [if_neg h9]
      by_cases h10 : t.kind = 10
      · rw [if_pos h10]; simp
      rw [if_neg h10]
      exfalso
      rw [okF_s] at h
      have h : termB (okF f) t = true := h
      unfold termB at h
      rw [if_neg (by omega), if_neg (by omega), if_neg (by omega), if_neg (by omega), if_neg (by omega), if_neg (by omega)] at h
      cases h
theorem wb_new (w : World) : WB w.heap.size w.heap.size [] (w.alloc (.cells #[.pointer none, .slice none 0 0] 44)) := by
  refine .inl ⟨Nat.le_refl _, .slice none 0 0, heap_alloc_new w _, World.ownsRowF_nil _ _ _ _, by simp [Value.ownBlock]⟩
set_option maxHeartbeats 1000000 in
set_option maxRecDepth 100000 in
theorem string_new (b : Nat) (p : Value) (w : World) (hbk : w.heap[b]? = some (.cells #[p, .slice none 0 0] 44 (0, 0))) :
    Calls Tryd.prog 23 #[.pointer (some ⟨b, 0, none⟩)] w fun e w' => e = .returned (.string ⟨#[]⟩) ∧ w' = w.drew := by
  have c1 : w.drew.cell? ⟨b, 1, none⟩ = some (.slice none 0 0) := by
    have : w.drew.heap[b]? = some (.cells #[p, .slice none 0 0] 44 (0, 0)) := hbk
    rw [Lib.cell_of_heap this]; rfl
  have hSD : (Builtin.unsafeSliceData_ #[40] 83 #[.slice none 0 0]).run Tryd.prog w.drew = .ok (.pointer none) w.drew := rfl
  have hUS : (Builtin.unsafeString_ #[83, 3] 9 #[.pointer none, .int .i64 0]).run Tryd.prog w.drew = .ok (.string ⟨#[]⟩) w.drew := Lib.run_unsafeString_none w.drew _ _ _ none
  clear hbk
  go_enter Tryd.func23, Tryd.ntmps23
  go_wp2
  go_region
  all_goals (go_wp2; go_ret; exact ⟨rfl, rfl⟩)
set_option maxRecDepth 100000 in
theorem right_any (n : Nat) (t : Sx) (v : Value) (w : World) (h : SxIn n w t v) (hn : n ≤ w.heap.size) (hb : blk t ≤ 1000000) :
    Calls Tryd.prog 12 #[v] w fun e w' => e = .returned (.int .i64 (if okF 65536 0 t then 0 else 61)) ∧ Below w.heap.size w w' := by
  obtain ⟨ka, kc, na, nc, rfl, hN, hK⟩ := h.form
  obtain ⟨w1, hw1⟩ : ∃ w1, w1 = w.alloc (.cells #[.int .i64 t.kind, .string (bs t.name), .slice ka t.kids.length kc, .slice na t.names.length nc, .int .i64 t.at_] 25) := ⟨_, rfl⟩
  have hal : Below w.heap.size w w1 := by rw [hw1]; exact below_alloc _ _
  have hB : Bx w1 w.heap.size (.int .i64 t.kind) (.string (bs t.name)) (.slice ka t.kids.length kc) (.slice na t.names.length nc) (.int .i64 t.at_) := by rw [hw1]; exact bx_new _ _ _ _ _ _
  have Hw1 : Hid (_ = _) := hw1
  clear hw1
  have c := fits_any 65536 (rules_any 65536) 0 n 1 t _ w1 (by omega) (by omega) (h.keep (hal.mono hn)) (Nat.le_trans hn hal.size) hb
  unfold fv at c
  rw [fid0] at c
  generalize okF 65536 0 t = q at *
  cases q
  all_goals
    go_enter Tryd.func12, Tryd.ntmps12
    go_wp2_with fail
    rw [← Hw1.out]
    refine c.mono ?_
    rintro e w' ⟨rfl, hb2⟩
    go_wp2_with fail
    go_ret
    exact ⟨rfl, chain hal hb2⟩
set_option maxRecDepth 100000 in
set_option maxHeartbeats 1000000 in
theorem sTerm_any (n : Nat) (t : Sx) (v : Value) (w : World) (h : SxIn n w t v) (hn : n ≤ w.heap.size) (hb : blk t ≤ 1000000) :
    Calls Tryd.prog 6 #[v] w fun e w' => e = .returned (.tuple #[.string (bs (termT 65536 t).1), .int .i64 ((termT 65536 t).2 : Nat)]) ∧ Below w.heap.size w w' := by
  obtain ⟨ka, kc, na, nc, rfl, hN, hK⟩ := h.form
  obtain ⟨w1, hw1⟩ : ∃ w1, w1 = w.alloc (.cells #[.int .i64 t.kind, .string (bs t.name), .slice ka t.kids.length kc, .slice na t.names.length nc, .int .i64 t.at_] 25) := ⟨_, rfl⟩
  have hal : Below w.heap.size w w1 := by rw [hw1]; exact below_alloc _ _
  have hB : Bx w1 w.heap.size (.int .i64 t.kind) (.string (bs t.name)) (.slice ka t.kids.length kc) (.slice na t.names.length nc) (.int .i64 t.at_) := by rw [hw1]; exact bx_new _ _ _ _ _ _
  have Hw1 : Hid (_ = _) := hw1
  clear hw1
  have hn1 := Nat.le_trans hn hal.size
  have h1 := h.keep (hal.mono hn)
  have c := right_any n t _ w1 h1 hn1 hb
  unfold termT
  cases hq : okF 65536 0 t
  · rw [hq] at c
    simp only [Bool.false_eq_true, if_false] at c ⊢
    go_enter Tryd.func6, Tryd.ntmps6
    go_wp2_with fail
    rw [← Hw1.out]
    refine c.mono ?_
    rintro e w' ⟨rfl, hb2⟩
    go_wp2_with fail
    go_ret2
    exact ⟨rfl, chain hal hb2⟩
  · rw [hq] at c
    simp only [if_true] at c ⊢
    have HNE : Hid (partF 65536 0 t ≠ []) := line_ne hq
    have HOK : Hid (okF 65536 0 t = true) := hq
    clear hq
    go_enter Tryd.func6, Tryd.ntmps6
    go_wp2_with fail
    rw [← Hw1.out]
    refine c.mono ?_
    rintro e w2 ⟨rfl, hb2⟩
    have hB2 := hB.blw hb2
    have hal3 := below_alloc w2 (.cells #[.pointer none, .slice none 0 0] 44)
    have hW3 := wb_new w2
    have hB3 := hB2.blw hal3
    obtain ⟨w3, hw3⟩ : ∃ w3, w3 = w2.alloc (.cells #[.pointer none, .slice none 0 0] 44) := ⟨_, rfl⟩
    rw [← hw3] at hal3 hW3 hB3
    have Hw3 : Hid (_ = _) := hw3
    clear hw3
    obtain ⟨x0, x1, x2, x3, x4⟩ := hB2.cells
    have y0 := hB3.cells
    rw [Hw3.out] at y0
    obtain ⟨y0, y1, y2, y3, y4⟩ := y0
    have hn2 := Nat.le_trans hn1 hb2.size
    have cP := part_any 65536 65536 (Nat.le_refl _) 0 0 n w2.heap.size w2.heap.size t _ w3 [] (by omega) (by omega) HOK.out ⟨hb, (h1.keep (hb2.mono hn1)).keep (hal3.mono hn2), hn2, hal3.size, hW3, by simp⟩
    unfold wp_ at cP
    clear c
    go_wp2_with fail
    rw [← Hw3.out]
    refine cP.mono ?_
    rintro e w4 ⟨rfl, hW4, hk4⟩
    have cT := told_any w2.heap.size w2.heap.size _ w4 hW4 (by
      have h9 := HNE.out
      intro e
      rw [List.nil_append] at e
      unfold cut at e
      cases hh : partF 65536 0 t with
      | nil => exact h9 hh
      | cons x l => rw [hh] at e; simp at e)
    rw [told_cut, List.nil_append] at cT
    unfold wp_ at cT
    go_wp2_with fail
    refine cT.mono ?_
    rintro e w5 ⟨rfl, hk5⟩
    go_wp2_with fail
    go_ret2
    exact ⟨rfl, (chain (chain hal hb2) hal3).trans ((hk4.below.trans hk5.below).mono (chain hal hb2).size)⟩
theorem decl_parts {t : Sx} (h : declB 65536 t = true) : ∃ a c, t.kids = [a, c] ∧ okF 65536 0 a = true ∧ okF 65536 0 c = true := by
  unfold declB at h
  simp only [Bool.and_eq_true] at h
  exact are2_inv h.2.2.2
theorem decl_ne (t : Sx) : declR 65536 t ≠ [] := by unfold declR; simp
set_option maxRecDepth 100000 in
theorem toldNew_any (b : Nat) (w : World) (h : WB b b [] w) (hbk : w.heap[b]? = some (.cells #[.pointer none, .slice none 0 0] 44 (0, 0))) : Calls Tryd.prog 14 #[wp_ b] w fun e w' => e = .returned (.tuple #[.string ⟨#[]⟩, .int .i64 0]) ∧ w' = w.drew := by
  have c := tooLong_any b b [] w h
  have cS := string_new b _ w hbk
  rw [show decide (65536 < ([] : Bs).length) = false by rfl] at c
  clear hbk h
  unfold wp_ at *
  go_enter Tryd.func14, Tryd.ntmps14
  go_wp2_with fail
  refine c.mono ?_
  rintro e w' ⟨rfl, hw⟩
  rw [hw]
  go_wp2_with fail
  refine cS.mono ?_
  rintro e w2 ⟨rfl, hw2⟩
  rw [hw2]
  go_wp2_with fail
  go_ret2
  exact ⟨rfl, rfl⟩
end Go.Proofs.YtahnbigkdfmpbaaDoor
