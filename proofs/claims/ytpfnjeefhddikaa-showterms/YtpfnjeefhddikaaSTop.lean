/- Right, Term and File of show, of every tree that is not too great. -/
import Derived.Test.YtpfnjeefhddikaaSLine
namespace Go.Proofs.Ytpfnjeefhddikaa
open Go.RowKit
set_option linter.unusedVariables false
set_option linter.unusedSimpArgs false

theorem line_ne {f : Nat} {t : Sx} (h : okF f 0 t = true) : partF f 0 t ≠ [] := by
  have e : partF f 0 t = lineF f t := part0 _ _
  rw [e]
  cases f with
  | zero => rw [okF_z] at h; cases h
  | succ f =>
    by_cases h1 : t.kind = 1
    · have hn : nameTreeB t = true := by
        rw [okF_s] at h
        have h : termB (okF f) t = true := h
        unfold termB at h
        rw [if_pos h1] at h
        exact h
      have : nameB t.name = true := by
        unfold nameTreeB at hn
        simp only [Bool.and_eq_true] at hn
        exact hn.1
      obtain ⟨c, l, e2, _⟩ := nameB_form this
      rw [lineF_s]; unfold lineR; rw [if_pos (.inl h1), e2]; simp
    · have hp := parts_term h
      rw [lineF_s]
      unfold lineR arrowR
      rw [if_neg (by
        intro h2
        rcases h2 with h2 | h2
        · exact h1 h2
        · rw [okF_s] at h
          have h : termB (okF f) t = true := h
          unfold termB at h
          rw [if_neg (by omega), if_neg (by omega), if_neg (by omega), if_neg (by omega), if_neg (by omega), if_neg (by omega)] at h
          cases h)]
      have hk := hp.kinds
      by_cases h2 : t.kind = 2
      · rw [if_pos h2]; simp
      rw [if_neg h2]
      by_cases h3 : t.kind = 3
      · rw [if_pos h3]; simp
      rw [if_neg h3]
      by_cases h4 : t.kind = 4
      · rw [if_pos h4]; split <;> simp
      rw [if_neg h4]
      by_cases h5 : t.kind = 5
      · rw [if_pos h5]; split <;> simp
      rw [if_neg h5]
      by_cases h6 : t.kind = 6
      · rw [if_pos h6]; simp
      rw [if_neg h6]
      by_cases h7 : t.kind = 7
      · rw [if_pos h7]; simp
      rw [if_neg h7]
      by_cases h8 : t.kind = 8
      · rw [if_pos h8]; simp
      rw [if_neg h8]
      by_cases h9 : t.kind = 9
      · rw [if_pos h9]; simp
      rw [if_neg h9]
      by_cases h10 : t.kind = 10
      · rw [if_pos h10]; simp
      rw [if_neg h10]
      exfalso
      rw [okF_s] at h
      have h : termB (okF f) t = true := h
      unfold termB at h
      rw [if_neg (by omega), if_neg (by omega), if_neg (by omega), if_neg (by omega), if_neg (by omega), if_neg (by omega)] at h
      cases h
theorem wb_new (w : World) : WB w.heap.size w.heap.size [] (w.alloc (.cells #[.pointer none, .slice none 0 0] 45)) := by
  refine .inl ⟨Nat.le_refl _, .slice none 0 0, heap_alloc_new w _, World.ownsRowF_nil _ _ _ _, by simp [Value.ownBlock]⟩
set_option maxHeartbeats 1000000 in
set_option maxRecDepth 100000 in
theorem string_new (b : Nat) (p : Value) (w : World) (hbk : w.heap[b]? = some (.cells #[p, .slice none 0 0] 45 (0, 0))) :
    Calls Try.prog 32 #[.pointer (some ⟨b, 0, none⟩)] w fun e w' => e = .returned (.string ⟨#[]⟩) ∧ w' = w.drew := by
  have c1 : w.drew.cell? ⟨b, 1, none⟩ = some (.slice none 0 0) := by
    have : w.drew.heap[b]? = some (.cells #[p, .slice none 0 0] 45 (0, 0)) := hbk
    rw [Lib.cell_of_heap this]; rfl
  have hSD : (Builtin.unsafeSliceData_ #[41] 79 #[.slice none 0 0]).run Try.prog w.drew = .ok (.pointer none) w.drew := rfl
  have hUS : (Builtin.unsafeString_ #[79, 3] 9 #[.pointer none, .int .i64 0]).run Try.prog w.drew = .ok (.string ⟨#[]⟩) w.drew := Lib.run_unsafeString_none w.drew _ _ _ none
  clear hbk
  go_enter Try.func32, Try.ntmps32
  go_wp2
  go_region
  all_goals (go_wp2; go_ret; exact ⟨rfl, rfl⟩)
set_option maxRecDepth 100000 in
theorem right_any (n : Nat) (t : Sx) (v : Value) (w : World) (h : SxIn n w t v) (hn : n ≤ w.heap.size) (hb : blk t ≤ 1000000) :
    Calls Try.prog 9 #[v] w fun e w' => e = .returned (.int .i64 (if okF 65536 0 t then 0 else 61)) ∧ Below w.heap.size w w' := by
  obtain ⟨ka, kc, na, nc, rfl, hN, hK⟩ := h.form
  obtain ⟨w1, hw1⟩ : ∃ w1, w1 = w.alloc (.cells #[.int .i64 t.kind, .string (bs t.name), .slice ka t.kids.length kc, .slice na t.names.length nc, .int .i64 t.at_] 25) := ⟨_, rfl⟩
  have hal : Below w.heap.size w w1 := by rw [hw1]; exact below_alloc _ _
  have hB : Bx w1 w.heap.size (.int .i64 t.kind) (.string (bs t.name)) (.slice ka t.kids.length kc) (.slice na t.names.length nc) (.int .i64 t.at_) := by rw [hw1]; exact bx_new _ _ _ _ _ _
  have Hw1 : Hid (_ = _) := hw1
  clear hw1
  have c := fits_any 65536 (rules_any 65536) 0 n 1 t _ w1 (by omega) (by omega) (h.keep (hal.mono hn)) (Nat.le_trans hn hal.size) hb
  unfold fv at c
  rw [fid0] at c
  generalize okF 65536 0 t = q at *
  cases q
  all_goals
    go_enter Try.func9, Try.ntmps9
    go_wp2_with fail
    rw [← Hw1.out]
    refine c.mono ?_
    rintro e w' ⟨rfl, hb2⟩
    go_wp2_with fail
    go_ret
    exact ⟨rfl, chain hal hb2⟩
set_option maxRecDepth 100000 in
set_option maxHeartbeats 1000000 in
theorem sTerm_any (n : Nat) (t : Sx) (v : Value) (w : World) (h : SxIn n w t v) (hn : n ≤ w.heap.size) (hb : blk t ≤ 1000000) :
    Calls Try.prog 7 #[v] w fun e w' => e = .returned (.tuple #[.string (bs (termT 65536 t).1), .int .i64 ((termT 65536 t).2 : Nat)]) ∧ Below w.heap.size w w' := by
  obtain ⟨ka, kc, na, nc, rfl, hN, hK⟩ := h.form
  obtain ⟨w1, hw1⟩ : ∃ w1, w1 = w.alloc (.cells #[.int .i64 t.kind, .string (bs t.name), .slice ka t.kids.length kc, .slice na t.names.length nc, .int .i64 t.at_] 25) := ⟨_, rfl⟩
  have hal : Below w.heap.size w w1 := by rw [hw1]; exact below_alloc _ _
  have hB : Bx w1 w.heap.size (.int .i64 t.kind) (.string (bs t.name)) (.slice ka t.kids.length kc) (.slice na t.names.length nc) (.int .i64 t.at_) := by rw [hw1]; exact bx_new _ _ _ _ _ _
  have Hw1 : Hid (_ = _) := hw1
  clear hw1
  have hn1 := Nat.le_trans hn hal.size
  have h1 := h.keep (hal.mono hn)
  have c := right_any n t _ w1 h1 hn1 hb
  unfold termT
  cases hq : okF 65536 0 t
  · rw [hq] at c
    simp only [Bool.false_eq_true, if_false] at c ⊢
    go_enter Try.func7, Try.ntmps7
    go_wp2_with fail
    rw [← Hw1.out]
    refine c.mono ?_
    rintro e w' ⟨rfl, hb2⟩
    go_wp2_with fail
    go_ret2
    exact ⟨rfl, chain hal hb2⟩
  · rw [hq] at c
    simp only [if_true] at c ⊢
    have HNE : Hid (partF 65536 0 t ≠ []) := line_ne hq
    have HOK : Hid (okF 65536 0 t = true) := hq
    clear hq
    go_enter Try.func7, Try.ntmps7
    go_wp2_with fail
    rw [← Hw1.out]
    refine c.mono ?_
    rintro e w2 ⟨rfl, hb2⟩
    have hB2 := hB.blw hb2
    have hal3 := below_alloc w2 (.cells #[.pointer none, .slice none 0 0] 45)
    have hW3 := wb_new w2
    have hB3 := hB2.blw hal3
    obtain ⟨w3, hw3⟩ : ∃ w3, w3 = w2.alloc (.cells #[.pointer none, .slice none 0 0] 45) := ⟨_, rfl⟩
    rw [← hw3] at hal3 hW3 hB3
    have Hw3 : Hid (_ = _) := hw3
    clear hw3
    obtain ⟨x0, x1, x2, x3, x4⟩ := hB2.cells
    have y0 := hB3.cells
    rw [Hw3.out] at y0
    obtain ⟨y0, y1, y2, y3, y4⟩ := y0
    have hn2 := Nat.le_trans hn1 hb2.size
    have cP := part_any 65536 65536 (Nat.le_refl _) 0 0 n w2.heap.size w2.heap.size t _ w3 [] (by omega) (by omega) HOK.out ⟨hb, (h1.keep (hb2.mono hn1)).keep (hal3.mono hn2), hn2, hal3.size, hW3, by simp⟩
    unfold wp_ at cP
    clear c
    go_wp2_with fail
    rw [← Hw3.out]
    refine cP.mono ?_
    rintro e w4 ⟨rfl, hW4, hk4⟩
    have cT := told_any w2.heap.size w2.heap.size _ w4 hW4 (by
      have h9 := HNE.out
      intro e
      rw [List.nil_append] at e
      unfold cut at e
      cases hh : partF 65536 0 t with
      | nil => exact h9 hh
      | cons x l => rw [hh] at e; simp at e)
    rw [told_cut, List.nil_append] at cT
    unfold wp_ at cT
    go_wp2_with fail
    refine cT.mono ?_
    rintro e w5 ⟨rfl, hk5⟩
    go_wp2_with fail
    go_ret2
    exact ⟨rfl, (chain (chain hal hb2) hal3).trans ((hk4.below.trans hk5.below).mono (chain hal hb2).size)⟩
theorem decl_parts {t : Sx} (h : declB 65536 t = true) : ∃ a c, t.kids = [a, c] ∧ okF 65536 0 a = true ∧ okF 65536 0 c = true := by
  unfold declB at h
  simp only [Bool.and_eq_true] at h
  exact are2_inv h.2.2.2
theorem decl_ne (t : Sx) : declR 65536 t ≠ [] := by unfold declR; simp
set_option maxRecDepth 100000 in
theorem toldNew_any (b : Nat) (w : World) (h : WB b b [] w) (hbk : w.heap[b]? = some (.cells #[.pointer none, .slice none 0 0] 45 (0, 0))) : Calls Try.prog 17 #[wp_ b] w fun e w' => e = .returned (.tuple #[.string ⟨#[]⟩, .int .i64 0]) ∧ w' = w.drew := by
  have c := tooLong_any b b [] w h
  have cS := string_new b _ w hbk
  rw [show decide (65536 < ([] : Bs).length) = false by rfl] at c
  clear hbk h
  unfold wp_ at *
  go_enter Try.func17, Try.ntmps17
  go_wp2_with fail
  refine c.mono ?_
  rintro e w' ⟨rfl, hw⟩
  rw [hw]
  go_wp2_with fail
  refine cS.mono ?_
  rintro e w2 ⟨rfl, hw2⟩
  rw [hw2]
  go_wp2_with fail
  go_ret2
  exact ⟨rfl, rfl⟩
set_option maxRecDepth 100000 in
set_option maxHeartbeats 4000000 in
theorem sFile_any (n : Nat) (l : List Sx) (ka : Option Addr) (kc : Nat) (w : World) (hK : KdP n w (SxIn n w) l ka) (hn : n ≤ w.heap.size) (hl : l.length ≤ 1000000) (hb : ∀ x ∈ l, blk x ≤ 1000000) :
    Calls Try.prog 11 #[.slice ka l.length kc] w fun e w' => e = .returned (.tuple #[.string (bs (fileT 65536 l).1), .int .i64 ((fileT 65536 l).2 : Nat)]) ∧ Below w.heap.size w w' := by
  obtain ⟨L, hL⟩ : ∃ L, L = l.length := ⟨_, rfl⟩
  have HL : Hid (L = l.length) := hL
  rw [← hL] at hl ⊢
  clear hL
  have HK : Hid (KdP n w (SxIn n w) l ka) := hK
  have HB : Hid (∀ x ∈ l, blk x ≤ 1000000) := hb
  clear hK hb
  have H0 : Hid ((l.drop 0).all (declB 65536) = l.all (declB 65536)) := rfl
  have HP := part_any 65536 65536 (Nat.le_refl _)
  have HPP : Hid (PartC 65536) := HP
  clear HP
  go_enter Try.func11, Try.ntmps11
  go_wp2
  go_loopw [11] (fun i wr => ∃ k : Nat, k ≤ L ∧ i = .int .i64 k ∧ Hid ((l.drop k).all (declB 65536) = l.all (declB 65536)) ∧ Below w.heap.size w wr) (fun i _ => L - (intOf i).toNat)
  case atStart => exact ⟨0, Nat.zero_le _, rfl, H0, Below.refl _ _⟩
  case round =>
    obtain ⟨k, hk, rfl, HD, hB⟩ := hrel
    clear H0
    have hnr := Nat.le_trans hn hB.size
    by_cases hlt : k < L
    · obtain ⟨y, hy⟩ := someS (l := l) (k := k) (by rw [← HL.out]; exact hlt)
      obtain ⟨g, off, ka0, kc0, na0, nc0, rfl, hg, hxx, c0, c1, c2, c3, c4⟩ := (HK.out.all (hB.mono hn)).at hy
      have hal := below_alloc wr (.cells #[.int .i64 y.kind, .string (bs y.name), .slice ka0 y.kids.length kc0, .slice na0 y.names.length nc0, .int .i64 y.at_] 25)
      have cD := decl_any n y _ _ (hxx.keep (hal.mono hnr)) (Nat.le_trans hnr hal.size) (HB.out y (List.mem_of_getElem? hy))
      have HS : Hid ((declB 65536 y && (l.drop (k + 1)).all (declB 65536)) = l.all (declB 65536)) := by rw [← HD.out]; exact (all_drop _ hy).symm
      clear HD hy
      generalize declB 65536 y = q at *
      cases q
      · go_wp2_with fail
        refine cD.mono ?_
        rintro e w2 ⟨rfl, hb2⟩
        go_wp2_with fail
        go_ret2
        refine ⟨?_, chain (chain hB hal) hb2⟩
        have hf : l.all (declB 65536) = false := by have := HS.out; simpa using this.symm
        unfold fileT
        rw [hf]; rfl
      · go_wp2_with fail
        refine cD.mono ?_
        rintro e w2 ⟨rfl, hb2⟩
        go_wp2_with fail
        go_roundw
        case rel => exact ⟨k + 1, by omega, by go_num, (by have := HS.out; simpa using this : (l.drop (k + 1)).all (declB 65536) = l.all (declB 65536)), chain (chain hB hal) hb2⟩
        case measure => simp [intOf]; omega
    · have HA : Hid (l.all (declB 65536) = true) := by
        have h := HD.out
        rw [List.drop_of_length_le (by rw [← HL.out]; omega)] at h
        exact h.symm
      clear HD
      obtain ⟨w1, hw1⟩ : ∃ w1, w1 = wr := ⟨_, rfl⟩
      rw [← hw1] at hB hnr ⊢
      clear hw1
      have hal := below_alloc w1 (.cells #[.pointer none, .slice none 0 0] 45)
      have hW2 := wb_new w1
      have hbk : (w1.alloc (.cells #[.pointer none, .slice none 0 0] 45)).heap[w1.heap.size]? = some (.cells #[.pointer none, .slice none 0 0] 45 (0, 0)) := heap_alloc_new _ _
      obtain ⟨w2, hw2⟩ : ∃ w2, w2 = w1.alloc (.cells #[.pointer none, .slice none 0 0] 45) := ⟨_, rfl⟩
      rw [← hw2] at hal hW2 hbk
      have Hw2 : Hid (_ = _) := hw2
      clear hw2
      have HT : Hid (fileT 65536 l = toldF ((l.map (declR 65536)).flatten)) := by unfold fileT; rw [HA.out]; rfl
      go_wp2
      rw [← Hw2.out]
      clear Hw2
      by_cases hL0 : L = 0
      · subst hL0
        have cT := toldNew_any w1.heap.size w2 hW2 hbk
        unfold wp_ at cT
        have hnil : l = [] := List.length_eq_zero_iff.1 HL.out.symm
        have HN : Hid (fileT 65536 l = ([], 0)) := by rw [HT.out, hnil]; rfl
        clear HT hnil hbk
        go_loopw [21] (fun i wz => i = .int .i64 0 ∧ wz = w2) (fun i _ => 0)
        case atStart => exact ⟨rfl, rfl⟩
        case round =>
          obtain ⟨rfl, rfl⟩ := hrel
          go_wp2_with fail
          refine cT.mono ?_
          rintro e w3 ⟨rfl, hw3⟩
          rw [hw3]
          go_wp2_with fail
          go_ret2
          exact ⟨by rw [HN.out]; rfl, (chain hB hal).drew⟩
      · have HZ : Hid (WB w1.heap.size w1.heap.size (cut ([] ++ ((l.take 0).map (declR 65536)).flatten)) w2) := by
          have h := hW2.start (by simp)
          exact h
        clear hbk
        go_loopw [21] (fun i wz => ∃ k : Nat, k ≤ L ∧ i = .int .i64 k ∧ Hid (WB w1.heap.size w1.heap.size (cut ([] ++ ((l.take k).map (declR 65536)).flatten)) wz) ∧ KW w1.heap.size w1.heap.size w2 wz) (fun i _ => L - (intOf i).toNat)
        case atStart => exact ⟨0, Nat.zero_le _, rfl, HZ, KW.refl _ _ _⟩
        case round =>
          obtain ⟨k, hk, rfl, HW, hKr⟩ := hrel
          clear HZ
          have hsr := Nat.le_trans hal.size hKr.below.size
          by_cases hlt : k < L
          · obtain ⟨y, hy⟩ := someS (l := l) (k := k) (by rw [← HL.out]; exact hlt)
            have hBB : Below n w wr := (hB.mono hn).trans ((hal.mono hnr).trans (hKr.below.mono hnr))
            obtain ⟨g, off, ka0, kc0, na0, nc0, rfl, hg, hxx, c0, c1, c2, c3, c4⟩ := (HK.out.all hBB).at hy
            obtain ⟨a, c, hkids, hoa, hoc⟩ := decl_parts (List.all_eq_true.1 HA.out y (List.mem_of_getElem? hy))
            have hka := KW.of_alloc w1.heap.size w1.heap.size wr hsr (.cells #[.int .i64 y.kind, .string (bs y.name), .slice ka0 y.kids.length kc0, .slice na0 y.names.length nc0, .int .i64 y.at_] 25)
            have hWa := HW.out.alloc (.cells #[.int .i64 y.kind, .string (bs y.name), .slice ka0 y.kids.length kc0, .slice na0 y.names.length nc0, .int .i64 y.at_] 25)
            have cD := declW_any HPP.out n w1.heap.size w1.heap.size y a c hkids _ _ _ hoa hoc ⟨HB.out y (List.mem_of_getElem? hy), hxx.keep (hka.below.mono hnr), hnr, Nat.le_trans hsr hka.below.size, hWa, cut_len _⟩
            unfold wp_ at cD
            have HN := flat_take (declR 65536) hy
            have HN2 : Hid (_ = _) := HN
            clear hy HN hkids
            go_wp2_with fail
            refine cD.mono ?_
            rintro e w3 ⟨rfl, hW3, hk3⟩
            have hW3' := hW3.step
            go_wp2_with fail
            go_roundw
            case rel => exact ⟨k + 1, by omega, by go_num, hW3'.fit (by rw [HN2.out]), hKr.trans (hka.trans hk3)⟩
            case measure => simp [intOf]; omega
          · have h9 := HW.out
            rw [List.take_of_length_le (by rw [← HL.out]; omega)] at h9
            have hne : (l.map (declR 65536)).flatten ≠ [] := by
              match hh : l, HL.out with
              | [], h => simp at h; omega
              | x :: r, _ =>
                have := decl_ne x
                simp [this]
            have cT := told_any w1.heap.size w1.heap.size _ wr h9 (by
              intro e
              rw [List.nil_append] at e
              unfold cut at e
              cases hh : (l.map (declR 65536)).flatten with
              | nil => exact hne hh
              | cons x r => rw [hh] at e; simp at e)
            rw [told_cut, List.nil_append] at cT
            unfold wp_ at cT
            clear HW hne
            go_wp2_with fail
            refine cT.mono ?_
            rintro e w3 ⟨rfl, hk3⟩
            go_wp2_with fail
            go_ret2
            exact ⟨by rw [HT.out]; rfl, (chain hB hal).trans ((hKr.below.trans hk3.below).mono hB.size)⟩
end Go.Proofs.Ytpfnjeefhddikaa
