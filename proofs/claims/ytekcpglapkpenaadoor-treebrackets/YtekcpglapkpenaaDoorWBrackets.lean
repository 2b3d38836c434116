/- TreeBrackets. -/
import Derived.Test.YtekcpglapkpenaaDoorQCls
namespace Go.Proofs.YtekcpglapkpenaaDoor
open Go.RowKit
set_option linter.unusedVariables false
set_option linter.unusedSimpArgs false

/-- What the second reading, in brackets, may answer of a text of no tree. -/
theorem err_brackets {f : Nat} {s : Bs} (hf : 655364 ≤ f) (hs : s.length ≤ 60000) (h : (termA f s).2.2 = 60) : (termA (f + 4) (40 :: (s ++ [10, 41]))).2 = ((termA f s).2.1 + 1, 60) := by
  obtain ⟨h1, h2⟩ := term_err hf h
  have h3 := bad_utf_brackets hs h1
  unfold termA
  rw [if_neg (by rw [h3]; simp)]
  show (scanF (40 :: (s ++ [10, 41]))).2 = _
  rw [h3, ← h2]
  rfl
set_option maxRecDepth 100000 in
set_option maxHeartbeats 4000000 in
theorem walk_TreeBrackets (s : ByteArray) (w : World) (hs : s.size ≤ maxLen) (hT : Tabs w) :
    Calls Tryd.prog 3 #[.string s] w fun e w' => e = .returned (.bool true) ∧ Below w.heap.size w w' := by
  have c0 := works_any w hT
  have hs4 : s.size ≤ 4 * maxLen := by omega
  have c1 := fun w (h : Tabs w) => term_any 700000 (by omega) (by omega) s w hs4 h
  by_cases hbig : 60000 < s.size
  · have e1 : (60000 : Int) < (s.size : Int) := by omega
    generalize termA 700000 (tl s) = Z at *
    clear hs hs4
    go_enter Tryd.func3, Tryd.ntmps3
    go_wp2_with fail
    refine c0.mono ?_
    rintro e w1 ⟨rfl, hB1⟩
    go_wp2_with fail
    refine (c1 w1 (hT.below hB1)).mono ?_
    rintro e w2 ⟨v2, rfl, ht2, hb2⟩
    clear c0 c1
    obtain ⟨vk, vn, rfl, hf, ka, kc, rfl⟩ := ht2.form
    obtain ⟨na, nc, rfl⟩ := hf.form
    clear hf
    go_wp2_with fail
    go_ret
    exact ⟨rfl, chain (chain hB1 hb2) (below_alloc _ _)⟩
  · have e1 : ¬ ((60000 : Int) < (s.size : Int)) := by omega
    have hsz : (tl s).length ≤ 60000 := by rw [tl_len]; omega
    obtain ⟨S1, S2, ad1, ad2, hS2, hz2⟩ := sum3 ⟨#[40]⟩ s ⟨#[10, 41]⟩ (by show 1 + s.size + 2 ≤ _; omega)
    have hz3 : S2.size = s.size + 3 := by rw [hz2]; show 1 + s.size + 2 = _; omega
    have hS2' : tl S2 = 40 :: (tl s ++ [10, 41]) := hS2
    have c2 := fun w (h : Tabs w) => term_any 700004 (by omega) (by omega) S2 w (by unfold maxLen; omega) h
    rw [hS2'] at c2
    have hb := brackets_text (f := 700000) (s := tl s) (by omega) hsz
    have he := err_brackets (f := 700000) (s := tl s) (by omega) hsz
    have hpl := (places_text (f := 700000) (s := tl s) (by omega)).1
    have hd := decl_text (f := 700000) (g := 70000) (s := tl s) (by omega) (by omega) hsz
    generalize termA 700000 (tl s) = Z at *
    obtain ⟨T, P, E⟩ := Z
    simp only at c1 hb he hpl hd
    replace hb : E = 0 → (termA 700004 (40 :: (tl s ++ [10, 41]))).2.2 = 62 ∨ ((termA 700004 (40 :: (tl s ++ [10, 41]))).2.2 = 0 ∧ erTr (termA 700004 (40 :: (tl s ++ [10, 41]))).1 = erTr T) := hb
    replace he : E = 60 → (termA 700004 (40 :: (tl s ++ [10, 41]))).2 = (P + 1, 60) := he
    generalize termA 700004 (40 :: (tl s ++ [10, 41])) = Y at *
    obtain ⟨T', P', E'⟩ := Y
    simp only at c2 hb he
    clear hs hs4 hbig hS2 hS2' hz2
    have add1 := fun w => ad1 w
    have add2 := fun w => ad2 w
    by_cases hE : E = 0
    · rcases hb hE with h62 | ⟨h0, hT'⟩
      · subst hE h62
        clear he hpl hd hb
        go_enter Tryd.func3, Tryd.ntmps3
        go_wp2_with fail
        refine c0.mono ?_
        rintro e w1 ⟨rfl, hB1⟩
        go_wp2_with fail
        refine (c1 w1 (hT.below hB1)).mono ?_
        rintro e w2 ⟨v2, rfl, ht2, hb2⟩
        clear c0 c1
        obtain ⟨vk, vn, rfl, hf, ka, kc, rfl⟩ := ht2.form
        obtain ⟨na, nc, rfl⟩ := hf.form
        clear hf
        have hB3 := chain (chain hB1 hb2) (below_alloc w2 (.cells #[.int .i64 (T.kind : Nat), .string (bs T.name), .slice ka T.kids.length kc, .slice na T.names.length nc, .int .i64 (T.at_ : Nat)] 26))
        go_wp2_with (first
          | (refine wpList_add_str rfl _ _ rfl ⟨#[40]⟩ s S1 rfl rfl ad1 ?_)
          | (refine wpList_add_str rfl _ _ rfl S1 ⟨#[10, 41]⟩ S2 rfl rfl ad2 ?_))
        refine (c2 _ (hT.below hB3)).mono ?_
        rintro e w4 ⟨v4, rfl, ht4, hb4⟩
        clear c2
        obtain ⟨vk, vn, rfl, hf, ka4, kc4, rfl⟩ := ht4.form
        obtain ⟨na4, nc4, rfl⟩ := hf.form
        clear hf
        go_wp2_with fail
        go_ret
        exact ⟨rfl, chain (chain hB3 hb4) (below_alloc _ _)⟩
      · obtain ⟨d, t3, u3, hd1, hd2, hd3⟩ := hd hE
        obtain ⟨S3, S4, ad3, ad4, hS4, hz4⟩ := sum3 ⟨#[120, 32, 58, 32]⟩ s ⟨#[10, 61, 32, 85, 59]⟩ (by show 4 + s.size + 5 ≤ _; omega)
        have hz5 : S4.size = s.size + 9 := by rw [hz4]; show 4 + s.size + 5 = _; omega
        have hS4' : tl S4 = 120 :: 32 :: 58 :: 32 :: (tl s ++ [10, 61, 32, 85, 59]) := hS4
        have c3 := fun w (h : Tabs w) => parse_any 700000 70000 (by omega) (by omega) (by omega) (by omega) S4 w (by unfold maxLen; omega) h
        rw [hS4', hd1] at c3
        subst hE h0 hd2
        clear he hpl hb hd1 hS4 hS4' hz4 hz5
        have sm1 : SmT false T T' := ⟨by simp, hT'.symm⟩
        have sm2 : SmT false t3 T := ⟨by simp, hd3⟩
        clear hT' hd3
        go_enter Tryd.func3, Tryd.ntmps3
        go_wp2_with fail
        refine c0.mono ?_
        rintro e w1 ⟨rfl, hB1⟩
        go_wp2_with fail
        refine (c1 w1 (hT.below hB1)).mono ?_
        rintro e w2 ⟨v2, rfl, ht2, hb2⟩
        clear c0 c1
        obtain ⟨vk, vn, rfl, hf, ka, kc, rfl⟩ := ht2.form
        obtain ⟨na, nc, rfl⟩ := hf.form
        clear hf
        have hal := below_alloc w2 (.cells #[.int .i64 (T.kind : Nat), .string (bs T.name), .slice ka T.kids.length kc, .slice na T.names.length nc, .int .i64 (T.at_ : Nat)] 26)
        have k3 := blk_new w2 (.int .i64 (T.kind : Nat)) (.string (bs T.name)) (.slice ka T.kids.length kc) (.slice na T.names.length nc) (.int .i64 (T.at_ : Nat))
        replace ht2 := ht2.blw hal
        have hB3 := chain (chain hB1 hb2) hal
        go_wp2_with (first
          | (refine wpList_add_str rfl _ _ rfl ⟨#[40]⟩ s S1 rfl rfl ad1 ?_)
          | (refine wpList_add_str rfl _ _ rfl S1 ⟨#[10, 41]⟩ S2 rfl rfl ad2 ?_))
        obtain ⟨w3, hw3⟩ : ∃ w0, w0 = w2.alloc (.cells #[.int .i64 (T.kind : Nat), .string (bs T.name), .slice ka T.kids.length kc, .slice na T.names.length nc, .int .i64 (T.at_ : Nat)] 26) := ⟨_, rfl⟩
        rw [← hw3] at k3 ht2 hB3 ⊢
        clear hw3 hal hB1 hb2
        refine (c2 _ (hT.below hB3)).mono ?_
        rintro e w4 ⟨v4, rfl, ht4, hb4⟩
        clear c2
        obtain ⟨vk, vn, rfl, hf, ka4, kc4, rfl⟩ := ht4.form
        obtain ⟨na4, nc4, rfl⟩ := hf.form
        clear hf
        have hal := below_alloc w4 (.cells #[.int .i64 (T'.kind : Nat), .string (bs T'.name), .slice ka4 T'.kids.length kc4, .slice na4 T'.names.length nc4, .int .i64 (T'.at_ : Nat)] 26)
        have k5 := blk_new w4 (.int .i64 (T'.kind : Nat)) (.string (bs T'.name)) (.slice ka4 T'.kids.length kc4) (.slice na4 T'.names.length nc4) (.int .i64 (T'.at_ : Nat))
        replace ht4 := ht4.blw hal
        replace ht2 := (ht2.blw hb4).blw hal
        replace k3 := (k3.bl2 hb4).bl2 hal
        have hB5 := chain (chain hB3 hb4) hal
        go_wp2_with (first
          | (refine wpList_add_str rfl _ _ rfl ⟨#[120, 32, 58, 32]⟩ s S3 rfl rfl ad3 ?_)
          | (refine wpList_add_str rfl _ _ rfl S3 ⟨#[10, 61, 32, 85, 59]⟩ S4 rfl rfl ad4 ?_))
        obtain ⟨w5, hw5⟩ : ∃ w0, w0 = w4.alloc (.cells #[.int .i64 (T'.kind : Nat), .string (bs T'.name), .slice ka4 T'.kids.length kc4, .slice na4 T'.names.length nc4, .int .i64 (T'.at_ : Nat)] 26) := ⟨_, rfl⟩
        rw [← hw5] at k3 k5 ht2 ht4 hB5 ⊢
        clear hw5 hal hb4 hB3
        refine (c3 _ (hT.below hB5)).mono ?_
        rintro e w6 ⟨v6, rfl, hl6, hb6⟩
        clear c3
        replace k3 := k3.bl2 hb6
        replace k5 := k5.bl2 hb6
        replace ht2 := ht2.blw hb6
        replace ht4 := ht4.blw hb6
        have hB6 := chain hB5 hb6
        clear hB5 hb6 ad1 ad2 ad3 ad4 add1 add2
        obtain ⟨aP, cP, rfl⟩ := hl6.form
        obtain ⟨gP, oP, u0, u1, u2, u3', u4, rfl, hgP, htP, q0, q1, q2, q3, q4⟩ := TrIn.look hl6.1 (j := 0) rfl
        obtain ⟨vk, vn, he, _, aK, cK, rfl⟩ := htP.form
        injection he with he
        simp only [Array.mk.injEq, List.cons.injEq, and_true] at he
        obtain ⟨rfl, rfl, rfl, rfl, rfl⟩ := he
        obtain ⟨gK, oK, y0, y1, y2, y3, y4, rfl, hgK, htK, r0, r1, r2, r3, r4⟩ := TrIn.look htP (j := 0) rfl
        simp only [Nat.zero_mul, Nat.add_zero, Tr.kids, List.length_cons, List.length_nil, Nat.zero_add, Nat.reduceAdd] at q2 r0 r1 r2 r3 r4
        obtain ⟨x3, hx3⟩ : ∃ x, x = w2.heap.size := ⟨_, rfl⟩
        obtain ⟨x5, hx5⟩ : ∃ x, x = w4.heap.size := ⟨_, rfl⟩
        rw [← hx3] at k3 ⊢
        rw [← hx5] at k5 ⊢
        clear hx3 hx5 q0 q1 q3 q4 htP hl6
        obtain ⟨a0, a1, a2, a3, a4, _⟩ := k3.cells
        obtain ⟨b0, b1, b2, b3, b4, _⟩ := k5.cells
        have l3 := k3.lt
        have l5 := k5.lt
        have A0 : ∀ u : Cls w6, u.1.cell? ⟨x3, 0, none⟩ = _ := fun u => (u.2.cell (p := ⟨x3, 0, none⟩) l3).trans a0
        have A1 : ∀ u : Cls w6, u.1.cell? ⟨x3, 1, none⟩ = _ := fun u => (u.2.cell (p := ⟨x3, 1, none⟩) l3).trans a1
        have A2 : ∀ u : Cls w6, u.1.cell? ⟨x3, 2, none⟩ = _ := fun u => (u.2.cell (p := ⟨x3, 2, none⟩) l3).trans a2
        have A3 : ∀ u : Cls w6, u.1.cell? ⟨x3, 3, none⟩ = _ := fun u => (u.2.cell (p := ⟨x3, 3, none⟩) l3).trans a3
        have A4 : ∀ u : Cls w6, u.1.cell? ⟨x3, 4, none⟩ = _ := fun u => (u.2.cell (p := ⟨x3, 4, none⟩) l3).trans a4
        have B0 : ∀ u : Cls w6, u.1.cell? ⟨x5, 0, none⟩ = _ := fun u => (u.2.cell (p := ⟨x5, 0, none⟩) l5).trans b0
        have B1 : ∀ u : Cls w6, u.1.cell? ⟨x5, 1, none⟩ = _ := fun u => (u.2.cell (p := ⟨x5, 1, none⟩) l5).trans b1
        have B2 : ∀ u : Cls w6, u.1.cell? ⟨x5, 2, none⟩ = _ := fun u => (u.2.cell (p := ⟨x5, 2, none⟩) l5).trans b2
        have B3 : ∀ u : Cls w6, u.1.cell? ⟨x5, 3, none⟩ = _ := fun u => (u.2.cell (p := ⟨x5, 3, none⟩) l5).trans b3
        have B4 : ∀ u : Cls w6, u.1.cell? ⟨x5, 4, none⟩ = _ := fun u => (u.2.cell (p := ⟨x5, 4, none⟩) l5).trans b4
        have D2 : ∀ u : Cls w6, u.1.cell? ⟨gP, oP + 2, none⟩ = _ := fun u => (u.2.cell (p := ⟨gP, oP + 2, none⟩) hgP).trans q2
        have R0 : ∀ u : Cls w6, u.1.cell? ⟨gK, oK, none⟩ = _ := fun u => (u.2.cell (p := ⟨gK, oK, none⟩) hgK).trans r0
        have R1 : ∀ u : Cls w6, u.1.cell? ⟨gK, oK + 1, none⟩ = _ := fun u => (u.2.cell (p := ⟨gK, oK + 1, none⟩) hgK).trans r1
        have R2 : ∀ u : Cls w6, u.1.cell? ⟨gK, oK + 2, none⟩ = _ := fun u => (u.2.cell (p := ⟨gK, oK + 2, none⟩) hgK).trans r2
        have R3 : ∀ u : Cls w6, u.1.cell? ⟨gK, oK + 3, none⟩ = _ := fun u => (u.2.cell (p := ⟨gK, oK + 3, none⟩) hgK).trans r3
        have R4 : ∀ u : Cls w6, u.1.cell? ⟨gK, oK + 4, none⟩ = _ := fun u => (u.2.cell (p := ⟨gK, oK + 4, none⟩) hgK).trans r4
        have HcA : Hid (∀ u : Cls w6, _) := fun u : Cls w6 => cls_call u (same_any false T T' _ _ _ _ u.1 sm1 (ht2.blw u.2) (ht4.blw u.2))
        have HcB : Hid (∀ u : Cls w6, _) := fun u : Cls w6 => cls_call u (same_any false t3 T _ _ _ _ u.1 sm2 (htK.blw u.2) (ht2.blw u.2))
        clear a0 a1 a2 a3 a4 b0 b1 b2 b3 b4 q2 r0 r1 r2 r3 r4 k3 k5 l3 l5 hgP hgK ht2 ht4 htK sm1 sm2
        go_wp2_with fail
        have hne := cls_any w6
        refine wp_region_cls (by kernel_rfl) (by kernel_rfl) ?_
        iterate 6 (quiet_step (exact HcA.out _))
        repeat (quiet_step (exact HcB.out _))
        refine wpQuiet_nil ?_
        rintro _ ⟨u, rfl⟩
        go_wp2_with fail
        go_ret
        exact ⟨rfl, chain hB6 u.2⟩
    · have hP := hpl hE
      have hE2 : ((E : Int) != 0) = true := by simp only [bne_iff_ne]; omega
      have hPw : IntKind.i64.wrap ((P : Int) + 1) = (P : Int) + 1 := wrap_in (by omega) (by omega)
      have h60 : ((E : Int) != 60) = true ∨ (((E : Int) != 60) = false ∧ E' = 60 ∧ P' = P + 1) := by
        by_cases h : E = 60
        · have h2 := he h
          injection h2 with h3 h4
          exact .inr ⟨by rw [h]; rfl, h4, h3⟩
        · exact .inl (by simp only [bne_iff_ne]; omega)
      clear he hpl hd hb
      rcases h60 with h6 | ⟨h6, rfl, rfl⟩
      all_goals
        go_enter Tryd.func3, Tryd.ntmps3
        go_wp2_with fail
        refine c0.mono ?_
        rintro e w1 ⟨rfl, hB1⟩
        go_wp2_with fail
        refine (c1 w1 (hT.below hB1)).mono ?_
        rintro e w2 ⟨v2, rfl, ht2, hb2⟩
        clear c0 c1
        obtain ⟨vk, vn, rfl, hf, ka, kc, rfl⟩ := ht2.form
        obtain ⟨na, nc, rfl⟩ := hf.form
        clear hf
        have hB3 := chain (chain hB1 hb2) (below_alloc w2 (.cells #[.int .i64 (T.kind : Nat), .string (bs T.name), .slice ka T.kids.length kc, .slice na T.names.length nc, .int .i64 (T.at_ : Nat)] 26))
        go_wp2_with (first
          | (refine wpList_add_str rfl _ _ rfl ⟨#[40]⟩ s S1 rfl rfl ad1 ?_)
          | (refine wpList_add_str rfl _ _ rfl S1 ⟨#[10, 41]⟩ S2 rfl rfl ad2 ?_))
        refine (c2 _ (hT.below hB3)).mono ?_
        rintro e w4 ⟨v4, rfl, ht4, hb4⟩
        clear c2
        obtain ⟨vk, vn, rfl, hf, ka4, kc4, rfl⟩ := ht4.form
        obtain ⟨na4, nc4, rfl⟩ := hf.form
        clear hf
        go_wp2_with fail
        go_ret
        exact ⟨rfl, chain (chain hB3 hb4) (below_alloc _ _)⟩
end Go.Proofs.YtekcpglapkpenaaDoor
