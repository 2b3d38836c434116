/- The walk of ShowBack. -/
import Derived.Test.YtahnbigkdfmpbaaDoorXWorks
import Derived.Test.YtahnbigkdfmpbaaDoorXOpen
import Derived.Test.YtahnbigkdfmpbaaDoorXSx
import Derived.Test.YtahnbigkdfmpbaaDoorMRead
import Derived.Test.YtahnbigkdfmpbaaDoorPReadL
namespace Go.Proofs.YtahnbigkdfmpbaaDoor
open Go.RowKit
set_option linter.unusedVariables false
set_option linter.unusedSimpArgs false

/-- A tree that may be has kinds that are no less than 0. -/
theorem of_to (f : Nat) : ∀ (g : Nat) (t : Sx), g < 5 → okF f g t = true → ofTr (toTr t) = erS t := by
  induction f with
  | zero => intro g t _ h; cases h
  | succ f ih =>
    intro g t hg h
    have all : ∀ (g : Nat) (l : List Sx), g < 5 → l.all (okF f g) = true → (l.map toTr).map ofTr = l.map erS := by
      intro g l hg hl
      rw [List.map_map]
      exact List.map_congr_left fun x hx => ih g x hg (List.all_eq_true.1 hl x hx)
    have done : ∀ (k : Nat) (n : Bs) (l : List Sx) (ns : List Bs) (p : Int), (l.map toTr).map ofTr = l.map erS → ofTr (toTr (.mk (k : Int) n l ns p)) = erS (.mk (k : Int) n l ns p) := by
      intro k n l ns p hl
      rw [toTr_mk, ofTr_mk, hl, erS_mk]; rfl
    have two : ∀ {a c : Sx} {g1 g2 : Nat}, g1 < 5 → g2 < 5 → okF f g1 a = true → okF f g2 c = true → ([a, c].map toTr).map ofTr = [a, c].map erS := by
      intro a c g1 g2 h1 h2 ha hc
      simp only [List.map_cons, List.map_nil, ih g1 a h1 ha, ih g2 c h2 hc]
    have one : ∀ {a : Sx} {g1 : Nat}, g1 < 5 → okF f g1 a = true → ([a].map toTr).map ofTr = [a].map erS := by
      intro a g1 h1 ha
      simp only [List.map_cons, List.map_nil, ih g1 a h1 ha]
    match g, hg with
    | 0, _ =>
      obtain ⟨p, h⟩ := sx_term h
      rcases h with ⟨n, hn, rfl⟩ | ⟨ns, a, k, h0, hns, ha, hk, rfl⟩ | ⟨a, c, k, ha, hc, hk, rfl⟩ | ⟨n, a, c, k, hn, ha, hc, hk, rfl⟩ | ⟨a, c, ha, hc, rfl⟩ | ⟨a, c, ha, hc, rfl⟩ | ⟨a, c, k, ha, hc, hk, rfl⟩ | ⟨l, hl, rfl⟩
      · exact done 1 _ _ _ _ rfl
      · rcases hk with rfl | rfl
        · exact done 2 _ _ _ _ (one (by omega) ha)
        · exact done 3 _ _ _ _ (one (by omega) ha)
      · rcases hk with rfl | rfl
        · exact done 4 _ _ _ _ (two (by omega) (by omega) ha hc)
        · exact done 5 _ _ _ _ (two (by omega) (by omega) ha hc)
      · rcases hk with rfl | rfl
        · exact done 4 _ _ _ _ (two (by omega) (by omega) ha hc)
        · exact done 5 _ _ _ _ (two (by omega) (by omega) ha hc)
      · exact done 6 _ _ _ _ (two (by omega) (by omega) ha hc)
      · exact done 7 _ _ _ _ (two (by omega) (by omega) ha hc)
      · rcases hk with rfl | rfl
        · exact done 8 _ _ _ _ (two (by omega) (by omega) ha hc)
        · exact done 9 _ _ _ _ (two (by omega) (by omega) ha hc)
      · exact done 10 _ _ _ _ (all 2 l (by omega) hl)
    | 1, _ =>
      obtain ⟨p, h⟩ := sx_dim h
      rcases h with ⟨n, hn, rfl⟩ | ⟨n, hn, rfl⟩ | ⟨a, ha, rfl⟩ | ⟨a, c, ha, hc, rfl⟩ | ⟨a, c, ha, hc, rfl⟩
      · exact done 1 _ _ _ _ rfl
      · exact done 17 _ _ _ _ rfl
      · exact done 16 _ _ _ _ (one (by omega) ha)
      · exact done 15 _ _ _ _ (two (by omega) (by omega) ha hc)
      · exact done 14 _ _ _ _ (two (by omega) (by omega) ha hc)
    | 2, _ =>
      obtain ⟨p, c, hc, rfl | ⟨a, ha, rfl⟩⟩ := sx_elem h
      · exact done 11 _ _ _ _ (one (by omega) hc)
      · exact done 11 _ _ _ _ (two (by omega) (by omega) hc ha)
    | 3, _ =>
      obtain ⟨p, l, hl, rfl⟩ := sx_face h
      exact done 12 _ _ _ _ (all 4 l (by omega) hl)
    | 4, _ =>
      obtain ⟨p, n, d, hn, hd, rfl⟩ := sx_eq h
      exact done 13 _ _ _ _ rfl
/-- What Term of the tree's text tells. -/
theorem term_back {t : Sx} (h2 : (termT 65536 t).2 = 0) : (termA 700000 (termT 65536 t).1).2.2 = 62 ∨ ((termA 700000 (termT 65536 t).1).2.2 = 0 ∧ erS t = erS (ofTr (termA 700000 (termT 65536 t).1).1)) := by
  unfold termT at h2
  by_cases hok : okF 65536 0 t = true
  · rw [if_pos hok] at h2
    unfold toldF at h2
    by_cases hl : 65536 < (partF 65536 0 t).length
    · rw [if_pos hl] at h2; cases h2
    · have e : (termT 65536 t).1 = lineF 65536 t := by
        unfold termT toldF
        rw [if_pos hok, if_neg hl]
        show partF 65536 0 t = _
        exact part0 (lineF 65536) t
      rw [e]
      have hl2 : (lineF 65536 t).length ≤ 65536 := by
        have : partF 65536 0 t = lineF 65536 t := part0 _ _
        rw [this] at hl
        omega
      rcases back_text (F := 700000) hok hl2 (by omega) with h | ⟨h, h3⟩
      · exact .inl h
      · refine .inr ⟨h, ?_⟩
        rw [← of_er, h3, of_to 65536 0 t (by omega) hok]
  · rw [if_neg hok] at h2; cases h2
theorem termT_cases (t : Sx) : (termT 65536 t).2 = 0 ∨ ((termT 65536 t).1 = [] ∧ ((termT 65536 t).2 = 61 ∨ (termT 65536 t).2 = 3)) := by
  unfold termT toldF
  split
  · split
    · exact .inr ⟨rfl, .inr rfl⟩
    · exact .inl rfl
  · exact .inr ⟨rfl, .inl rfl⟩
theorem termT_len (t : Sx) : (termT 65536 t).1.length ≤ 65536 := by
  unfold termT toldF
  split
  · split
    · simp
    · simp only
      omega
  · simp
set_option maxRecDepth 100000 in
set_option maxHeartbeats 4000000 in
theorem walk_ShowBack (t : Sx) (v : Value) (W : World) (h : SxIn W.heap.size W t v) (hT : Tabs W) : Calls Tryd.prog 3 #[v] W fun e w' => e = .returned (.bool true) ∧ Below W.heap.size W w' := by
  obtain ⟨ka, kc, na, nc, rfl, _, _⟩ := h.form
  obtain ⟨w1, hw1⟩ : ∃ w1, w1 = W.alloc (.cells #[.int .i64 t.kind, .string (bs t.name), .slice ka t.kids.length kc, .slice na t.names.length nc, .int .i64 t.at_] 25) := ⟨_, rfl⟩
  have hb1 : Below W.heap.size W w1 := by rw [hw1]; exact below_alloc _ _
  have hB1 : Bx w1 W.heap.size (.int .i64 t.kind) (.string (bs t.name)) (.slice ka t.kids.length kc) (.slice na t.names.length nc) (.int .i64 t.at_) := by rw [hw1]; exact bx_new _ _ _ _ _ _
  have Hw1 : Hid (_ = _) := hw1
  clear hw1
  have hkeep : Hid (∀ w', Below W.heap.size W w' → SxIn W.heap.size w' t (.agg #[.int .i64 t.kind, .string (bs t.name), .slice ka t.kids.length kc, .slice na t.names.length nc, .int .i64 t.at_])) := fun w' hb => h.keep hb
  have hTabs : Hid (∀ w', Below W.heap.size W w' → Tabs w') := fun w' hb => hT.below hb
  clear h hT
  go_enter Tryd.func3, Tryd.ntmps3
  go_wp2_with fail
  rw [← Hw1.out]
  clear Hw1
  refine (lawWorks_any w1).mono ?_
  rintro e w2 ⟨rfl, hb2⟩
  have hal2 := chain hb1 hb2
  have hB2 := hB1.blw hb2
  clear hb1 hb2 hB1
  obtain ⟨x0, x1, x2, x3, x4⟩ := hB2.cells
  obtain ⟨w3, hw3⟩ : ∃ w3, w3 = w2.alloc (.cells #[.int .i64 t.kind, .string (bs t.name), .slice ka t.kids.length kc, .slice na t.names.length nc, .int .i64 t.at_] 25) := ⟨_, rfl⟩
  have hb3 : Below w2.heap.size w2 w3 := by rw [hw3]; exact below_alloc _ _
  have hk3 := kdp_one 25 (hkeep.out w2 hal2) hal2.size w3 hw3
  have Hw3 : Hid (_ = _) := hw3
  clear hw3
  have hal3 := chain hal2 hb3
  have hB3 := hB2.blw hb3
  have cG := great_any w3.heap.size [t] _ 1 w3 hk3 (Nat.le_refl _)
  clear hk3
  cases hg : greatB [t]
  · rw [hg] at cG
    have hb := Nat.le_trans (mem_blkK (l := [t]) (y := t) (by simp)) (great_no hg)
    clear hg
    go_wp2_with fail
    rw [← Hw3.out]
    clear Hw3 x0 x1 x2 x3 x4
    refine cG.mono ?_
    rintro e w4 ⟨rfl, hb4⟩
    clear cG
    have hal4 := chain hal3 hb4
    have hB4 := hB3.blw hb4
    clear hb3 hb4 hB2 hB3 hal2 hal3
    obtain ⟨x0, x1, x2, x3, x4⟩ := hB4.cells
    have cS := sTerm_any W.heap.size t _ w4 (hkeep.out w4 hal4) hal4.size (by omega)
    have hl9 := termT_len t
    have hback := term_back (t := t)
    have hcas := termT_cases t
    obtain ⟨S, hS⟩ : ∃ S, S = (termT 65536 t).1 := ⟨_, rfl⟩
    obtain ⟨E, hE⟩ : ∃ E, E = (termT 65536 t).2 := ⟨_, rfl⟩
    rw [← hS, ← hE] at cS hcas hback
    rw [← hS] at hl9
    clear hS hE
    rcases hcas with rfl | ⟨rfl, hE⟩
    · replace hback := hback rfl
      have cT := fun w' (hb' : Below W.heap.size W w') => term_any 700000 (by omega) (by omega) (bs S) w' (by rw [bs_size]; unfold maxLen; omega) (hTabs.out w' hb')
      rw [tl_bs] at cT
      obtain ⟨A, hA⟩ : ∃ A, A = termA 700000 S := ⟨_, rfl⟩
      rw [← hA] at cT hback
      clear hA hl9
      obtain ⟨u, P, F⟩ := A
      simp only at cT hback
      have Hback : Hid (_ ∨ _) := hback
      go_wp2_with fail
      refine cS.mono ?_
      rintro e w5 ⟨rfl, hb5⟩
      clear cS x0 x1 x2 x3 x4
      have hal5 := chain hal4 hb5
      have hB5 := hB4.blw hb5
      clear hal4 hB4 hb5
      go_wp2_with fail
      refine (cT w5 hal5).mono ?_
      rintro e w6 ⟨vu, rfl, hu6, hb6⟩
      clear cT
      have hal6 := chain hal5 hb6
      have hB6 := hB5.blw hb6
      clear hal5 hB5 hb6
      obtain ⟨vk, vn, rfl, hna, A2, C2, rfl⟩ := hu6.form
      obtain ⟨N2, M2, rfl⟩ := hna.form
      obtain ⟨w7, hw7⟩ : ∃ w7, w7 = w6.alloc (.cells #[.int .i64 (u.kind : Nat), .string (bs u.name), .slice A2 u.kids.length C2, .slice N2 u.names.length M2, .int .i64 (u.at_ : Nat)] 25) := ⟨_, rfl⟩
      have hb7 : Below w6.heap.size w6 w7 := by rw [hw7]; exact below_alloc _ _
      have hB7u : Bx w7 w6.heap.size (.int .i64 (u.kind : Nat)) (.string (bs u.name)) (.slice A2 u.kids.length C2) (.slice N2 u.names.length M2) (.int .i64 (u.at_ : Nat)) := by rw [hw7]; exact bx_new _ _ _ _ _ _
      have Hw7 : Hid (_ = _) := hw7
      clear hw7
      have hal7 := chain hal6 hb7
      have hB7 := hB6.blw hb7
      have hu7 := (hu6.blw hb7).sx
      clear hal6 hB6 hu6 hna
      obtain ⟨x0, x1, x2, x3, x4⟩ := hB7.cells
      obtain ⟨y0, y1, y2, y3, y4⟩ := hB7u.cells
      rcases hback with rfl | ⟨rfl, hS⟩
      · clear Hback hu7 hb7 hB7u hB7
        go_wp2_with fail
        go_ret
        refine ⟨rfl, ?_⟩
        rw [← Hw7.out]
        exact hal7
      · have cD := same_sx (blk t) t (ofTr u) W.heap.size w7.heap.size _ _ w7 (Nat.le_refl _) (by omega) hS (hkeep.out w7 hal7) hu7 hal7.size (Nat.le_refl _)
        clear Hback hu7 hb7 hB7u hB7 hS
        rw [Hw7.out] at cD x0 x1 x2 x3 x4 y0 y1 y2 y3 y4
        go_wp2_with fail
        refine cD.mono ?_
        rintro e w8 ⟨rfl, hb8⟩
        rw [← Hw7.out] at hb8
        go_wp2_with fail
        go_ret
        exact ⟨rfl, chain hal7 hb8⟩
    · have hE2 : (E : Int) ≠ 0 := by omega
      have hE1 : ((E : Int) != 0) = true := by simpa using hE2
      have qe : (bs []).toList.isEmpty = true := by rw [Lib.toList_data, tl_def, tl_bs]; rfl
      go_wp2_with fail
      refine cS.mono ?_
      rintro e w5 ⟨rfl, hb5⟩
      clear cS x0 x1 x2 x3 x4
      have hal5 := chain hal4 hb5
      rcases hE with rfl | rfl
      · go_wp2_with fail
        go_ret
        exact ⟨rfl, hal5⟩
      · go_wp2_with fail
        go_ret
        exact ⟨rfl, hal5⟩
  · rw [hg] at cG
    clear hg
    go_wp2_with fail
    rw [← Hw3.out]
    clear Hw3
    refine cG.mono ?_
    rintro e w4 ⟨rfl, hb4⟩
    go_wp2_with fail
    go_ret
    exact ⟨rfl, chain hal3 hb4⟩
end Go.Proofs.YtahnbigkdfmpbaaDoor
