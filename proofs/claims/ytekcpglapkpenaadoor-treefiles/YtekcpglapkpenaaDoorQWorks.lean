/- The constants: named and works of the statements. -/
import Derived.Deep.Cut
import Derived.Deep.RegionHeld
import Derived.Test.YtekcpglapkpenaaDoorQSame
import Derived.Test.YtekcpglapkpenaaDoorPReadL
namespace Go.Proofs.YtekcpglapkpenaaDoor
open Go.RowKit
set_option linter.unusedVariables false
set_option linter.unusedSimpArgs false

set_option maxRecDepth 100000 in
theorem named_any (X : ByteArray) (w : World) : Calls Tryd.prog 17 #[.string X] w fun e w' => e = .returned (.agg #[.int .i64 1, .string X, .slice none 0 0, .slice none 0 0, .int .i64 0]) ∧ Below w.heap.size w w' := by
  have hal := below_alloc w (.cells #[.int .i64 1, .string X, .slice none 0 0, .slice none 0 0, .int .i64 0] 26)
  obtain ⟨c0, c1, c2, c3, c4, _⟩ := (blk_new w (.int .i64 1) (.string X) (.slice none 0 0) (.slice none 0 0) (.int .i64 0)).cells
  go_enter Tryd.func17, Tryd.ntmps17
  go_wp2
  exact ⟨rfl, .agg #[.int .i64 1, .string X, .slice none 0 0, .slice none 0 0, .int .i64 0], by simp only [results, Tryd.results17]; simp [go_sem], rfl, hal⟩
def nmT (n : Bs) : Tr := .mk 1 n [] [] 0
def wk6 : Tr := .mk 6 [] [nmT [102], nmT [120]] [] 0
def wk7 : Tr := .mk 7 [] [wk6, nmT [105]] [] 0
def wkT : Tr := .mk 2 [] [wk7] [[120]] 0
theorem wk1 : termA 700000 (tl ⟨#[92, 120, 46, 32, 102, 32, 120, 32, 64, 32, 105]⟩) = (.mk 2 [] [.mk 7 [] [.mk 6 [] [.mk 1 [102] [] [] 4, .mk 1 [120] [] [] 6] [] 4, .mk 1 [105] [] [] 10] [] 4] [[120]] 0, 0, 0) := by kernel_rfl
theorem wk2 : ∃ l, termA 700000 (tl ⟨#[40, 120, 32, 58, 32, 65, 41, 32, 45, 62, 32, 66]⟩) = (.mk 4 [] l [[120]] 0, 0, 0) := ⟨(termA 700000 (tl ⟨#[40, 120, 32, 58, 32, 65, 41, 32, 45, 62, 32, 66]⟩)).1.kids, by kernel_rfl⟩
theorem wk3 : ∃ l, termA 700000 (tl ⟨#[40, 120, 32, 58, 32, 65, 41, 32, 121]⟩) = (.mk 6 [] l [] 0, 0, 0) := ⟨(termA 700000 (tl ⟨#[40, 120, 32, 58, 32, 65, 41, 32, 121]⟩)).1.kids, by kernel_rfl⟩
theorem wk4 : termA 700000 (tl ⟨#[102, 32, 41]⟩) = (zeroTr, 2, 61) := by kernel_rfl
theorem wk5 : ∃ l, fileA 700000 70000 (tl ⟨#[102, 32, 58, 32, 85, 32, 61, 32, 85, 59]⟩) = ([.mk 18 [102] l [] 0], 0, 0) := ⟨((fileA 700000 70000 (tl ⟨#[102, 32, 58, 32, 85, 32, 61, 32, 85, 59]⟩)).1.headD zeroTr).kids, by kernel_rfl⟩
theorem rename_names {ok : Nat → Prop} {w : World} {k p : Nat} {nm : Bs} {ks : List Tr} {ns ns' : List Bs} {v0 v1 v2 v3 v4 vn : Value} (h : TrIn ok w (.mk k nm ks ns p) (.agg #[v0, v1, v2, v3, v4])) (hn : NmIn ok w ns' vn) : TrIn ok w (.mk k nm ks ns' p) (.agg #[v0, v1, v2, vn, v4]) := by
  rcases h.inv with ⟨_, _, _, _, a, cap, _, hn0, e1, e2⟩ | ⟨_, _, _, _, _, _, g, off, cap, U, hL, hn0, hok, hg, hc, hk, e1, e2⟩
  · cases e1; cases e2; exact .leaf k nm ns' p a cap vn hn
  · cases e1; cases e2; exact .node k nm ks ns' p vn g off cap U hL hn hok hg hc hk
theorem wk_sm : SmT false (.mk 2 [] [.mk 7 [] [.mk 6 [] [.mk 1 [102] [] [] 4, .mk 1 [120] [] [] 6] [] 4, .mk 1 [105] [] [] 10] [] 4] [[120]] 0) wkT := ⟨by simp, by simp only [wkT, wk7, wk6, nmT, erTr_mk, erTrs_map, List.map_cons, List.map_nil]⟩
set_option maxRecDepth 100000 in
set_option maxHeartbeats 8000000 in
theorem works_any (w : World) (hT : Tabs w) : Calls Tryd.prog 7 #[] w fun e w' => e = .returned (.bool true) ∧ Below w.heap.size w w' := by
  have c1 := term_any 700000 (by omega) (by omega) ⟨#[92, 120, 46, 32, 102, 32, 120, 32, 64, 32, 105]⟩ w (by decide) hT
  rw [wk1] at c1
  go_enter Tryd.func7, Tryd.ntmps7
  go_wp2_with fail
  refine c1.mono ?_
  rintro e w1 ⟨v1, rfl, ht1, hB1⟩
  clear c1
  obtain ⟨vk, vn, rfl, hf, ka1, kc1, rfl⟩ := ht1.form
  obtain ⟨na1, nc1, rfl⟩ := hf.form
  clear hf
  simp only [Tr.kind, Tr.name, Tr.kids, Tr.names, Tr.at_] at ht1 ⊢
  replace ht1 : TrIn (From 0) w1 (.mk 2 [] [.mk 7 [] [.mk 6 [] [.mk 1 [102] [] [] 4, .mk 1 [120] [] [] 6] [] 4, .mk 1 [105] [] [] 10] [] 4] [[120]] 0) (.agg #[.int .i64 2, .string (bs []), .slice ka1 1 kc1, .slice na1 1 nc1, .int .i64 0]) := ht1.keep (Nat.le_refl _) (fun _ _ => Nat.zero_le _) (fun _ _ _ => rfl)
  have hal1 := below_alloc w1 (.cells #[.int .i64 2, .string (bs []), .slice ka1 1 kc1, .slice na1 1 nc1, .int .i64 0] 26)
  have k1 := blk_new w1 (.int .i64 2) (.string (bs [])) (.slice ka1 1 kc1) (.slice na1 1 nc1) (.int .i64 0)
  go_wp2_with fail
  refine (named_any _ _).mono ?_
  rintro e w2 ⟨rfl, hb2⟩
  go_wp2_with fail
  refine (named_any _ _).mono ?_
  rintro e w3 ⟨rfl, hb3⟩
  go_wp2_with fail
  have hb13 := chain (chain hal1 hb2) hb3
  have hB3 := chain hB1 hb13
  replace ht1 := ht1.blw hb13
  replace k1 := (k1.bl2 hb2).bl2 hb3
  clear hal1 hb2 hb3 hb13 hB1
  obtain ⟨w4, hw4⟩ : ∃ w4, w4 = (w3.alloc (.cells #[.int .i64 1, .string ⟨#[102]⟩, .slice none 0 0, .slice none 0 0, .int .i64 0, .int .i64 1, .string ⟨#[120]⟩, .slice none 0 0, .slice none 0 0, .int .i64 0] 26)).alloc (.cells #[.int .i64 6, .string ⟨#[]⟩, .slice (some ⟨w3.heap.size, 0, none⟩) 2 2, .slice none 0 0, .int .i64 0] 26) := ⟨_, rfl⟩
  have h34 : w4.heap.size = w3.heap.size + 2 := by rw [hw4]; simp
  have hb4 : Below w3.heap.size w3 w4 := by rw [hw4]; exact chain (below_alloc _ _) (below_alloc _ _)
  have b4 : Blk w4 (w3.heap.size + 1) (.int .i64 6) (.string ⟨#[]⟩) (.slice (some ⟨w3.heap.size, 0, none⟩) 2 2) (.slice none 0 0) (.int .i64 0) := by
    rw [hw4]
    have h := blk_new (w3.alloc (.cells #[.int .i64 1, .string ⟨#[102]⟩, .slice none 0 0, .slice none 0 0, .int .i64 0, .int .i64 1, .string ⟨#[120]⟩, .slice none 0 0, .slice none 0 0, .int .i64 0] 26)) (.int .i64 6) (.string ⟨#[]⟩) (.slice (some ⟨w3.heap.size, 0, none⟩) 2 2) (.slice none 0 0) (.int .i64 0)
    simpa using h
  have t4 : TrIn (From 0) w4 wk6 (.agg #[.int .i64 6, .string ⟨#[]⟩, .slice (some ⟨w3.heap.size, 0, none⟩) 2 2, .slice none 0 0, .int .i64 0]) := by
    rw [hw4]
    exact TrIn.blw (TrIn.pair 6 [] [] 0 (.leaf 1 [102] [] 0 none 0 _ (.nil none 0)) (.leaf 1 [120] [] 0 none 0 _ (.nil none 0)) (.nil none 0) (Nat.zero_le _) (by simp) (fun j y hj => new_cell _ _ _ _ j y rfl hj)) (below_alloc _ _)
  have hB4 := chain hB3 hb4
  replace ht1 := ht1.blw hb4
  replace k1 := k1.bl2 hb4
  rw [← hw4]
  clear hw4 hb4 hB3
  go_cut [5] from 27 (fun p wx => ∃ x ka kc na nc, p = .pointer (some ⟨x, 0, none⟩) ∧ Blk wx x (.int .i64 2) (.string ⟨#[]⟩) (.slice ka 1 kc) (.slice na 1 nc) (.int .i64 0) ∧ TrIn (From 0) wx wkT (.agg #[.int .i64 2, .string ⟨#[]⟩, .slice ka 1 kc, .slice na 1 nc, .int .i64 0]) ∧ Below w4.heap.size w4 wx)
  case first =>
    have hC : Below w4.heap.size w4 w4.drew := Below.drew (Below.refl _ _)
    refine wp_region_held_drew (S := fun w0 => Blk w0 (w3.heap.size + 1) (.int .i64 6) (.string ⟨#[]⟩) (.slice (some ⟨w3.heap.size, 0, none⟩) 2 2) (.slice none 0 0) (.int .i64 0)) (by kernel_rfl) (b4.bl2 hC) (fun hS => ?_)
    have htr := t4.blw hC
    have hB5 := hC
    obtain ⟨w5, hw⟩ : ∃ w0, w0 = w4.drew := ⟨_, rfl⟩
    rw [← hw] at hS htr hB5 ⊢
    clear hw hC b4 t4
    refine wpAnyH_take (i := 1) (v := .agg #[.int .i64 6, .string ⟨#[]⟩, .slice (some ⟨w3.heap.size, 0, none⟩) 2 2, .slice none 0 0, .int .i64 0]) rfl (by kernel_rfl) (by kernel_rfl) (by kernel_rfl) (fun _ _ _ h => h) (Or.inl ⟨by rfl, fun w hS => by obtain ⟨c0, c1, c2, c3, c4, _⟩ := Blk.cells hS; go_simp⟩) hS ?_
    simp only [Act.put, List.setIfInBounds_toArray, List.set_cons_zero, List.set_cons_succ]
    refine wpAnyH_ready (rs := [0, 2, 7]) (by kernel_rfl) (by simp) ?_
    refine AllReadyH.cons rfl (fun KK hKK => ?_) (AllReadyH.cons rfl (fun KK hKK => ?_) (AllReadyH.cons rfl (fun KK hKK => ?_) AllReadyH.nil))
    · skip
      go_simp
      have hal := below_alloc w5 (.cells #[.string ⟨#[120]⟩] 9)
      replace hS := hS.bl2 hal
      replace htr := htr.blw hal
      have hm : NmIn (From 0) (w5.alloc (.cells #[.string ⟨#[120]⟩] 9)) [[120]] (.slice (some ⟨w5.heap.size, 0, none⟩) 1 1) := (names_one w5 [120]).keep (Nat.le_refl _) (fun g _ => Nat.zero_le _) (fun _ _ _ => rfl)
      obtain ⟨w6, hw⟩ : ∃ w0, w0 = w5.alloc (.cells #[.string ⟨#[120]⟩] 9) := ⟨_, rfl⟩
      rw [← hw] at hal hS htr hm ⊢
      clear hw
      have hB6 := chain hB5 hal
      clear hal
      refine hKK.out _ _ hS (fun hS => ?_)
      clear hKK KK
      refine wpAnyH_ready (rs := [2, 7]) (by kernel_rfl) (by simp) ?_
      refine AllReadyH.cons rfl (fun KK hKK => ?_) (AllReadyH.cons rfl (fun KK hKK => ?_) AllReadyH.nil)
      · skip
        go_simp
        refine (named_any _ _).mono ?_
        rintro e w7 ⟨rfl, hb⟩
        replace hS := hS.bl2 hb
        replace htr := htr.blw hb
        replace hm := hm.blw hb
        have hB7 := chain hB6 hb
        clear hb
        refine hKK.out _ _ hS (fun hS => ?_)
        clear hKK KK
        refine wpAnyH_ready (rs := [3, 7]) (by kernel_rfl) (by simp) ?_
        refine AllReadyH.cons rfl (fun KK hKK => ?_) (AllReadyH.cons rfl (fun KK hKK => ?_) AllReadyH.nil)
        · skip
          go_simp
          have hal := below_alloc w7 (.cells #[.int .i64 6, .string ⟨#[]⟩, .slice (some ⟨w3.heap.size, 0, none⟩) 2 2, .slice none 0 0, .int .i64 0, .int .i64 1, .string ⟨#[105]⟩, .slice none 0 0, .slice none 0 0, .int .i64 0] 26)
          replace hS := hS.bl2 hal
          replace htr := htr.blw hal
          replace hm := hm.blw hal
          have ht7 : TrIn (From 0) (w7.alloc (.cells #[.int .i64 6, .string ⟨#[]⟩, .slice (some ⟨w3.heap.size, 0, none⟩) 2 2, .slice none 0 0, .int .i64 0, .int .i64 1, .string ⟨#[105]⟩, .slice none 0 0, .slice none 0 0, .int .i64 0] 26)) wk7 (.agg #[.int .i64 7, .string ⟨#[]⟩, .slice (some ⟨w7.heap.size, 0, none⟩) 2 2, .slice none 0 0, .int .i64 0]) := TrIn.pair 7 [] [] 0 htr (.leaf 1 [105] [] 0 none 0 _ (.nil none 0)) (.nil none 0) (Nat.zero_le _) (by simp) (fun j y hj => new_cell _ _ _ _ j y rfl hj)
          obtain ⟨w8, hw⟩ : ∃ w0, w0 = w7.alloc (.cells #[.int .i64 6, .string ⟨#[]⟩, .slice (some ⟨w3.heap.size, 0, none⟩) 2 2, .slice none 0 0, .int .i64 0, .int .i64 1, .string ⟨#[105]⟩, .slice none 0 0, .slice none 0 0, .int .i64 0] 26) := ⟨_, rfl⟩
          rw [← hw] at hal hS htr hm ht7 ⊢
          clear hw
          have hB8 := chain hB7 hal
          clear hal
          refine hKK.out _ _ hS (fun hS => ?_)
          clear hKK KK
          refine wpAnyH_take (i := 4) (v := .agg #[.int .i64 7, .string ⟨#[]⟩, .slice (some ⟨w7.heap.size, 0, none⟩) 2 2, .slice none 0 0, .int .i64 0]) rfl (by kernel_rfl) (by kernel_rfl) (by kernel_rfl) (fun _ _ _ h => h) (Or.inl ⟨by rfl, fun w _ => by go_simp⟩) hS ?_
          simp only [Act.put, List.setIfInBounds_toArray, List.set_cons_zero, List.set_cons_succ]
          refine wpAnyH_ready (rs := [5, 7]) (by kernel_rfl) (by simp) ?_
          refine AllReadyH.cons rfl (fun KK hKK => ?_) (AllReadyH.cons rfl (fun KK hKK => ?_) AllReadyH.nil)
          · skip
            go_simp
            have hal := below_alloc w8 (.cells #[.int .i64 7, .string ⟨#[]⟩, .slice (some ⟨w7.heap.size, 0, none⟩) 2 2, .slice none 0 0, .int .i64 0] 26)
            replace hS := hS.bl2 hal
            replace htr := htr.blw hal
            replace hm := hm.blw hal
            replace ht7 := ht7.blw hal
            have ht2 : TrIn (From 0) (w8.alloc (.cells #[.int .i64 7, .string ⟨#[]⟩, .slice (some ⟨w7.heap.size, 0, none⟩) 2 2, .slice none 0 0, .int .i64 0] 26)) (.mk 2 [] [wk7] [] 0) (.agg #[.int .i64 2, .string ⟨#[]⟩, .slice (some ⟨w8.heap.size, 0, none⟩) 1 1, .slice none 0 0, .int .i64 0]) := TrIn.one 2 [] [] 0 ht7 (.nil none 0) (Nat.zero_le _) (by simp) (fun j y hj => new_cell _ _ _ _ j y rfl hj)
            obtain ⟨w9, hw⟩ : ∃ w0, w0 = w8.alloc (.cells #[.int .i64 7, .string ⟨#[]⟩, .slice (some ⟨w7.heap.size, 0, none⟩) 2 2, .slice none 0 0, .int .i64 0] 26) := ⟨_, rfl⟩
            rw [← hw] at hal hS htr hm ht7 ht2 ⊢
            clear hw
            have hB9 := chain hB8 hal
            clear hal
            refine hKK.out _ _ hS (fun hS => ?_)
            clear hKK KK
            refine wpAnyH_take (i := 6) (v := .agg #[.int .i64 2, .string ⟨#[]⟩, .slice (some ⟨w8.heap.size, 0, none⟩) 1 1, .slice (some ⟨w5.heap.size, 0, none⟩) 1 1, .int .i64 0]) rfl (by kernel_rfl) (by kernel_rfl) (by kernel_rfl) (fun _ _ _ h => h) (Or.inl ⟨by rfl, fun w _ => by go_simp⟩) hS ?_
            simp only [Act.put, List.setIfInBounds_toArray, List.set_cons_zero, List.set_cons_succ]
            refine wpAnyH_ready (rs := [7]) (by kernel_rfl) (by simp) ?_
            refine AllReadyH.cons rfl (fun KK hKK => ?_) AllReadyH.nil
            go_simp
            have hal := below_alloc w9 (.cells #[.int .i64 0, .string ⟨#[]⟩, .slice none 0 0, .slice none 0 0, .int .i64 0] 26)
            have hbx := blk_new w9 (.int .i64 0) (.string ⟨#[]⟩) (.slice none 0 0) (.slice none 0 0) (.int .i64 0)
            have hxg := hB9.size
            replace hS := hS.bl2 hal
            replace htr := TrIn.ahead htr (Nat.le_refl _) hal
            replace hm := NmIn.ahead hm (Nat.le_refl _) hal
            replace ht7 := TrIn.ahead ht7 (Nat.le_refl _) hal
            replace ht2 := TrIn.ahead ht2 (Nat.le_refl _) hal
            obtain ⟨w10, hw⟩ : ∃ w0, w0 = w9.alloc (.cells #[.int .i64 0, .string ⟨#[]⟩, .slice none 0 0, .slice none 0 0, .int .i64 0] 26) := ⟨_, rfl⟩
            rw [← hw] at hal hS htr hm ht7 ht2 hbx ⊢
            clear hw
            have hB10 := chain hB9 hal
            clear hal
            obtain ⟨x, hx⟩ : ∃ x, x = w9.heap.size := ⟨_, rfl⟩
            rw [← hx] at hxg htr hm ht7 ht2 hbx ⊢
            clear hx
            refine hKK.out _ _ hS (fun hS => ?_)
            clear hKK KK
            refine wpAnyH_ready (rs := [8]) (by kernel_rfl) (by simp) ?_
            refine AllReadyH.cons rfl (fun KK hKK => ?_) AllReadyH.nil
            obtain ⟨c0, c1, c2, c3, c4, f0, f1, f2, f3, f4⟩ := hbx.cells
            go_simp
            clear c0 c1 c2 c3 c4 f0 f1 f2 f3 f4
            have hne : w3.heap.size + 1 ≠ x := by omega
            obtain ⟨w11, hw⟩ : ∃ w0, w0 = ((((w10.setCell ⟨x, 0, none⟩ (.int .i64 2)).setCell ⟨x, 1, none⟩ (.string ⟨#[]⟩)).setCell ⟨x, 2, none⟩ (.slice (some ⟨w8.heap.size, 0, none⟩) 1 1)).setCell ⟨x, 3, none⟩ (.slice (some ⟨w5.heap.size, 0, none⟩) 1 1)).setCell ⟨x, 4, none⟩ (.int .i64 0) := ⟨_, rfl⟩
            rw [← hw]
            have hbx2 : Blk w11 x (.int .i64 2) (.string ⟨#[]⟩) (.slice (some ⟨w8.heap.size, 0, none⟩) 1 1) (.slice (some ⟨w5.heap.size, 0, none⟩) 1 1) (.int .i64 0) := by rw [hw]; exact blk_put w10 x _ _ _ _ _ _ _ _ _ _ hbx
            have htt := rename_names (TrIn.putE ht2 hw) (NmIn.putE hm hw)
            have hB11 : Below w4.heap.size w4 w11 := by rw [hw]; exact ((((hB10.setCell hxg _).setCell hxg _).setCell hxg _).setCell hxg _).setCell hxg _
            replace hS : Blk w11 (w3.heap.size + 1) (.int .i64 6) (.string ⟨#[]⟩) (.slice (some ⟨w3.heap.size, 0, none⟩) 2 2) (.slice none 0 0) (.int .i64 0) := by
              rw [hw]
              unfold Blk at hS ⊢
              rw [heap_put hne, heap_put hne, heap_put hne, heap_put hne, heap_put hne]
              exact hS
            clear hw
            refine hKK.out _ _ hS (fun hS => ?_)
            clear hKK KK
            refine wpAnyH_done (by kernel_rfl) ?_ _
            go_wp2_with fail
            go_meet
            exact ⟨x, _, _, _, _, rfl, hbx2, TrIn.fromB htt, hB11⟩
          · skip
            go_simp
            have hal := below_alloc w8 (.cells #[.int .i64 0, .string ⟨#[]⟩, .slice none 0 0, .slice none 0 0, .int .i64 0] 26)
            have hbx := blk_new w8 (.int .i64 0) (.string ⟨#[]⟩) (.slice none 0 0) (.slice none 0 0) (.int .i64 0)
            have hxg := hB8.size
            replace hS := hS.bl2 hal
            replace htr := TrIn.ahead htr (Nat.le_refl _) hal
            replace hm := NmIn.ahead hm (Nat.le_refl _) hal
            replace ht7 := TrIn.ahead ht7 (Nat.le_refl _) hal
            obtain ⟨w9, hw⟩ : ∃ w0, w0 = w8.alloc (.cells #[.int .i64 0, .string ⟨#[]⟩, .slice none 0 0, .slice none 0 0, .int .i64 0] 26) := ⟨_, rfl⟩
            rw [← hw] at hal hS htr hm ht7 hbx ⊢
            clear hw
            have hB9 := chain hB8 hal
            clear hal
            obtain ⟨x, hx⟩ : ∃ x, x = w8.heap.size := ⟨_, rfl⟩
            rw [← hx] at hxg htr hm ht7 hbx ⊢
            clear hx
            refine hKK.out _ _ hS (fun hS => ?_)
            clear hKK KK
            refine wpAnyH_ready (rs := [5]) (by kernel_rfl) (by simp) ?_
            refine AllReadyH.cons rfl (fun KK hKK => ?_) AllReadyH.nil
            go_simp
            have hxl := hbx.lt
            have hal := below_alloc w9 (.cells #[.int .i64 7, .string ⟨#[]⟩, .slice (some ⟨w7.heap.size, 0, none⟩) 2 2, .slice none 0 0, .int .i64 0] 26)
            replace hS := hS.bl2 hal
            replace htr := htr.blw hal
            replace hm := hm.blw hal
            replace ht7 := ht7.blw hal
            replace hbx := hbx.bl2 hal
            have ht2 : TrIn (But 0 x) (w9.alloc (.cells #[.int .i64 7, .string ⟨#[]⟩, .slice (some ⟨w7.heap.size, 0, none⟩) 2 2, .slice none 0 0, .int .i64 0] 26)) (.mk 2 [] [wk7] [] 0) (.agg #[.int .i64 2, .string ⟨#[]⟩, .slice (some ⟨w9.heap.size, 0, none⟩) 1 1, .slice none 0 0, .int .i64 0]) := TrIn.one 2 [] [] 0 ht7 (.nil none 0) (⟨Nat.zero_le _, by omega⟩) (by simp) (fun j y hj => new_cell _ _ _ _ j y rfl hj)
            obtain ⟨w10, hw⟩ : ∃ w0, w0 = w9.alloc (.cells #[.int .i64 7, .string ⟨#[]⟩, .slice (some ⟨w7.heap.size, 0, none⟩) 2 2, .slice none 0 0, .int .i64 0] 26) := ⟨_, rfl⟩
            rw [← hw] at hal hS htr hm ht7 hbx ht2 ⊢
            clear hw
            have hB10 := chain hB9 hal
            clear hal
            clear hxl
            refine hKK.out _ _ hS (fun hS => ?_)
            clear hKK KK
            refine wpAnyH_take (i := 6) (v := .agg #[.int .i64 2, .string ⟨#[]⟩, .slice (some ⟨w9.heap.size, 0, none⟩) 1 1, .slice (some ⟨w5.heap.size, 0, none⟩) 1 1, .int .i64 0]) rfl (by kernel_rfl) (by kernel_rfl) (by kernel_rfl) (fun _ _ _ h => h) (Or.inl ⟨by rfl, fun w _ => by go_simp⟩) hS ?_
            simp only [Act.put, List.setIfInBounds_toArray, List.set_cons_zero, List.set_cons_succ]
            refine wpAnyH_ready (rs := [8]) (by kernel_rfl) (by simp) ?_
            refine AllReadyH.cons rfl (fun KK hKK => ?_) AllReadyH.nil
            obtain ⟨c0, c1, c2, c3, c4, f0, f1, f2, f3, f4⟩ := hbx.cells
            go_simp
            clear c0 c1 c2 c3 c4 f0 f1 f2 f3 f4
            have hne : w3.heap.size + 1 ≠ x := by omega
            obtain ⟨w11, hw⟩ : ∃ w0, w0 = ((((w10.setCell ⟨x, 0, none⟩ (.int .i64 2)).setCell ⟨x, 1, none⟩ (.string ⟨#[]⟩)).setCell ⟨x, 2, none⟩ (.slice (some ⟨w9.heap.size, 0, none⟩) 1 1)).setCell ⟨x, 3, none⟩ (.slice (some ⟨w5.heap.size, 0, none⟩) 1 1)).setCell ⟨x, 4, none⟩ (.int .i64 0) := ⟨_, rfl⟩
            rw [← hw]
            have hbx2 : Blk w11 x (.int .i64 2) (.string ⟨#[]⟩) (.slice (some ⟨w9.heap.size, 0, none⟩) 1 1) (.slice (some ⟨w5.heap.size, 0, none⟩) 1 1) (.int .i64 0) := by rw [hw]; exact blk_put w10 x _ _ _ _ _ _ _ _ _ _ hbx
            have htt := rename_names (TrIn.putE ht2 hw) (NmIn.putE hm hw)
            have hB11 : Below w4.heap.size w4 w11 := by rw [hw]; exact ((((hB10.setCell hxg _).setCell hxg _).setCell hxg _).setCell hxg _).setCell hxg _
            replace hS : Blk w11 (w3.heap.size + 1) (.int .i64 6) (.string ⟨#[]⟩) (.slice (some ⟨w3.heap.size, 0, none⟩) 2 2) (.slice none 0 0) (.int .i64 0) := by
              rw [hw]
              unfold Blk at hS ⊢
              rw [heap_put hne, heap_put hne, heap_put hne, heap_put hne, heap_put hne]
              exact hS
            clear hw
            refine hKK.out _ _ hS (fun hS => ?_)
            clear hKK KK
            refine wpAnyH_done (by kernel_rfl) ?_ _
            go_wp2_with fail
            go_meet
            exact ⟨x, _, _, _, _, rfl, hbx2, TrIn.fromB htt, hB11⟩
        · skip
          go_simp
          have hal := below_alloc w7 (.cells #[.int .i64 0, .string ⟨#[]⟩, .slice none 0 0, .slice none 0 0, .int .i64 0] 26)
          have hbx := blk_new w7 (.int .i64 0) (.string ⟨#[]⟩) (.slice none 0 0) (.slice none 0 0) (.int .i64 0)
          have hxg := hB7.size
          replace hS := hS.bl2 hal
          replace htr := TrIn.ahead htr (Nat.le_refl _) hal
          replace hm := NmIn.ahead hm (Nat.le_refl _) hal
          obtain ⟨w8, hw⟩ : ∃ w0, w0 = w7.alloc (.cells #[.int .i64 0, .string ⟨#[]⟩, .slice none 0 0, .slice none 0 0, .int .i64 0] 26) := ⟨_, rfl⟩
          rw [← hw] at hal hS htr hm hbx ⊢
          clear hw
          have hB8 := chain hB7 hal
          clear hal
          obtain ⟨x, hx⟩ : ∃ x, x = w7.heap.size := ⟨_, rfl⟩
          rw [← hx] at hxg htr hm hbx ⊢
          clear hx
          refine hKK.out _ _ hS (fun hS => ?_)
          clear hKK KK
          refine wpAnyH_ready (rs := [3]) (by kernel_rfl) (by simp) ?_
          refine AllReadyH.cons rfl (fun KK hKK => ?_) AllReadyH.nil
          go_simp
          have hxl := hbx.lt
          have hal := below_alloc w8 (.cells #[.int .i64 6, .string ⟨#[]⟩, .slice (some ⟨w3.heap.size, 0, none⟩) 2 2, .slice none 0 0, .int .i64 0, .int .i64 1, .string ⟨#[105]⟩, .slice none 0 0, .slice none 0 0, .int .i64 0] 26)
          replace hS := hS.bl2 hal
          replace htr := htr.blw hal
          replace hm := hm.blw hal
          replace hbx := hbx.bl2 hal
          have ht7 : TrIn (But 0 x) (w8.alloc (.cells #[.int .i64 6, .string ⟨#[]⟩, .slice (some ⟨w3.heap.size, 0, none⟩) 2 2, .slice none 0 0, .int .i64 0, .int .i64 1, .string ⟨#[105]⟩, .slice none 0 0, .slice none 0 0, .int .i64 0] 26)) wk7 (.agg #[.int .i64 7, .string ⟨#[]⟩, .slice (some ⟨w8.heap.size, 0, none⟩) 2 2, .slice none 0 0, .int .i64 0]) := TrIn.pair 7 [] [] 0 htr (.leaf 1 [105] [] 0 none 0 _ (.nil none 0)) (.nil none 0) (⟨Nat.zero_le _, by omega⟩) (by simp) (fun j y hj => new_cell _ _ _ _ j y rfl hj)
          obtain ⟨w9, hw⟩ : ∃ w0, w0 = w8.alloc (.cells #[.int .i64 6, .string ⟨#[]⟩, .slice (some ⟨w3.heap.size, 0, none⟩) 2 2, .slice none 0 0, .int .i64 0, .int .i64 1, .string ⟨#[105]⟩, .slice none 0 0, .slice none 0 0, .int .i64 0] 26) := ⟨_, rfl⟩
          rw [← hw] at hal hS htr hm hbx ht7 ⊢
          clear hw
          have hB9 := chain hB8 hal
          clear hal
          clear hxl
          refine hKK.out _ _ hS (fun hS => ?_)
          clear hKK KK
          refine wpAnyH_take (i := 4) (v := .agg #[.int .i64 7, .string ⟨#[]⟩, .slice (some ⟨w8.heap.size, 0, none⟩) 2 2, .slice none 0 0, .int .i64 0]) rfl (by kernel_rfl) (by kernel_rfl) (by kernel_rfl) (fun _ _ _ h => h) (Or.inl ⟨by rfl, fun w _ => by go_simp⟩) hS ?_
          simp only [Act.put, List.setIfInBounds_toArray, List.set_cons_zero, List.set_cons_succ]
          refine wpAnyH_ready (rs := [5]) (by kernel_rfl) (by simp) ?_
          refine AllReadyH.cons rfl (fun KK hKK => ?_) AllReadyH.nil
          go_simp
          have hxl := hbx.lt
          have hal := below_alloc w9 (.cells #[.int .i64 7, .string ⟨#[]⟩, .slice (some ⟨w8.heap.size, 0, none⟩) 2 2, .slice none 0 0, .int .i64 0] 26)
          replace hS := hS.bl2 hal
          replace htr := htr.blw hal
          replace hm := hm.blw hal
          replace hbx := hbx.bl2 hal
          replace ht7 := ht7.blw hal
          have ht2 : TrIn (But 0 x) (w9.alloc (.cells #[.int .i64 7, .string ⟨#[]⟩, .slice (some ⟨w8.heap.size, 0, none⟩) 2 2, .slice none 0 0, .int .i64 0] 26)) (.mk 2 [] [wk7] [] 0) (.agg #[.int .i64 2, .string ⟨#[]⟩, .slice (some ⟨w9.heap.size, 0, none⟩) 1 1, .slice none 0 0, .int .i64 0]) := TrIn.one 2 [] [] 0 ht7 (.nil none 0) (⟨Nat.zero_le _, by omega⟩) (by simp) (fun j y hj => new_cell _ _ _ _ j y rfl hj)
          obtain ⟨w10, hw⟩ : ∃ w0, w0 = w9.alloc (.cells #[.int .i64 7, .string ⟨#[]⟩, .slice (some ⟨w8.heap.size, 0, none⟩) 2 2, .slice none 0 0, .int .i64 0] 26) := ⟨_, rfl⟩
          rw [← hw] at hal hS htr hm hbx ht7 ht2 ⊢
          clear hw
          have hB10 := chain hB9 hal
          clear hal
          clear hxl
          refine hKK.out _ _ hS (fun hS => ?_)
          clear hKK KK
          refine wpAnyH_take (i := 6) (v := .agg #[.int .i64 2, .string ⟨#[]⟩, .slice (some ⟨w9.heap.size, 0, none⟩) 1 1, .slice (some ⟨w5.heap.size, 0, none⟩) 1 1, .int .i64 0]) rfl (by kernel_rfl) (by kernel_rfl) (by kernel_rfl) (fun _ _ _ h => h) (Or.inl ⟨by rfl, fun w _ => by go_simp⟩) hS ?_
          simp only [Act.put, List.setIfInBounds_toArray, List.set_cons_zero, List.set_cons_succ]
          refine wpAnyH_ready (rs := [8]) (by kernel_rfl) (by simp) ?_
          refine AllReadyH.cons rfl (fun KK hKK => ?_) AllReadyH.nil
          obtain ⟨c0, c1, c2, c3, c4, f0, f1, f2, f3, f4⟩ := hbx.cells
          go_simp
          clear c0 c1 c2 c3 c4 f0 f1 f2 f3 f4
          have hne : w3.heap.size + 1 ≠ x := by omega
          obtain ⟨w11, hw⟩ : ∃ w0, w0 = ((((w10.setCell ⟨x, 0, none⟩ (.int .i64 2)).setCell ⟨x, 1, none⟩ (.string ⟨#[]⟩)).setCell ⟨x, 2, none⟩ (.slice (some ⟨w9.heap.size, 0, none⟩) 1 1)).setCell ⟨x, 3, none⟩ (.slice (some ⟨w5.heap.size, 0, none⟩) 1 1)).setCell ⟨x, 4, none⟩ (.int .i64 0) := ⟨_, rfl⟩
          rw [← hw]
          have hbx2 : Blk w11 x (.int .i64 2) (.string ⟨#[]⟩) (.slice (some ⟨w9.heap.size, 0, none⟩) 1 1) (.slice (some ⟨w5.heap.size, 0, none⟩) 1 1) (.int .i64 0) := by rw [hw]; exact blk_put w10 x _ _ _ _ _ _ _ _ _ _ hbx
          have htt := rename_names (TrIn.putE ht2 hw) (NmIn.putE hm hw)
          have hB11 : Below w4.heap.size w4 w11 := by rw [hw]; exact ((((hB10.setCell hxg _).setCell hxg _).setCell hxg _).setCell hxg _).setCell hxg _
          replace hS : Blk w11 (w3.heap.size + 1) (.int .i64 6) (.string ⟨#[]⟩) (.slice (some ⟨w3.heap.size, 0, none⟩) 2 2) (.slice none 0 0) (.int .i64 0) := by
            rw [hw]
            unfold Blk at hS ⊢
            rw [heap_put hne, heap_put hne, heap_put hne, heap_put hne, heap_put hne]
            exact hS
          clear hw
          refine hKK.out _ _ hS (fun hS => ?_)
          clear hKK KK
          refine wpAnyH_done (by kernel_rfl) ?_ _
          go_wp2_with fail
          go_meet
          exact ⟨x, _, _, _, _, rfl, hbx2, TrIn.fromB htt, hB11⟩
      · skip
        go_simp
        have hal := below_alloc w6 (.cells #[.int .i64 0, .string ⟨#[]⟩, .slice none 0 0, .slice none 0 0, .int .i64 0] 26)
        have hbx := blk_new w6 (.int .i64 0) (.string ⟨#[]⟩) (.slice none 0 0) (.slice none 0 0) (.int .i64 0)
        have hxg := hB6.size
        replace hS := hS.bl2 hal
        replace htr := TrIn.ahead htr (Nat.le_refl _) hal
        replace hm := NmIn.ahead hm (Nat.le_refl _) hal
        obtain ⟨w7, hw⟩ : ∃ w0, w0 = w6.alloc (.cells #[.int .i64 0, .string ⟨#[]⟩, .slice none 0 0, .slice none 0 0, .int .i64 0] 26) := ⟨_, rfl⟩
        rw [← hw] at hal hS htr hm hbx ⊢
        clear hw
        have hB7 := chain hB6 hal
        clear hal
        obtain ⟨x, hx⟩ : ∃ x, x = w6.heap.size := ⟨_, rfl⟩
        rw [← hx] at hxg htr hm hbx ⊢
        clear hx
        refine hKK.out _ _ hS (fun hS => ?_)
        clear hKK KK
        refine wpAnyH_ready (rs := [2]) (by kernel_rfl) (by simp) ?_
        refine AllReadyH.cons rfl (fun KK hKK => ?_) AllReadyH.nil
        go_simp
        refine (named_any _ _).mono ?_
        rintro e w8 ⟨rfl, hb⟩
        replace hS := hS.bl2 hb
        replace htr := htr.blw hb
        replace hm := hm.blw hb
        replace hbx := hbx.bl2 hb
        have hB8 := chain hB7 hb
        clear hb
        refine hKK.out _ _ hS (fun hS => ?_)
        clear hKK KK
        refine wpAnyH_ready (rs := [3]) (by kernel_rfl) (by simp) ?_
        refine AllReadyH.cons rfl (fun KK hKK => ?_) AllReadyH.nil
        go_simp
        have hxl := hbx.lt
        have hal := below_alloc w8 (.cells #[.int .i64 6, .string ⟨#[]⟩, .slice (some ⟨w3.heap.size, 0, none⟩) 2 2, .slice none 0 0, .int .i64 0, .int .i64 1, .string ⟨#[105]⟩, .slice none 0 0, .slice none 0 0, .int .i64 0] 26)
        replace hS := hS.bl2 hal
        replace htr := htr.blw hal
        replace hm := hm.blw hal
        replace hbx := hbx.bl2 hal
        have ht7 : TrIn (But 0 x) (w8.alloc (.cells #[.int .i64 6, .string ⟨#[]⟩, .slice (some ⟨w3.heap.size, 0, none⟩) 2 2, .slice none 0 0, .int .i64 0, .int .i64 1, .string ⟨#[105]⟩, .slice none 0 0, .slice none 0 0, .int .i64 0] 26)) wk7 (.agg #[.int .i64 7, .string ⟨#[]⟩, .slice (some ⟨w8.heap.size, 0, none⟩) 2 2, .slice none 0 0, .int .i64 0]) := TrIn.pair 7 [] [] 0 htr (.leaf 1 [105] [] 0 none 0 _ (.nil none 0)) (.nil none 0) (⟨Nat.zero_le _, by omega⟩) (by simp) (fun j y hj => new_cell _ _ _ _ j y rfl hj)
        obtain ⟨w9, hw⟩ : ∃ w0, w0 = w8.alloc (.cells #[.int .i64 6, .string ⟨#[]⟩, .slice (some ⟨w3.heap.size, 0, none⟩) 2 2, .slice none 0 0, .int .i64 0, .int .i64 1, .string ⟨#[105]⟩, .slice none 0 0, .slice none 0 0, .int .i64 0] 26) := ⟨_, rfl⟩
        rw [← hw] at hal hS htr hm hbx ht7 ⊢
        clear hw
        have hB9 := chain hB8 hal
        clear hal
        clear hxl
        refine hKK.out _ _ hS (fun hS => ?_)
        clear hKK KK
        refine wpAnyH_take (i := 4) (v := .agg #[.int .i64 7, .string ⟨#[]⟩, .slice (some ⟨w8.heap.size, 0, none⟩) 2 2, .slice none 0 0, .int .i64 0]) rfl (by kernel_rfl) (by kernel_rfl) (by kernel_rfl) (fun _ _ _ h => h) (Or.inl ⟨by rfl, fun w _ => by go_simp⟩) hS ?_
        simp only [Act.put, List.setIfInBounds_toArray, List.set_cons_zero, List.set_cons_succ]
        refine wpAnyH_ready (rs := [5]) (by kernel_rfl) (by simp) ?_
        refine AllReadyH.cons rfl (fun KK hKK => ?_) AllReadyH.nil
        go_simp
        have hxl := hbx.lt
        have hal := below_alloc w9 (.cells #[.int .i64 7, .string ⟨#[]⟩, .slice (some ⟨w8.heap.size, 0, none⟩) 2 2, .slice none 0 0, .int .i64 0] 26)
        replace hS := hS.bl2 hal
        replace htr := htr.blw hal
        replace hm := hm.blw hal
        replace hbx := hbx.bl2 hal
        replace ht7 := ht7.blw hal
        have ht2 : TrIn (But 0 x) (w9.alloc (.cells #[.int .i64 7, .string ⟨#[]⟩, .slice (some ⟨w8.heap.size, 0, none⟩) 2 2, .slice none 0 0, .int .i64 0] 26)) (.mk 2 [] [wk7] [] 0) (.agg #[.int .i64 2, .string ⟨#[]⟩, .slice (some ⟨w9.heap.size, 0, none⟩) 1 1, .slice none 0 0, .int .i64 0]) := TrIn.one 2 [] [] 0 ht7 (.nil none 0) (⟨Nat.zero_le _, by omega⟩) (by simp) (fun j y hj => new_cell _ _ _ _ j y rfl hj)
        obtain ⟨w10, hw⟩ : ∃ w0, w0 = w9.alloc (.cells #[.int .i64 7, .string ⟨#[]⟩, .slice (some ⟨w8.heap.size, 0, none⟩) 2 2, .slice none 0 0, .int .i64 0] 26) := ⟨_, rfl⟩
        rw [← hw] at hal hS htr hm hbx ht7 ht2 ⊢
        clear hw
        have hB10 := chain hB9 hal
        clear hal
        clear hxl
        refine hKK.out _ _ hS (fun hS => ?_)
        clear hKK KK
        refine wpAnyH_take (i := 6) (v := .agg #[.int .i64 2, .string ⟨#[]⟩, .slice (some ⟨w9.heap.size, 0, none⟩) 1 1, .slice (some ⟨w5.heap.size, 0, none⟩) 1 1, .int .i64 0]) rfl (by kernel_rfl) (by kernel_rfl) (by kernel_rfl) (fun _ _ _ h => h) (Or.inl ⟨by rfl, fun w _ => by go_simp⟩) hS ?_
        simp only [Act.put, List.setIfInBounds_toArray, List.set_cons_zero, List.set_cons_succ]
        refine wpAnyH_ready (rs := [8]) (by kernel_rfl) (by simp) ?_
        refine AllReadyH.cons rfl (fun KK hKK => ?_) AllReadyH.nil
        obtain ⟨c0, c1, c2, c3, c4, f0, f1, f2, f3, f4⟩ := hbx.cells
        go_simp
        clear c0 c1 c2 c3 c4 f0 f1 f2 f3 f4
        have hne : w3.heap.size + 1 ≠ x := by omega
        obtain ⟨w11, hw⟩ : ∃ w0, w0 = ((((w10.setCell ⟨x, 0, none⟩ (.int .i64 2)).setCell ⟨x, 1, none⟩ (.string ⟨#[]⟩)).setCell ⟨x, 2, none⟩ (.slice (some ⟨w9.heap.size, 0, none⟩) 1 1)).setCell ⟨x, 3, none⟩ (.slice (some ⟨w5.heap.size, 0, none⟩) 1 1)).setCell ⟨x, 4, none⟩ (.int .i64 0) := ⟨_, rfl⟩
        rw [← hw]
        have hbx2 : Blk w11 x (.int .i64 2) (.string ⟨#[]⟩) (.slice (some ⟨w9.heap.size, 0, none⟩) 1 1) (.slice (some ⟨w5.heap.size, 0, none⟩) 1 1) (.int .i64 0) := by rw [hw]; exact blk_put w10 x _ _ _ _ _ _ _ _ _ _ hbx
        have htt := rename_names (TrIn.putE ht2 hw) (NmIn.putE hm hw)
        have hB11 : Below w4.heap.size w4 w11 := by rw [hw]; exact ((((hB10.setCell hxg _).setCell hxg _).setCell hxg _).setCell hxg _).setCell hxg _
        replace hS : Blk w11 (w3.heap.size + 1) (.int .i64 6) (.string ⟨#[]⟩) (.slice (some ⟨w3.heap.size, 0, none⟩) 2 2) (.slice none 0 0) (.int .i64 0) := by
          rw [hw]
          unfold Blk at hS ⊢
          rw [heap_put hne, heap_put hne, heap_put hne, heap_put hne, heap_put hne]
          exact hS
        clear hw
        refine hKK.out _ _ hS (fun hS => ?_)
        clear hKK KK
        refine wpAnyH_done (by kernel_rfl) ?_ _
        go_wp2_with fail
        go_meet
        exact ⟨x, _, _, _, _, rfl, hbx2, TrIn.fromB htt, hB11⟩
    · skip
      go_simp
      refine (named_any _ _).mono ?_
      rintro e w6 ⟨rfl, hb⟩
      replace hS := hS.bl2 hb
      replace htr := htr.blw hb
      have hB6 := chain hB5 hb
      clear hb
      refine hKK.out _ _ hS (fun hS => ?_)
      clear hKK KK
      refine wpAnyH_ready (rs := [0, 3, 7]) (by kernel_rfl) (by simp) ?_
      refine AllReadyH.cons rfl (fun KK hKK => ?_) (AllReadyH.cons rfl (fun KK hKK => ?_) (AllReadyH.cons rfl (fun KK hKK => ?_) AllReadyH.nil))
      · skip
        go_simp
        have hal := below_alloc w6 (.cells #[.string ⟨#[120]⟩] 9)
        replace hS := hS.bl2 hal
        replace htr := htr.blw hal
        have hm : NmIn (From 0) (w6.alloc (.cells #[.string ⟨#[120]⟩] 9)) [[120]] (.slice (some ⟨w6.heap.size, 0, none⟩) 1 1) := (names_one w6 [120]).keep (Nat.le_refl _) (fun g _ => Nat.zero_le _) (fun _ _ _ => rfl)
        obtain ⟨w7, hw⟩ : ∃ w0, w0 = w6.alloc (.cells #[.string ⟨#[120]⟩] 9) := ⟨_, rfl⟩
        rw [← hw] at hal hS htr hm ⊢
        clear hw
        have hB7 := chain hB6 hal
        clear hal
        refine hKK.out _ _ hS (fun hS => ?_)
        clear hKK KK
        refine wpAnyH_ready (rs := [3, 7]) (by kernel_rfl) (by simp) ?_
        refine AllReadyH.cons rfl (fun KK hKK => ?_) (AllReadyH.cons rfl (fun KK hKK => ?_) AllReadyH.nil)
        · skip
          go_simp
          have hal := below_alloc w7 (.cells #[.int .i64 6, .string ⟨#[]⟩, .slice (some ⟨w3.heap.size, 0, none⟩) 2 2, .slice none 0 0, .int .i64 0, .int .i64 1, .string ⟨#[105]⟩, .slice none 0 0, .slice none 0 0, .int .i64 0] 26)
          replace hS := hS.bl2 hal
          replace htr := htr.blw hal
          replace hm := hm.blw hal
          have ht7 : TrIn (From 0) (w7.alloc (.cells #[.int .i64 6, .string ⟨#[]⟩, .slice (some ⟨w3.heap.size, 0, none⟩) 2 2, .slice none 0 0, .int .i64 0, .int .i64 1, .string ⟨#[105]⟩, .slice none 0 0, .slice none 0 0, .int .i64 0] 26)) wk7 (.agg #[.int .i64 7, .string ⟨#[]⟩, .slice (some ⟨w7.heap.size, 0, none⟩) 2 2, .slice none 0 0, .int .i64 0]) := TrIn.pair 7 [] [] 0 htr (.leaf 1 [105] [] 0 none 0 _ (.nil none 0)) (.nil none 0) (Nat.zero_le _) (by simp) (fun j y hj => new_cell _ _ _ _ j y rfl hj)
          obtain ⟨w8, hw⟩ : ∃ w0, w0 = w7.alloc (.cells #[.int .i64 6, .string ⟨#[]⟩, .slice (some ⟨w3.heap.size, 0, none⟩) 2 2, .slice none 0 0, .int .i64 0, .int .i64 1, .string ⟨#[105]⟩, .slice none 0 0, .slice none 0 0, .int .i64 0] 26) := ⟨_, rfl⟩
          rw [← hw] at hal hS htr hm ht7 ⊢
          clear hw
          have hB8 := chain hB7 hal
          clear hal
          refine hKK.out _ _ hS (fun hS => ?_)
          clear hKK KK
          refine wpAnyH_take (i := 4) (v := .agg #[.int .i64 7, .string ⟨#[]⟩, .slice (some ⟨w7.heap.size, 0, none⟩) 2 2, .slice none 0 0, .int .i64 0]) rfl (by kernel_rfl) (by kernel_rfl) (by kernel_rfl) (fun _ _ _ h => h) (Or.inl ⟨by rfl, fun w _ => by go_simp⟩) hS ?_
          simp only [Act.put, List.setIfInBounds_toArray, List.set_cons_zero, List.set_cons_succ]
          refine wpAnyH_ready (rs := [5, 7]) (by kernel_rfl) (by simp) ?_
          refine AllReadyH.cons rfl (fun KK hKK => ?_) (AllReadyH.cons rfl (fun KK hKK => ?_) AllReadyH.nil)
          · skip
            go_simp
            have hal := below_alloc w8 (.cells #[.int .i64 7, .string ⟨#[]⟩, .slice (some ⟨w7.heap.size, 0, none⟩) 2 2, .slice none 0 0, .int .i64 0] 26)
            replace hS := hS.bl2 hal
            replace htr := htr.blw hal
            replace hm := hm.blw hal
            replace ht7 := ht7.blw hal
            have ht2 : TrIn (From 0) (w8.alloc (.cells #[.int .i64 7, .string ⟨#[]⟩, .slice (some ⟨w7.heap.size, 0, none⟩) 2 2, .slice none 0 0, .int .i64 0] 26)) (.mk 2 [] [wk7] [] 0) (.agg #[.int .i64 2, .string ⟨#[]⟩, .slice (some ⟨w8.heap.size, 0, none⟩) 1 1, .slice none 0 0, .int .i64 0]) := TrIn.one 2 [] [] 0 ht7 (.nil none 0) (Nat.zero_le _) (by simp) (fun j y hj => new_cell _ _ _ _ j y rfl hj)
            obtain ⟨w9, hw⟩ : ∃ w0, w0 = w8.alloc (.cells #[.int .i64 7, .string ⟨#[]⟩, .slice (some ⟨w7.heap.size, 0, none⟩) 2 2, .slice none 0 0, .int .i64 0] 26) := ⟨_, rfl⟩
            rw [← hw] at hal hS htr hm ht7 ht2 ⊢
            clear hw
            have hB9 := chain hB8 hal
            clear hal
            refine hKK.out _ _ hS (fun hS => ?_)
            clear hKK KK
            refine wpAnyH_take (i := 6) (v := .agg #[.int .i64 2, .string ⟨#[]⟩, .slice (some ⟨w8.heap.size, 0, none⟩) 1 1, .slice (some ⟨w6.heap.size, 0, none⟩) 1 1, .int .i64 0]) rfl (by kernel_rfl) (by kernel_rfl) (by kernel_rfl) (fun _ _ _ h => h) (Or.inl ⟨by rfl, fun w _ => by go_simp⟩) hS ?_
            simp only [Act.put, List.setIfInBounds_toArray, List.set_cons_zero, List.set_cons_succ]
            refine wpAnyH_ready (rs := [7]) (by kernel_rfl) (by simp) ?_
            refine AllReadyH.cons rfl (fun KK hKK => ?_) AllReadyH.nil
            go_simp
            have hal := below_alloc w9 (.cells #[.int .i64 0, .string ⟨#[]⟩, .slice none 0 0, .slice none 0 0, .int .i64 0] 26)
            have hbx := blk_new w9 (.int .i64 0) (.string ⟨#[]⟩) (.slice none 0 0) (.slice none 0 0) (.int .i64 0)
            have hxg := hB9.size
            replace hS := hS.bl2 hal
            replace htr := TrIn.ahead htr (Nat.le_refl _) hal
            replace hm := NmIn.ahead hm (Nat.le_refl _) hal
            replace ht7 := TrIn.ahead ht7 (Nat.le_refl _) hal
            replace ht2 := TrIn.ahead ht2 (Nat.le_refl _) hal
            obtain ⟨w10, hw⟩ : ∃ w0, w0 = w9.alloc (.cells #[.int .i64 0, .string ⟨#[]⟩, .slice none 0 0, .slice none 0 0, .int .i64 0] 26) := ⟨_, rfl⟩
            rw [← hw] at hal hS htr hm ht7 ht2 hbx ⊢
            clear hw
            have hB10 := chain hB9 hal
            clear hal
            obtain ⟨x, hx⟩ : ∃ x, x = w9.heap.size := ⟨_, rfl⟩
            rw [← hx] at hxg htr hm ht7 ht2 hbx ⊢
            clear hx
            refine hKK.out _ _ hS (fun hS => ?_)
            clear hKK KK
            refine wpAnyH_ready (rs := [8]) (by kernel_rfl) (by simp) ?_
            refine AllReadyH.cons rfl (fun KK hKK => ?_) AllReadyH.nil
            obtain ⟨c0, c1, c2, c3, c4, f0, f1, f2, f3, f4⟩ := hbx.cells
            go_simp
            clear c0 c1 c2 c3 c4 f0 f1 f2 f3 f4
            have hne : w3.heap.size + 1 ≠ x := by omega
            obtain ⟨w11, hw⟩ : ∃ w0, w0 = ((((w10.setCell ⟨x, 0, none⟩ (.int .i64 2)).setCell ⟨x, 1, none⟩ (.string ⟨#[]⟩)).setCell ⟨x, 2, none⟩ (.slice (some ⟨w8.heap.size, 0, none⟩) 1 1)).setCell ⟨x, 3, none⟩ (.slice (some ⟨w6.heap.size, 0, none⟩) 1 1)).setCell ⟨x, 4, none⟩ (.int .i64 0) := ⟨_, rfl⟩
            rw [← hw]
            have hbx2 : Blk w11 x (.int .i64 2) (.string ⟨#[]⟩) (.slice (some ⟨w8.heap.size, 0, none⟩) 1 1) (.slice (some ⟨w6.heap.size, 0, none⟩) 1 1) (.int .i64 0) := by rw [hw]; exact blk_put w10 x _ _ _ _ _ _ _ _ _ _ hbx
            have htt := rename_names (TrIn.putE ht2 hw) (NmIn.putE hm hw)
            have hB11 : Below w4.heap.size w4 w11 := by rw [hw]; exact ((((hB10.setCell hxg _).setCell hxg _).setCell hxg _).setCell hxg _).setCell hxg _
            replace hS : Blk w11 (w3.heap.size + 1) (.int .i64 6) (.string ⟨#[]⟩) (.slice (some ⟨w3.heap.size, 0, none⟩) 2 2) (.slice none 0 0) (.int .i64 0) := by
              rw [hw]
              unfold Blk at hS ⊢
              rw [heap_put hne, heap_put hne, heap_put hne, heap_put hne, heap_put hne]
              exact hS
            clear hw
            refine hKK.out _ _ hS (fun hS => ?_)
            clear hKK KK
            refine wpAnyH_done (by kernel_rfl) ?_ _
            go_wp2_with fail
            go_meet
            exact ⟨x, _, _, _, _, rfl, hbx2, TrIn.fromB htt, hB11⟩
          · skip
            go_simp
            have hal := below_alloc w8 (.cells #[.int .i64 0, .string ⟨#[]⟩, .slice none 0 0, .slice none 0 0, .int .i64 0] 26)
            have hbx := blk_new w8 (.int .i64 0) (.string ⟨#[]⟩) (.slice none 0 0) (.slice none 0 0) (.int .i64 0)
            have hxg := hB8.size
            replace hS := hS.bl2 hal
            replace htr := TrIn.ahead htr (Nat.le_refl _) hal
            replace hm := NmIn.ahead hm (Nat.le_refl _) hal
            replace ht7 := TrIn.ahead ht7 (Nat.le_refl _) hal
            obtain ⟨w9, hw⟩ : ∃ w0, w0 = w8.alloc (.cells #[.int .i64 0, .string ⟨#[]⟩, .slice none 0 0, .slice none 0 0, .int .i64 0] 26) := ⟨_, rfl⟩
            rw [← hw] at hal hS htr hm ht7 hbx ⊢
            clear hw
            have hB9 := chain hB8 hal
            clear hal
            obtain ⟨x, hx⟩ : ∃ x, x = w8.heap.size := ⟨_, rfl⟩
            rw [← hx] at hxg htr hm ht7 hbx ⊢
            clear hx
            refine hKK.out _ _ hS (fun hS => ?_)
            clear hKK KK
            refine wpAnyH_ready (rs := [5]) (by kernel_rfl) (by simp) ?_
            refine AllReadyH.cons rfl (fun KK hKK => ?_) AllReadyH.nil
            go_simp
            have hxl := hbx.lt
            have hal := below_alloc w9 (.cells #[.int .i64 7, .string ⟨#[]⟩, .slice (some ⟨w7.heap.size, 0, none⟩) 2 2, .slice none 0 0, .int .i64 0] 26)
            replace hS := hS.bl2 hal
            replace htr := htr.blw hal
            replace hm := hm.blw hal
            replace ht7 := ht7.blw hal
            replace hbx := hbx.bl2 hal
            have ht2 : TrIn (But 0 x) (w9.alloc (.cells #[.int .i64 7, .string ⟨#[]⟩, .slice (some ⟨w7.heap.size, 0, none⟩) 2 2, .slice none 0 0, .int .i64 0] 26)) (.mk 2 [] [wk7] [] 0) (.agg #[.int .i64 2, .string ⟨#[]⟩, .slice (some ⟨w9.heap.size, 0, none⟩) 1 1, .slice none 0 0, .int .i64 0]) := TrIn.one 2 [] [] 0 ht7 (.nil none 0) (⟨Nat.zero_le _, by omega⟩) (by simp) (fun j y hj => new_cell _ _ _ _ j y rfl hj)
            obtain ⟨w10, hw⟩ : ∃ w0, w0 = w9.alloc (.cells #[.int .i64 7, .string ⟨#[]⟩, .slice (some ⟨w7.heap.size, 0, none⟩) 2 2, .slice none 0 0, .int .i64 0] 26) := ⟨_, rfl⟩
            rw [← hw] at hal hS htr hm ht7 hbx ht2 ⊢
            clear hw
            have hB10 := chain hB9 hal
            clear hal
            clear hxl
            refine hKK.out _ _ hS (fun hS => ?_)
            clear hKK KK
            refine wpAnyH_take (i := 6) (v := .agg #[.int .i64 2, .string ⟨#[]⟩, .slice (some ⟨w9.heap.size, 0, none⟩) 1 1, .slice (some ⟨w6.heap.size, 0, none⟩) 1 1, .int .i64 0]) rfl (by kernel_rfl) (by kernel_rfl) (by kernel_rfl) (fun _ _ _ h => h) (Or.inl ⟨by rfl, fun w _ => by go_simp⟩) hS ?_
            simp only [Act.put, List.setIfInBounds_toArray, List.set_cons_zero, List.set_cons_succ]
            refine wpAnyH_ready (rs := [8]) (by kernel_rfl) (by simp) ?_
            refine AllReadyH.cons rfl (fun KK hKK => ?_) AllReadyH.nil
            obtain ⟨c0, c1, c2, c3, c4, f0, f1, f2, f3, f4⟩ := hbx.cells
            go_simp
            clear c0 c1 c2 c3 c4 f0 f1 f2 f3 f4
            have hne : w3.heap.size + 1 ≠ x := by omega
            obtain ⟨w11, hw⟩ : ∃ w0, w0 = ((((w10.setCell ⟨x, 0, none⟩ (.int .i64 2)).setCell ⟨x, 1, none⟩ (.string ⟨#[]⟩)).setCell ⟨x, 2, none⟩ (.slice (some ⟨w9.heap.size, 0, none⟩) 1 1)).setCell ⟨x, 3, none⟩ (.slice (some ⟨w6.heap.size, 0, none⟩) 1 1)).setCell ⟨x, 4, none⟩ (.int .i64 0) := ⟨_, rfl⟩
            rw [← hw]
            have hbx2 : Blk w11 x (.int .i64 2) (.string ⟨#[]⟩) (.slice (some ⟨w9.heap.size, 0, none⟩) 1 1) (.slice (some ⟨w6.heap.size, 0, none⟩) 1 1) (.int .i64 0) := by rw [hw]; exact blk_put w10 x _ _ _ _ _ _ _ _ _ _ hbx
            have htt := rename_names (TrIn.putE ht2 hw) (NmIn.putE hm hw)
            have hB11 : Below w4.heap.size w4 w11 := by rw [hw]; exact ((((hB10.setCell hxg _).setCell hxg _).setCell hxg _).setCell hxg _).setCell hxg _
            replace hS : Blk w11 (w3.heap.size + 1) (.int .i64 6) (.string ⟨#[]⟩) (.slice (some ⟨w3.heap.size, 0, none⟩) 2 2) (.slice none 0 0) (.int .i64 0) := by
              rw [hw]
              unfold Blk at hS ⊢
              rw [heap_put hne, heap_put hne, heap_put hne, heap_put hne, heap_put hne]
              exact hS
            clear hw
            refine hKK.out _ _ hS (fun hS => ?_)
            clear hKK KK
            refine wpAnyH_done (by kernel_rfl) ?_ _
            go_wp2_with fail
            go_meet
            exact ⟨x, _, _, _, _, rfl, hbx2, TrIn.fromB htt, hB11⟩
        · skip
          go_simp
          have hal := below_alloc w7 (.cells #[.int .i64 0, .string ⟨#[]⟩, .slice none 0 0, .slice none 0 0, .int .i64 0] 26)
          have hbx := blk_new w7 (.int .i64 0) (.string ⟨#[]⟩) (.slice none 0 0) (.slice none 0 0) (.int .i64 0)
          have hxg := hB7.size
          replace hS := hS.bl2 hal
          replace htr := TrIn.ahead htr (Nat.le_refl _) hal
          replace hm := NmIn.ahead hm (Nat.le_refl _) hal
          obtain ⟨w8, hw⟩ : ∃ w0, w0 = w7.alloc (.cells #[.int .i64 0, .string ⟨#[]⟩, .slice none 0 0, .slice none 0 0, .int .i64 0] 26) := ⟨_, rfl⟩
          rw [← hw] at hal hS htr hm hbx ⊢
          clear hw
          have hB8 := chain hB7 hal
          clear hal
          obtain ⟨x, hx⟩ : ∃ x, x = w7.heap.size := ⟨_, rfl⟩
          rw [← hx] at hxg htr hm hbx ⊢
          clear hx
          refine hKK.out _ _ hS (fun hS => ?_)
          clear hKK KK
          refine wpAnyH_ready (rs := [3]) (by kernel_rfl) (by simp) ?_
          refine AllReadyH.cons rfl (fun KK hKK => ?_) AllReadyH.nil
          go_simp
          have hxl := hbx.lt
          have hal := below_alloc w8 (.cells #[.int .i64 6, .string ⟨#[]⟩, .slice (some ⟨w3.heap.size, 0, none⟩) 2 2, .slice none 0 0, .int .i64 0, .int .i64 1, .string ⟨#[105]⟩, .slice none 0 0, .slice none 0 0, .int .i64 0] 26)
          replace hS := hS.bl2 hal
          replace htr := htr.blw hal
          replace hm := hm.blw hal
          replace hbx := hbx.bl2 hal
          have ht7 : TrIn (But 0 x) (w8.alloc (.cells #[.int .i64 6, .string ⟨#[]⟩, .slice (some ⟨w3.heap.size, 0, none⟩) 2 2, .slice none 0 0, .int .i64 0, .int .i64 1, .string ⟨#[105]⟩, .slice none 0 0, .slice none 0 0, .int .i64 0] 26)) wk7 (.agg #[.int .i64 7, .string ⟨#[]⟩, .slice (some ⟨w8.heap.size, 0, none⟩) 2 2, .slice none 0 0, .int .i64 0]) := TrIn.pair 7 [] [] 0 htr (.leaf 1 [105] [] 0 none 0 _ (.nil none 0)) (.nil none 0) (⟨Nat.zero_le _, by omega⟩) (by simp) (fun j y hj => new_cell _ _ _ _ j y rfl hj)
          obtain ⟨w9, hw⟩ : ∃ w0, w0 = w8.alloc (.cells #[.int .i64 6, .string ⟨#[]⟩, .slice (some ⟨w3.heap.size, 0, none⟩) 2 2, .slice none 0 0, .int .i64 0, .int .i64 1, .string ⟨#[105]⟩, .slice none 0 0, .slice none 0 0, .int .i64 0] 26) := ⟨_, rfl⟩
          rw [← hw] at hal hS htr hm hbx ht7 ⊢
          clear hw
          have hB9 := chain hB8 hal
          clear hal
          clear hxl
          refine hKK.out _ _ hS (fun hS => ?_)
          clear hKK KK
          refine wpAnyH_take (i := 4) (v := .agg #[.int .i64 7, .string ⟨#[]⟩, .slice (some ⟨w8.heap.size, 0, none⟩) 2 2, .slice none 0 0, .int .i64 0]) rfl (by kernel_rfl) (by kernel_rfl) (by kernel_rfl) (fun _ _ _ h => h) (Or.inl ⟨by rfl, fun w _ => by go_simp⟩) hS ?_
          simp only [Act.put, List.setIfInBounds_toArray, List.set_cons_zero, List.set_cons_succ]
          refine wpAnyH_ready (rs := [5]) (by kernel_rfl) (by simp) ?_
          refine AllReadyH.cons rfl (fun KK hKK => ?_) AllReadyH.nil
          go_simp
          have hxl := hbx.lt
          have hal := below_alloc w9 (.cells #[.int .i64 7, .string ⟨#[]⟩, .slice (some ⟨w8.heap.size, 0, none⟩) 2 2, .slice none 0 0, .int .i64 0] 26)
          replace hS := hS.bl2 hal
          replace htr := htr.blw hal
          replace hm := hm.blw hal
          replace hbx := hbx.bl2 hal
          replace ht7 := ht7.blw hal
          have ht2 : TrIn (But 0 x) (w9.alloc (.cells #[.int .i64 7, .string ⟨#[]⟩, .slice (some ⟨w8.heap.size, 0, none⟩) 2 2, .slice none 0 0, .int .i64 0] 26)) (.mk 2 [] [wk7] [] 0) (.agg #[.int .i64 2, .string ⟨#[]⟩, .slice (some ⟨w9.heap.size, 0, none⟩) 1 1, .slice none 0 0, .int .i64 0]) := TrIn.one 2 [] [] 0 ht7 (.nil none 0) (⟨Nat.zero_le _, by omega⟩) (by simp) (fun j y hj => new_cell _ _ _ _ j y rfl hj)
          obtain ⟨w10, hw⟩ : ∃ w0, w0 = w9.alloc (.cells #[.int .i64 7, .string ⟨#[]⟩, .slice (some ⟨w8.heap.size, 0, none⟩) 2 2, .slice none 0 0, .int .i64 0] 26) := ⟨_, rfl⟩
          rw [← hw] at hal hS htr hm hbx ht7 ht2 ⊢
          clear hw
          have hB10 := chain hB9 hal
          clear hal
          clear hxl
          refine hKK.out _ _ hS (fun hS => ?_)
          clear hKK KK
          refine wpAnyH_take (i := 6) (v := .agg #[.int .i64 2, .string ⟨#[]⟩, .slice (some ⟨w9.heap.size, 0, none⟩) 1 1, .slice (some ⟨w6.heap.size, 0, none⟩) 1 1, .int .i64 0]) rfl (by kernel_rfl) (by kernel_rfl) (by kernel_rfl) (fun _ _ _ h => h) (Or.inl ⟨by rfl, fun w _ => by go_simp⟩) hS ?_
          simp only [Act.put, List.setIfInBounds_toArray, List.set_cons_zero, List.set_cons_succ]
          refine wpAnyH_ready (rs := [8]) (by kernel_rfl) (by simp) ?_
          refine AllReadyH.cons rfl (fun KK hKK => ?_) AllReadyH.nil
          obtain ⟨c0, c1, c2, c3, c4, f0, f1, f2, f3, f4⟩ := hbx.cells
          go_simp
          clear c0 c1 c2 c3 c4 f0 f1 f2 f3 f4
          have hne : w3.heap.size + 1 ≠ x := by omega
          obtain ⟨w11, hw⟩ : ∃ w0, w0 = ((((w10.setCell ⟨x, 0, none⟩ (.int .i64 2)).setCell ⟨x, 1, none⟩ (.string ⟨#[]⟩)).setCell ⟨x, 2, none⟩ (.slice (some ⟨w9.heap.size, 0, none⟩) 1 1)).setCell ⟨x, 3, none⟩ (.slice (some ⟨w6.heap.size, 0, none⟩) 1 1)).setCell ⟨x, 4, none⟩ (.int .i64 0) := ⟨_, rfl⟩
          rw [← hw]
          have hbx2 : Blk w11 x (.int .i64 2) (.string ⟨#[]⟩) (.slice (some ⟨w9.heap.size, 0, none⟩) 1 1) (.slice (some ⟨w6.heap.size, 0, none⟩) 1 1) (.int .i64 0) := by rw [hw]; exact blk_put w10 x _ _ _ _ _ _ _ _ _ _ hbx
          have htt := rename_names (TrIn.putE ht2 hw) (NmIn.putE hm hw)
          have hB11 : Below w4.heap.size w4 w11 := by rw [hw]; exact ((((hB10.setCell hxg _).setCell hxg _).setCell hxg _).setCell hxg _).setCell hxg _
          replace hS : Blk w11 (w3.heap.size + 1) (.int .i64 6) (.string ⟨#[]⟩) (.slice (some ⟨w3.heap.size, 0, none⟩) 2 2) (.slice none 0 0) (.int .i64 0) := by
            rw [hw]
            unfold Blk at hS ⊢
            rw [heap_put hne, heap_put hne, heap_put hne, heap_put hne, heap_put hne]
            exact hS
          clear hw
          refine hKK.out _ _ hS (fun hS => ?_)
          clear hKK KK
          refine wpAnyH_done (by kernel_rfl) ?_ _
          go_wp2_with fail
          go_meet
          exact ⟨x, _, _, _, _, rfl, hbx2, TrIn.fromB htt, hB11⟩
      · skip
        go_simp
        have hal := below_alloc w6 (.cells #[.int .i64 6, .string ⟨#[]⟩, .slice (some ⟨w3.heap.size, 0, none⟩) 2 2, .slice none 0 0, .int .i64 0, .int .i64 1, .string ⟨#[105]⟩, .slice none 0 0, .slice none 0 0, .int .i64 0] 26)
        replace hS := hS.bl2 hal
        replace htr := htr.blw hal
        have ht7 : TrIn (From 0) (w6.alloc (.cells #[.int .i64 6, .string ⟨#[]⟩, .slice (some ⟨w3.heap.size, 0, none⟩) 2 2, .slice none 0 0, .int .i64 0, .int .i64 1, .string ⟨#[105]⟩, .slice none 0 0, .slice none 0 0, .int .i64 0] 26)) wk7 (.agg #[.int .i64 7, .string ⟨#[]⟩, .slice (some ⟨w6.heap.size, 0, none⟩) 2 2, .slice none 0 0, .int .i64 0]) := TrIn.pair 7 [] [] 0 htr (.leaf 1 [105] [] 0 none 0 _ (.nil none 0)) (.nil none 0) (Nat.zero_le _) (by simp) (fun j y hj => new_cell _ _ _ _ j y rfl hj)
        obtain ⟨w7, hw⟩ : ∃ w0, w0 = w6.alloc (.cells #[.int .i64 6, .string ⟨#[]⟩, .slice (some ⟨w3.heap.size, 0, none⟩) 2 2, .slice none 0 0, .int .i64 0, .int .i64 1, .string ⟨#[105]⟩, .slice none 0 0, .slice none 0 0, .int .i64 0] 26) := ⟨_, rfl⟩
        rw [← hw] at hal hS htr ht7 ⊢
        clear hw
        have hB7 := chain hB6 hal
        clear hal
        refine hKK.out _ _ hS (fun hS => ?_)
        clear hKK KK
        refine wpAnyH_take (i := 4) (v := .agg #[.int .i64 7, .string ⟨#[]⟩, .slice (some ⟨w6.heap.size, 0, none⟩) 2 2, .slice none 0 0, .int .i64 0]) rfl (by kernel_rfl) (by kernel_rfl) (by kernel_rfl) (fun _ _ _ h => h) (Or.inl ⟨by rfl, fun w _ => by go_simp⟩) hS ?_
        simp only [Act.put, List.setIfInBounds_toArray, List.set_cons_zero, List.set_cons_succ]
        refine wpAnyH_ready (rs := [0, 5, 7]) (by kernel_rfl) (by simp) ?_
        refine AllReadyH.cons rfl (fun KK hKK => ?_) (AllReadyH.cons rfl (fun KK hKK => ?_) (AllReadyH.cons rfl (fun KK hKK => ?_) AllReadyH.nil))
        · skip
          go_simp
          have hal := below_alloc w7 (.cells #[.string ⟨#[120]⟩] 9)
          replace hS := hS.bl2 hal
          replace htr := htr.blw hal
          replace ht7 := ht7.blw hal
          have hm : NmIn (From 0) (w7.alloc (.cells #[.string ⟨#[120]⟩] 9)) [[120]] (.slice (some ⟨w7.heap.size, 0, none⟩) 1 1) := (names_one w7 [120]).keep (Nat.le_refl _) (fun g _ => Nat.zero_le _) (fun _ _ _ => rfl)
          obtain ⟨w8, hw⟩ : ∃ w0, w0 = w7.alloc (.cells #[.string ⟨#[120]⟩] 9) := ⟨_, rfl⟩
          rw [← hw] at hal hS htr ht7 hm ⊢
          clear hw
          have hB8 := chain hB7 hal
          clear hal
          refine hKK.out _ _ hS (fun hS => ?_)
          clear hKK KK
          refine wpAnyH_ready (rs := [5, 7]) (by kernel_rfl) (by simp) ?_
          refine AllReadyH.cons rfl (fun KK hKK => ?_) (AllReadyH.cons rfl (fun KK hKK => ?_) AllReadyH.nil)
          · skip
            go_simp
            have hal := below_alloc w8 (.cells #[.int .i64 7, .string ⟨#[]⟩, .slice (some ⟨w6.heap.size, 0, none⟩) 2 2, .slice none 0 0, .int .i64 0] 26)
            replace hS := hS.bl2 hal
            replace htr := htr.blw hal
            replace ht7 := ht7.blw hal
            replace hm := hm.blw hal
            have ht2 : TrIn (From 0) (w8.alloc (.cells #[.int .i64 7, .string ⟨#[]⟩, .slice (some ⟨w6.heap.size, 0, none⟩) 2 2, .slice none 0 0, .int .i64 0] 26)) (.mk 2 [] [wk7] [] 0) (.agg #[.int .i64 2, .string ⟨#[]⟩, .slice (some ⟨w8.heap.size, 0, none⟩) 1 1, .slice none 0 0, .int .i64 0]) := TrIn.one 2 [] [] 0 ht7 (.nil none 0) (Nat.zero_le _) (by simp) (fun j y hj => new_cell _ _ _ _ j y rfl hj)
            obtain ⟨w9, hw⟩ : ∃ w0, w0 = w8.alloc (.cells #[.int .i64 7, .string ⟨#[]⟩, .slice (some ⟨w6.heap.size, 0, none⟩) 2 2, .slice none 0 0, .int .i64 0] 26) := ⟨_, rfl⟩
            rw [← hw] at hal hS htr ht7 hm ht2 ⊢
            clear hw
            have hB9 := chain hB8 hal
            clear hal
            refine hKK.out _ _ hS (fun hS => ?_)
            clear hKK KK
            refine wpAnyH_take (i := 6) (v := .agg #[.int .i64 2, .string ⟨#[]⟩, .slice (some ⟨w8.heap.size, 0, none⟩) 1 1, .slice (some ⟨w7.heap.size, 0, none⟩) 1 1, .int .i64 0]) rfl (by kernel_rfl) (by kernel_rfl) (by kernel_rfl) (fun _ _ _ h => h) (Or.inl ⟨by rfl, fun w _ => by go_simp⟩) hS ?_
            simp only [Act.put, List.setIfInBounds_toArray, List.set_cons_zero, List.set_cons_succ]
            refine wpAnyH_ready (rs := [7]) (by kernel_rfl) (by simp) ?_
            refine AllReadyH.cons rfl (fun KK hKK => ?_) AllReadyH.nil
            go_simp
            have hal := below_alloc w9 (.cells #[.int .i64 0, .string ⟨#[]⟩, .slice none 0 0, .slice none 0 0, .int .i64 0] 26)
            have hbx := blk_new w9 (.int .i64 0) (.string ⟨#[]⟩) (.slice none 0 0) (.slice none 0 0) (.int .i64 0)
            have hxg := hB9.size
            replace hS := hS.bl2 hal
            replace htr := TrIn.ahead htr (Nat.le_refl _) hal
            replace ht7 := TrIn.ahead ht7 (Nat.le_refl _) hal
            replace hm := NmIn.ahead hm (Nat.le_refl _) hal
            replace ht2 := TrIn.ahead ht2 (Nat.le_refl _) hal
            obtain ⟨w10, hw⟩ : ∃ w0, w0 = w9.alloc (.cells #[.int .i64 0, .string ⟨#[]⟩, .slice none 0 0, .slice none 0 0, .int .i64 0] 26) := ⟨_, rfl⟩
            rw [← hw] at hal hS htr ht7 hm ht2 hbx ⊢
            clear hw
            have hB10 := chain hB9 hal
            clear hal
            obtain ⟨x, hx⟩ : ∃ x, x = w9.heap.size := ⟨_, rfl⟩
            rw [← hx] at hxg htr ht7 hm ht2 hbx ⊢
            clear hx
            refine hKK.out _ _ hS (fun hS => ?_)
            clear hKK KK
            refine wpAnyH_ready (rs := [8]) (by kernel_rfl) (by simp) ?_
            refine AllReadyH.cons rfl (fun KK hKK => ?_) AllReadyH.nil
            obtain ⟨c0, c1, c2, c3, c4, f0, f1, f2, f3, f4⟩ := hbx.cells
            go_simp
            clear c0 c1 c2 c3 c4 f0 f1 f2 f3 f4
            have hne : w3.heap.size + 1 ≠ x := by omega
            obtain ⟨w11, hw⟩ : ∃ w0, w0 = ((((w10.setCell ⟨x, 0, none⟩ (.int .i64 2)).setCell ⟨x, 1, none⟩ (.string ⟨#[]⟩)).setCell ⟨x, 2, none⟩ (.slice (some ⟨w8.heap.size, 0, none⟩) 1 1)).setCell ⟨x, 3, none⟩ (.slice (some ⟨w7.heap.size, 0, none⟩) 1 1)).setCell ⟨x, 4, none⟩ (.int .i64 0) := ⟨_, rfl⟩
            rw [← hw]
            have hbx2 : Blk w11 x (.int .i64 2) (.string ⟨#[]⟩) (.slice (some ⟨w8.heap.size, 0, none⟩) 1 1) (.slice (some ⟨w7.heap.size, 0, none⟩) 1 1) (.int .i64 0) := by rw [hw]; exact blk_put w10 x _ _ _ _ _ _ _ _ _ _ hbx
            have htt := rename_names (TrIn.putE ht2 hw) (NmIn.putE hm hw)
            have hB11 : Below w4.heap.size w4 w11 := by rw [hw]; exact ((((hB10.setCell hxg _).setCell hxg _).setCell hxg _).setCell hxg _).setCell hxg _
            replace hS : Blk w11 (w3.heap.size + 1) (.int .i64 6) (.string ⟨#[]⟩) (.slice (some ⟨w3.heap.size, 0, none⟩) 2 2) (.slice none 0 0) (.int .i64 0) := by
              rw [hw]
              unfold Blk at hS ⊢
              rw [heap_put hne, heap_put hne, heap_put hne, heap_put hne, heap_put hne]
              exact hS
            clear hw
            refine hKK.out _ _ hS (fun hS => ?_)
            clear hKK KK
            refine wpAnyH_done (by kernel_rfl) ?_ _
            go_wp2_with fail
            go_meet
            exact ⟨x, _, _, _, _, rfl, hbx2, TrIn.fromB htt, hB11⟩
          · skip
            go_simp
            have hal := below_alloc w8 (.cells #[.int .i64 0, .string ⟨#[]⟩, .slice none 0 0, .slice none 0 0, .int .i64 0] 26)
            have hbx := blk_new w8 (.int .i64 0) (.string ⟨#[]⟩) (.slice none 0 0) (.slice none 0 0) (.int .i64 0)
            have hxg := hB8.size
            replace hS := hS.bl2 hal
            replace htr := TrIn.ahead htr (Nat.le_refl _) hal
            replace ht7 := TrIn.ahead ht7 (Nat.le_refl _) hal
            replace hm := NmIn.ahead hm (Nat.le_refl _) hal
            obtain ⟨w9, hw⟩ : ∃ w0, w0 = w8.alloc (.cells #[.int .i64 0, .string ⟨#[]⟩, .slice none 0 0, .slice none 0 0, .int .i64 0] 26) := ⟨_, rfl⟩
            rw [← hw] at hal hS htr ht7 hm hbx ⊢
            clear hw
            have hB9 := chain hB8 hal
            clear hal
            obtain ⟨x, hx⟩ : ∃ x, x = w8.heap.size := ⟨_, rfl⟩
            rw [← hx] at hxg htr ht7 hm hbx ⊢
            clear hx
            refine hKK.out _ _ hS (fun hS => ?_)
            clear hKK KK
            refine wpAnyH_ready (rs := [5]) (by kernel_rfl) (by simp) ?_
            refine AllReadyH.cons rfl (fun KK hKK => ?_) AllReadyH.nil
            go_simp
            have hxl := hbx.lt
            have hal := below_alloc w9 (.cells #[.int .i64 7, .string ⟨#[]⟩, .slice (some ⟨w6.heap.size, 0, none⟩) 2 2, .slice none 0 0, .int .i64 0] 26)
            replace hS := hS.bl2 hal
            replace htr := htr.blw hal
            replace ht7 := ht7.blw hal
            replace hm := hm.blw hal
            replace hbx := hbx.bl2 hal
            have ht2 : TrIn (But 0 x) (w9.alloc (.cells #[.int .i64 7, .string ⟨#[]⟩, .slice (some ⟨w6.heap.size, 0, none⟩) 2 2, .slice none 0 0, .int .i64 0] 26)) (.mk 2 [] [wk7] [] 0) (.agg #[.int .i64 2, .string ⟨#[]⟩, .slice (some ⟨w9.heap.size, 0, none⟩) 1 1, .slice none 0 0, .int .i64 0]) := TrIn.one 2 [] [] 0 ht7 (.nil none 0) (⟨Nat.zero_le _, by omega⟩) (by simp) (fun j y hj => new_cell _ _ _ _ j y rfl hj)
            obtain ⟨w10, hw⟩ : ∃ w0, w0 = w9.alloc (.cells #[.int .i64 7, .string ⟨#[]⟩, .slice (some ⟨w6.heap.size, 0, none⟩) 2 2, .slice none 0 0, .int .i64 0] 26) := ⟨_, rfl⟩
            rw [← hw] at hal hS htr ht7 hm hbx ht2 ⊢
            clear hw
            have hB10 := chain hB9 hal
            clear hal
            clear hxl
            refine hKK.out _ _ hS (fun hS => ?_)
            clear hKK KK
            refine wpAnyH_take (i := 6) (v := .agg #[.int .i64 2, .string ⟨#[]⟩, .slice (some ⟨w9.heap.size, 0, none⟩) 1 1, .slice (some ⟨w7.heap.size, 0, none⟩) 1 1, .int .i64 0]) rfl (by kernel_rfl) (by kernel_rfl) (by kernel_rfl) (fun _ _ _ h => h) (Or.inl ⟨by rfl, fun w _ => by go_simp⟩) hS ?_
            simp only [Act.put, List.setIfInBounds_toArray, List.set_cons_zero, List.set_cons_succ]
            refine wpAnyH_ready (rs := [8]) (by kernel_rfl) (by simp) ?_
            refine AllReadyH.cons rfl (fun KK hKK => ?_) AllReadyH.nil
            obtain ⟨c0, c1, c2, c3, c4, f0, f1, f2, f3, f4⟩ := hbx.cells
            go_simp
            clear c0 c1 c2 c3 c4 f0 f1 f2 f3 f4
            have hne : w3.heap.size + 1 ≠ x := by omega
            obtain ⟨w11, hw⟩ : ∃ w0, w0 = ((((w10.setCell ⟨x, 0, none⟩ (.int .i64 2)).setCell ⟨x, 1, none⟩ (.string ⟨#[]⟩)).setCell ⟨x, 2, none⟩ (.slice (some ⟨w9.heap.size, 0, none⟩) 1 1)).setCell ⟨x, 3, none⟩ (.slice (some ⟨w7.heap.size, 0, none⟩) 1 1)).setCell ⟨x, 4, none⟩ (.int .i64 0) := ⟨_, rfl⟩
            rw [← hw]
            have hbx2 : Blk w11 x (.int .i64 2) (.string ⟨#[]⟩) (.slice (some ⟨w9.heap.size, 0, none⟩) 1 1) (.slice (some ⟨w7.heap.size, 0, none⟩) 1 1) (.int .i64 0) := by rw [hw]; exact blk_put w10 x _ _ _ _ _ _ _ _ _ _ hbx
            have htt := rename_names (TrIn.putE ht2 hw) (NmIn.putE hm hw)
            have hB11 : Below w4.heap.size w4 w11 := by rw [hw]; exact ((((hB10.setCell hxg _).setCell hxg _).setCell hxg _).setCell hxg _).setCell hxg _
            replace hS : Blk w11 (w3.heap.size + 1) (.int .i64 6) (.string ⟨#[]⟩) (.slice (some ⟨w3.heap.size, 0, none⟩) 2 2) (.slice none 0 0) (.int .i64 0) := by
              rw [hw]
              unfold Blk at hS ⊢
              rw [heap_put hne, heap_put hne, heap_put hne, heap_put hne, heap_put hne]
              exact hS
            clear hw
            refine hKK.out _ _ hS (fun hS => ?_)
            clear hKK KK
            refine wpAnyH_done (by kernel_rfl) ?_ _
            go_wp2_with fail
            go_meet
            exact ⟨x, _, _, _, _, rfl, hbx2, TrIn.fromB htt, hB11⟩
        · skip
          go_simp
          have hal := below_alloc w7 (.cells #[.int .i64 7, .string ⟨#[]⟩, .slice (some ⟨w6.heap.size, 0, none⟩) 2 2, .slice none 0 0, .int .i64 0] 26)
          replace hS := hS.bl2 hal
          replace htr := htr.blw hal
          replace ht7 := ht7.blw hal
          have ht2 : TrIn (From 0) (w7.alloc (.cells #[.int .i64 7, .string ⟨#[]⟩, .slice (some ⟨w6.heap.size, 0, none⟩) 2 2, .slice none 0 0, .int .i64 0] 26)) (.mk 2 [] [wk7] [] 0) (.agg #[.int .i64 2, .string ⟨#[]⟩, .slice (some ⟨w7.heap.size, 0, none⟩) 1 1, .slice none 0 0, .int .i64 0]) := TrIn.one 2 [] [] 0 ht7 (.nil none 0) (Nat.zero_le _) (by simp) (fun j y hj => new_cell _ _ _ _ j y rfl hj)
          obtain ⟨w8, hw⟩ : ∃ w0, w0 = w7.alloc (.cells #[.int .i64 7, .string ⟨#[]⟩, .slice (some ⟨w6.heap.size, 0, none⟩) 2 2, .slice none 0 0, .int .i64 0] 26) := ⟨_, rfl⟩
          rw [← hw] at hal hS htr ht7 ht2 ⊢
          clear hw
          have hB8 := chain hB7 hal
          clear hal
          refine hKK.out _ _ hS (fun hS => ?_)
          clear hKK KK
          refine wpAnyH_ready (rs := [0, 7]) (by kernel_rfl) (by simp) ?_
          refine AllReadyH.cons rfl (fun KK hKK => ?_) (AllReadyH.cons rfl (fun KK hKK => ?_) AllReadyH.nil)
          · skip
            go_simp
            have hal := below_alloc w8 (.cells #[.string ⟨#[120]⟩] 9)
            replace hS := hS.bl2 hal
            replace htr := htr.blw hal
            replace ht7 := ht7.blw hal
            replace ht2 := ht2.blw hal
            have hm : NmIn (From 0) (w8.alloc (.cells #[.string ⟨#[120]⟩] 9)) [[120]] (.slice (some ⟨w8.heap.size, 0, none⟩) 1 1) := (names_one w8 [120]).keep (Nat.le_refl _) (fun g _ => Nat.zero_le _) (fun _ _ _ => rfl)
            obtain ⟨w9, hw⟩ : ∃ w0, w0 = w8.alloc (.cells #[.string ⟨#[120]⟩] 9) := ⟨_, rfl⟩
            rw [← hw] at hal hS htr ht7 ht2 hm ⊢
            clear hw
            have hB9 := chain hB8 hal
            clear hal
            refine hKK.out _ _ hS (fun hS => ?_)
            clear hKK KK
            refine wpAnyH_take (i := 6) (v := .agg #[.int .i64 2, .string ⟨#[]⟩, .slice (some ⟨w7.heap.size, 0, none⟩) 1 1, .slice (some ⟨w8.heap.size, 0, none⟩) 1 1, .int .i64 0]) rfl (by kernel_rfl) (by kernel_rfl) (by kernel_rfl) (fun _ _ _ h => h) (Or.inl ⟨by rfl, fun w _ => by go_simp⟩) hS ?_
            simp only [Act.put, List.setIfInBounds_toArray, List.set_cons_zero, List.set_cons_succ]
            refine wpAnyH_ready (rs := [7]) (by kernel_rfl) (by simp) ?_
            refine AllReadyH.cons rfl (fun KK hKK => ?_) AllReadyH.nil
            go_simp
            have hal := below_alloc w9 (.cells #[.int .i64 0, .string ⟨#[]⟩, .slice none 0 0, .slice none 0 0, .int .i64 0] 26)
            have hbx := blk_new w9 (.int .i64 0) (.string ⟨#[]⟩) (.slice none 0 0) (.slice none 0 0) (.int .i64 0)
            have hxg := hB9.size
            replace hS := hS.bl2 hal
            replace htr := TrIn.ahead htr (Nat.le_refl _) hal
            replace ht7 := TrIn.ahead ht7 (Nat.le_refl _) hal
            replace ht2 := TrIn.ahead ht2 (Nat.le_refl _) hal
            replace hm := NmIn.ahead hm (Nat.le_refl _) hal
            obtain ⟨w10, hw⟩ : ∃ w0, w0 = w9.alloc (.cells #[.int .i64 0, .string ⟨#[]⟩, .slice none 0 0, .slice none 0 0, .int .i64 0] 26) := ⟨_, rfl⟩
            rw [← hw] at hal hS htr ht7 ht2 hm hbx ⊢
            clear hw
            have hB10 := chain hB9 hal
            clear hal
            obtain ⟨x, hx⟩ : ∃ x, x = w9.heap.size := ⟨_, rfl⟩
            rw [← hx] at hxg htr ht7 ht2 hm hbx ⊢
            clear hx
            refine hKK.out _ _ hS (fun hS => ?_)
            clear hKK KK
            refine wpAnyH_ready (rs := [8]) (by kernel_rfl) (by simp) ?_
            refine AllReadyH.cons rfl (fun KK hKK => ?_) AllReadyH.nil
            obtain ⟨c0, c1, c2, c3, c4, f0, f1, f2, f3, f4⟩ := hbx.cells
            go_simp
            clear c0 c1 c2 c3 c4 f0 f1 f2 f3 f4
            have hne : w3.heap.size + 1 ≠ x := by omega
            obtain ⟨w11, hw⟩ : ∃ w0, w0 = ((((w10.setCell ⟨x, 0, none⟩ (.int .i64 2)).setCell ⟨x, 1, none⟩ (.string ⟨#[]⟩)).setCell ⟨x, 2, none⟩ (.slice (some ⟨w7.heap.size, 0, none⟩) 1 1)).setCell ⟨x, 3, none⟩ (.slice (some ⟨w8.heap.size, 0, none⟩) 1 1)).setCell ⟨x, 4, none⟩ (.int .i64 0) := ⟨_, rfl⟩
            rw [← hw]
            have hbx2 : Blk w11 x (.int .i64 2) (.string ⟨#[]⟩) (.slice (some ⟨w7.heap.size, 0, none⟩) 1 1) (.slice (some ⟨w8.heap.size, 0, none⟩) 1 1) (.int .i64 0) := by rw [hw]; exact blk_put w10 x _ _ _ _ _ _ _ _ _ _ hbx
            have htt := rename_names (TrIn.putE ht2 hw) (NmIn.putE hm hw)
            have hB11 : Below w4.heap.size w4 w11 := by rw [hw]; exact ((((hB10.setCell hxg _).setCell hxg _).setCell hxg _).setCell hxg _).setCell hxg _
            replace hS : Blk w11 (w3.heap.size + 1) (.int .i64 6) (.string ⟨#[]⟩) (.slice (some ⟨w3.heap.size, 0, none⟩) 2 2) (.slice none 0 0) (.int .i64 0) := by
              rw [hw]
              unfold Blk at hS ⊢
              rw [heap_put hne, heap_put hne, heap_put hne, heap_put hne, heap_put hne]
              exact hS
            clear hw
            refine hKK.out _ _ hS (fun hS => ?_)
            clear hKK KK
            refine wpAnyH_done (by kernel_rfl) ?_ _
            go_wp2_with fail
            go_meet
            exact ⟨x, _, _, _, _, rfl, hbx2, TrIn.fromB htt, hB11⟩
          · skip
            go_simp
            have hal := below_alloc w8 (.cells #[.int .i64 0, .string ⟨#[]⟩, .slice none 0 0, .slice none 0 0, .int .i64 0] 26)
            have hbx := blk_new w8 (.int .i64 0) (.string ⟨#[]⟩) (.slice none 0 0) (.slice none 0 0) (.int .i64 0)
            have hxg := hB8.size
            replace hS := hS.bl2 hal
            replace htr := TrIn.ahead htr (Nat.le_refl _) hal
            replace ht7 := TrIn.ahead ht7 (Nat.le_refl _) hal
            replace ht2 := TrIn.ahead ht2 (Nat.le_refl _) hal
            obtain ⟨w9, hw⟩ : ∃ w0, w0 = w8.alloc (.cells #[.int .i64 0, .string ⟨#[]⟩, .slice none 0 0, .slice none 0 0, .int .i64 0] 26) := ⟨_, rfl⟩
            rw [← hw] at hal hS htr ht7 ht2 hbx ⊢
            clear hw
            have hB9 := chain hB8 hal
            clear hal
            obtain ⟨x, hx⟩ : ∃ x, x = w8.heap.size := ⟨_, rfl⟩
            rw [← hx] at hxg htr ht7 ht2 hbx ⊢
            clear hx
            refine hKK.out _ _ hS (fun hS => ?_)
            clear hKK KK
            refine wpAnyH_ready (rs := [0]) (by kernel_rfl) (by simp) ?_
            refine AllReadyH.cons rfl (fun KK hKK => ?_) AllReadyH.nil
            go_simp
            have hxl := hbx.lt
            have hal := below_alloc w9 (.cells #[.string ⟨#[120]⟩] 9)
            replace hS := hS.bl2 hal
            replace htr := htr.blw hal
            replace ht7 := ht7.blw hal
            replace ht2 := ht2.blw hal
            replace hbx := hbx.bl2 hal
            have hm : NmIn (But 0 x) (w9.alloc (.cells #[.string ⟨#[120]⟩] 9)) [[120]] (.slice (some ⟨w9.heap.size, 0, none⟩) 1 1) := (names_one w9 [120]).keep (Nat.le_refl _) (fun g hg => ⟨Nat.zero_le _, by have h : w9.heap.size ≤ g := hg; omega⟩) (fun _ _ _ => rfl)
            obtain ⟨w10, hw⟩ : ∃ w0, w0 = w9.alloc (.cells #[.string ⟨#[120]⟩] 9) := ⟨_, rfl⟩
            rw [← hw] at hal hS htr ht7 ht2 hbx hm ⊢
            clear hw
            have hB10 := chain hB9 hal
            clear hal
            clear hxl
            refine hKK.out _ _ hS (fun hS => ?_)
            clear hKK KK
            refine wpAnyH_take (i := 6) (v := .agg #[.int .i64 2, .string ⟨#[]⟩, .slice (some ⟨w7.heap.size, 0, none⟩) 1 1, .slice (some ⟨w9.heap.size, 0, none⟩) 1 1, .int .i64 0]) rfl (by kernel_rfl) (by kernel_rfl) (by kernel_rfl) (fun _ _ _ h => h) (Or.inl ⟨by rfl, fun w _ => by go_simp⟩) hS ?_
            simp only [Act.put, List.setIfInBounds_toArray, List.set_cons_zero, List.set_cons_succ]
            refine wpAnyH_ready (rs := [8]) (by kernel_rfl) (by simp) ?_
            refine AllReadyH.cons rfl (fun KK hKK => ?_) AllReadyH.nil
            obtain ⟨c0, c1, c2, c3, c4, f0, f1, f2, f3, f4⟩ := hbx.cells
            go_simp
            clear c0 c1 c2 c3 c4 f0 f1 f2 f3 f4
            have hne : w3.heap.size + 1 ≠ x := by omega
            obtain ⟨w11, hw⟩ : ∃ w0, w0 = ((((w10.setCell ⟨x, 0, none⟩ (.int .i64 2)).setCell ⟨x, 1, none⟩ (.string ⟨#[]⟩)).setCell ⟨x, 2, none⟩ (.slice (some ⟨w7.heap.size, 0, none⟩) 1 1)).setCell ⟨x, 3, none⟩ (.slice (some ⟨w9.heap.size, 0, none⟩) 1 1)).setCell ⟨x, 4, none⟩ (.int .i64 0) := ⟨_, rfl⟩
            rw [← hw]
            have hbx2 : Blk w11 x (.int .i64 2) (.string ⟨#[]⟩) (.slice (some ⟨w7.heap.size, 0, none⟩) 1 1) (.slice (some ⟨w9.heap.size, 0, none⟩) 1 1) (.int .i64 0) := by rw [hw]; exact blk_put w10 x _ _ _ _ _ _ _ _ _ _ hbx
            have htt := rename_names (TrIn.putE ht2 hw) (NmIn.putE hm hw)
            have hB11 : Below w4.heap.size w4 w11 := by rw [hw]; exact ((((hB10.setCell hxg _).setCell hxg _).setCell hxg _).setCell hxg _).setCell hxg _
            replace hS : Blk w11 (w3.heap.size + 1) (.int .i64 6) (.string ⟨#[]⟩) (.slice (some ⟨w3.heap.size, 0, none⟩) 2 2) (.slice none 0 0) (.int .i64 0) := by
              rw [hw]
              unfold Blk at hS ⊢
              rw [heap_put hne, heap_put hne, heap_put hne, heap_put hne, heap_put hne]
              exact hS
            clear hw
            refine hKK.out _ _ hS (fun hS => ?_)
            clear hKK KK
            refine wpAnyH_done (by kernel_rfl) ?_ _
            go_wp2_with fail
            go_meet
            exact ⟨x, _, _, _, _, rfl, hbx2, TrIn.fromB htt, hB11⟩
        · skip
          go_simp
          have hal := below_alloc w7 (.cells #[.int .i64 0, .string ⟨#[]⟩, .slice none 0 0, .slice none 0 0, .int .i64 0] 26)
          have hbx := blk_new w7 (.int .i64 0) (.string ⟨#[]⟩) (.slice none 0 0) (.slice none 0 0) (.int .i64 0)
          have hxg := hB7.size
          replace hS := hS.bl2 hal
          replace htr := TrIn.ahead htr (Nat.le_refl _) hal
          replace ht7 := TrIn.ahead ht7 (Nat.le_refl _) hal
          obtain ⟨w8, hw⟩ : ∃ w0, w0 = w7.alloc (.cells #[.int .i64 0, .string ⟨#[]⟩, .slice none 0 0, .slice none 0 0, .int .i64 0] 26) := ⟨_, rfl⟩
          rw [← hw] at hal hS htr ht7 hbx ⊢
          clear hw
          have hB8 := chain hB7 hal
          clear hal
          obtain ⟨x, hx⟩ : ∃ x, x = w7.heap.size := ⟨_, rfl⟩
          rw [← hx] at hxg htr ht7 hbx ⊢
          clear hx
          refine hKK.out _ _ hS (fun hS => ?_)
          clear hKK KK
          refine wpAnyH_ready (rs := [0, 5]) (by kernel_rfl) (by simp) ?_
          refine AllReadyH.cons rfl (fun KK hKK => ?_) (AllReadyH.cons rfl (fun KK hKK => ?_) AllReadyH.nil)
          · skip
            go_simp
            have hxl := hbx.lt
            have hal := below_alloc w8 (.cells #[.string ⟨#[120]⟩] 9)
            replace hS := hS.bl2 hal
            replace htr := htr.blw hal
            replace ht7 := ht7.blw hal
            replace hbx := hbx.bl2 hal
            have hm : NmIn (But 0 x) (w8.alloc (.cells #[.string ⟨#[120]⟩] 9)) [[120]] (.slice (some ⟨w8.heap.size, 0, none⟩) 1 1) := (names_one w8 [120]).keep (Nat.le_refl _) (fun g hg => ⟨Nat.zero_le _, by have h : w8.heap.size ≤ g := hg; omega⟩) (fun _ _ _ => rfl)
            obtain ⟨w9, hw⟩ : ∃ w0, w0 = w8.alloc (.cells #[.string ⟨#[120]⟩] 9) := ⟨_, rfl⟩
            rw [← hw] at hal hS htr ht7 hbx hm ⊢
            clear hw
            have hB9 := chain hB8 hal
            clear hal
            clear hxl
            refine hKK.out _ _ hS (fun hS => ?_)
            clear hKK KK
            refine wpAnyH_ready (rs := [5]) (by kernel_rfl) (by simp) ?_
            refine AllReadyH.cons rfl (fun KK hKK => ?_) AllReadyH.nil
            go_simp
            have hxl := hbx.lt
            have hal := below_alloc w9 (.cells #[.int .i64 7, .string ⟨#[]⟩, .slice (some ⟨w6.heap.size, 0, none⟩) 2 2, .slice none 0 0, .int .i64 0] 26)
            replace hS := hS.bl2 hal
            replace htr := htr.blw hal
            replace ht7 := ht7.blw hal
            replace hbx := hbx.bl2 hal
            replace hm := hm.blw hal
            have ht2 : TrIn (But 0 x) (w9.alloc (.cells #[.int .i64 7, .string ⟨#[]⟩, .slice (some ⟨w6.heap.size, 0, none⟩) 2 2, .slice none 0 0, .int .i64 0] 26)) (.mk 2 [] [wk7] [] 0) (.agg #[.int .i64 2, .string ⟨#[]⟩, .slice (some ⟨w9.heap.size, 0, none⟩) 1 1, .slice none 0 0, .int .i64 0]) := TrIn.one 2 [] [] 0 ht7 (.nil none 0) (⟨Nat.zero_le _, by omega⟩) (by simp) (fun j y hj => new_cell _ _ _ _ j y rfl hj)
            obtain ⟨w10, hw⟩ : ∃ w0, w0 = w9.alloc (.cells #[.int .i64 7, .string ⟨#[]⟩, .slice (some ⟨w6.heap.size, 0, none⟩) 2 2, .slice none 0 0, .int .i64 0] 26) := ⟨_, rfl⟩
            rw [← hw] at hal hS htr ht7 hbx hm ht2 ⊢
            clear hw
            have hB10 := chain hB9 hal
            clear hal
            clear hxl
            refine hKK.out _ _ hS (fun hS => ?_)
            clear hKK KK
            refine wpAnyH_take (i := 6) (v := .agg #[.int .i64 2, .string ⟨#[]⟩, .slice (some ⟨w9.heap.size, 0, none⟩) 1 1, .slice (some ⟨w8.heap.size, 0, none⟩) 1 1, .int .i64 0]) rfl (by kernel_rfl) (by kernel_rfl) (by kernel_rfl) (fun _ _ _ h => h) (Or.inl ⟨by rfl, fun w _ => by go_simp⟩) hS ?_
            simp only [Act.put, List.setIfInBounds_toArray, List.set_cons_zero, List.set_cons_succ]
            refine wpAnyH_ready (rs := [8]) (by kernel_rfl) (by simp) ?_
            refine AllReadyH.cons rfl (fun KK hKK => ?_) AllReadyH.nil
            obtain ⟨c0, c1, c2, c3, c4, f0, f1, f2, f3, f4⟩ := hbx.cells
            go_simp
            clear c0 c1 c2 c3 c4 f0 f1 f2 f3 f4
            have hne : w3.heap.size + 1 ≠ x := by omega
            obtain ⟨w11, hw⟩ : ∃ w0, w0 = ((((w10.setCell ⟨x, 0, none⟩ (.int .i64 2)).setCell ⟨x, 1, none⟩ (.string ⟨#[]⟩)).setCell ⟨x, 2, none⟩ (.slice (some ⟨w9.heap.size, 0, none⟩) 1 1)).setCell ⟨x, 3, none⟩ (.slice (some ⟨w8.heap.size, 0, none⟩) 1 1)).setCell ⟨x, 4, none⟩ (.int .i64 0) := ⟨_, rfl⟩
            rw [← hw]
            have hbx2 : Blk w11 x (.int .i64 2) (.string ⟨#[]⟩) (.slice (some ⟨w9.heap.size, 0, none⟩) 1 1) (.slice (some ⟨w8.heap.size, 0, none⟩) 1 1) (.int .i64 0) := by rw [hw]; exact blk_put w10 x _ _ _ _ _ _ _ _ _ _ hbx
            have htt := rename_names (TrIn.putE ht2 hw) (NmIn.putE hm hw)
            have hB11 : Below w4.heap.size w4 w11 := by rw [hw]; exact ((((hB10.setCell hxg _).setCell hxg _).setCell hxg _).setCell hxg _).setCell hxg _
            replace hS : Blk w11 (w3.heap.size + 1) (.int .i64 6) (.string ⟨#[]⟩) (.slice (some ⟨w3.heap.size, 0, none⟩) 2 2) (.slice none 0 0) (.int .i64 0) := by
              rw [hw]
              unfold Blk at hS ⊢
              rw [heap_put hne, heap_put hne, heap_put hne, heap_put hne, heap_put hne]
              exact hS
            clear hw
            refine hKK.out _ _ hS (fun hS => ?_)
            clear hKK KK
            refine wpAnyH_done (by kernel_rfl) ?_ _
            go_wp2_with fail
            go_meet
            exact ⟨x, _, _, _, _, rfl, hbx2, TrIn.fromB htt, hB11⟩
          · skip
            go_simp
            have hxl := hbx.lt
            have hal := below_alloc w8 (.cells #[.int .i64 7, .string ⟨#[]⟩, .slice (some ⟨w6.heap.size, 0, none⟩) 2 2, .slice none 0 0, .int .i64 0] 26)
            replace hS := hS.bl2 hal
            replace htr := htr.blw hal
            replace ht7 := ht7.blw hal
            replace hbx := hbx.bl2 hal
            have ht2 : TrIn (But 0 x) (w8.alloc (.cells #[.int .i64 7, .string ⟨#[]⟩, .slice (some ⟨w6.heap.size, 0, none⟩) 2 2, .slice none 0 0, .int .i64 0] 26)) (.mk 2 [] [wk7] [] 0) (.agg #[.int .i64 2, .string ⟨#[]⟩, .slice (some ⟨w8.heap.size, 0, none⟩) 1 1, .slice none 0 0, .int .i64 0]) := TrIn.one 2 [] [] 0 ht7 (.nil none 0) (⟨Nat.zero_le _, by omega⟩) (by simp) (fun j y hj => new_cell _ _ _ _ j y rfl hj)
            obtain ⟨w9, hw⟩ : ∃ w0, w0 = w8.alloc (.cells #[.int .i64 7, .string ⟨#[]⟩, .slice (some ⟨w6.heap.size, 0, none⟩) 2 2, .slice none 0 0, .int .i64 0] 26) := ⟨_, rfl⟩
            rw [← hw] at hal hS htr ht7 hbx ht2 ⊢
            clear hw
            have hB9 := chain hB8 hal
            clear hal
            clear hxl
            refine hKK.out _ _ hS (fun hS => ?_)
            clear hKK KK
            refine wpAnyH_ready (rs := [0]) (by kernel_rfl) (by simp) ?_
            refine AllReadyH.cons rfl (fun KK hKK => ?_) AllReadyH.nil
            go_simp
            have hxl := hbx.lt
            have hal := below_alloc w9 (.cells #[.string ⟨#[120]⟩] 9)
            replace hS := hS.bl2 hal
            replace htr := htr.blw hal
            replace ht7 := ht7.blw hal
            replace hbx := hbx.bl2 hal
            replace ht2 := ht2.blw hal
            have hm : NmIn (But 0 x) (w9.alloc (.cells #[.string ⟨#[120]⟩] 9)) [[120]] (.slice (some ⟨w9.heap.size, 0, none⟩) 1 1) := (names_one w9 [120]).keep (Nat.le_refl _) (fun g hg => ⟨Nat.zero_le _, by have h : w9.heap.size ≤ g := hg; omega⟩) (fun _ _ _ => rfl)
            obtain ⟨w10, hw⟩ : ∃ w0, w0 = w9.alloc (.cells #[.string ⟨#[120]⟩] 9) := ⟨_, rfl⟩
            rw [← hw] at hal hS htr ht7 hbx ht2 hm ⊢
            clear hw
            have hB10 := chain hB9 hal
            clear hal
            clear hxl
            refine hKK.out _ _ hS (fun hS => ?_)
            clear hKK KK
            refine wpAnyH_take (i := 6) (v := .agg #[.int .i64 2, .string ⟨#[]⟩, .slice (some ⟨w8.heap.size, 0, none⟩) 1 1, .slice (some ⟨w9.heap.size, 0, none⟩) 1 1, .int .i64 0]) rfl (by kernel_rfl) (by kernel_rfl) (by kernel_rfl) (fun _ _ _ h => h) (Or.inl ⟨by rfl, fun w _ => by go_simp⟩) hS ?_
            simp only [Act.put, List.setIfInBounds_toArray, List.set_cons_zero, List.set_cons_succ]
            refine wpAnyH_ready (rs := [8]) (by kernel_rfl) (by simp) ?_
            refine AllReadyH.cons rfl (fun KK hKK => ?_) AllReadyH.nil
            obtain ⟨c0, c1, c2, c3, c4, f0, f1, f2, f3, f4⟩ := hbx.cells
            go_simp
            clear c0 c1 c2 c3 c4 f0 f1 f2 f3 f4
            have hne : w3.heap.size + 1 ≠ x := by omega
            obtain ⟨w11, hw⟩ : ∃ w0, w0 = ((((w10.setCell ⟨x, 0, none⟩ (.int .i64 2)).setCell ⟨x, 1, none⟩ (.string ⟨#[]⟩)).setCell ⟨x, 2, none⟩ (.slice (some ⟨w8.heap.size, 0, none⟩) 1 1)).setCell ⟨x, 3, none⟩ (.slice (some ⟨w9.heap.size, 0, none⟩) 1 1)).setCell ⟨x, 4, none⟩ (.int .i64 0) := ⟨_, rfl⟩
            rw [← hw]
            have hbx2 : Blk w11 x (.int .i64 2) (.string ⟨#[]⟩) (.slice (some ⟨w8.heap.size, 0, none⟩) 1 1) (.slice (some ⟨w9.heap.size, 0, none⟩) 1 1) (.int .i64 0) := by rw [hw]; exact blk_put w10 x _ _ _ _ _ _ _ _ _ _ hbx
            have htt := rename_names (TrIn.putE ht2 hw) (NmIn.putE hm hw)
            have hB11 : Below w4.heap.size w4 w11 := by rw [hw]; exact ((((hB10.setCell hxg _).setCell hxg _).setCell hxg _).setCell hxg _).setCell hxg _
            replace hS : Blk w11 (w3.heap.size + 1) (.int .i64 6) (.string ⟨#[]⟩) (.slice (some ⟨w3.heap.size, 0, none⟩) 2 2) (.slice none 0 0) (.int .i64 0) := by
              rw [hw]
              unfold Blk at hS ⊢
              rw [heap_put hne, heap_put hne, heap_put hne, heap_put hne, heap_put hne]
              exact hS
            clear hw
            refine hKK.out _ _ hS (fun hS => ?_)
            clear hKK KK
            refine wpAnyH_done (by kernel_rfl) ?_ _
            go_wp2_with fail
            go_meet
            exact ⟨x, _, _, _, _, rfl, hbx2, TrIn.fromB htt, hB11⟩
      · skip
        go_simp
        have hal := below_alloc w6 (.cells #[.int .i64 0, .string ⟨#[]⟩, .slice none 0 0, .slice none 0 0, .int .i64 0] 26)
        have hbx := blk_new w6 (.int .i64 0) (.string ⟨#[]⟩) (.slice none 0 0) (.slice none 0 0) (.int .i64 0)
        have hxg := hB6.size
        replace hS := hS.bl2 hal
        replace htr := TrIn.ahead htr (Nat.le_refl _) hal
        obtain ⟨w7, hw⟩ : ∃ w0, w0 = w6.alloc (.cells #[.int .i64 0, .string ⟨#[]⟩, .slice none 0 0, .slice none 0 0, .int .i64 0] 26) := ⟨_, rfl⟩
        rw [← hw] at hal hS htr hbx ⊢
        clear hw
        have hB7 := chain hB6 hal
        clear hal
        obtain ⟨x, hx⟩ : ∃ x, x = w6.heap.size := ⟨_, rfl⟩
        rw [← hx] at hxg htr hbx ⊢
        clear hx
        refine hKK.out _ _ hS (fun hS => ?_)
        clear hKK KK
        refine wpAnyH_ready (rs := [0, 3]) (by kernel_rfl) (by simp) ?_
        refine AllReadyH.cons rfl (fun KK hKK => ?_) (AllReadyH.cons rfl (fun KK hKK => ?_) AllReadyH.nil)
        · skip
          go_simp
          have hxl := hbx.lt
          have hal := below_alloc w7 (.cells #[.string ⟨#[120]⟩] 9)
          replace hS := hS.bl2 hal
          replace htr := htr.blw hal
          replace hbx := hbx.bl2 hal
          have hm : NmIn (But 0 x) (w7.alloc (.cells #[.string ⟨#[120]⟩] 9)) [[120]] (.slice (some ⟨w7.heap.size, 0, none⟩) 1 1) := (names_one w7 [120]).keep (Nat.le_refl _) (fun g hg => ⟨Nat.zero_le _, by have h : w7.heap.size ≤ g := hg; omega⟩) (fun _ _ _ => rfl)
          obtain ⟨w8, hw⟩ : ∃ w0, w0 = w7.alloc (.cells #[.string ⟨#[120]⟩] 9) := ⟨_, rfl⟩
          rw [← hw] at hal hS htr hbx hm ⊢
          clear hw
          have hB8 := chain hB7 hal
          clear hal
          clear hxl
          refine hKK.out _ _ hS (fun hS => ?_)
          clear hKK KK
          refine wpAnyH_ready (rs := [3]) (by kernel_rfl) (by simp) ?_
          refine AllReadyH.cons rfl (fun KK hKK => ?_) AllReadyH.nil
          go_simp
          have hxl := hbx.lt
          have hal := below_alloc w8 (.cells #[.int .i64 6, .string ⟨#[]⟩, .slice (some ⟨w3.heap.size, 0, none⟩) 2 2, .slice none 0 0, .int .i64 0, .int .i64 1, .string ⟨#[105]⟩, .slice none 0 0, .slice none 0 0, .int .i64 0] 26)
          replace hS := hS.bl2 hal
          replace htr := htr.blw hal
          replace hbx := hbx.bl2 hal
          replace hm := hm.blw hal
          have ht7 : TrIn (But 0 x) (w8.alloc (.cells #[.int .i64 6, .string ⟨#[]⟩, .slice (some ⟨w3.heap.size, 0, none⟩) 2 2, .slice none 0 0, .int .i64 0, .int .i64 1, .string ⟨#[105]⟩, .slice none 0 0, .slice none 0 0, .int .i64 0] 26)) wk7 (.agg #[.int .i64 7, .string ⟨#[]⟩, .slice (some ⟨w8.heap.size, 0, none⟩) 2 2, .slice none 0 0, .int .i64 0]) := TrIn.pair 7 [] [] 0 htr (.leaf 1 [105] [] 0 none 0 _ (.nil none 0)) (.nil none 0) (⟨Nat.zero_le _, by omega⟩) (by simp) (fun j y hj => new_cell _ _ _ _ j y rfl hj)
          obtain ⟨w9, hw⟩ : ∃ w0, w0 = w8.alloc (.cells #[.int .i64 6, .string ⟨#[]⟩, .slice (some ⟨w3.heap.size, 0, none⟩) 2 2, .slice none 0 0, .int .i64 0, .int .i64 1, .string ⟨#[105]⟩, .slice none 0 0, .slice none 0 0, .int .i64 0] 26) := ⟨_, rfl⟩
          rw [← hw] at hal hS htr hbx hm ht7 ⊢
          clear hw
          have hB9 := chain hB8 hal
          clear hal
          clear hxl
          refine hKK.out _ _ hS (fun hS => ?_)
          clear hKK KK
          refine wpAnyH_take (i := 4) (v := .agg #[.int .i64 7, .string ⟨#[]⟩, .slice (some ⟨w8.heap.size, 0, none⟩) 2 2, .slice none 0 0, .int .i64 0]) rfl (by kernel_rfl) (by kernel_rfl) (by kernel_rfl) (fun _ _ _ h => h) (Or.inl ⟨by rfl, fun w _ => by go_simp⟩) hS ?_
          simp only [Act.put, List.setIfInBounds_toArray, List.set_cons_zero, List.set_cons_succ]
          refine wpAnyH_ready (rs := [5]) (by kernel_rfl) (by simp) ?_
          refine AllReadyH.cons rfl (fun KK hKK => ?_) AllReadyH.nil
          go_simp
          have hxl := hbx.lt
          have hal := below_alloc w9 (.cells #[.int .i64 7, .string ⟨#[]⟩, .slice (some ⟨w8.heap.size, 0, none⟩) 2 2, .slice none 0 0, .int .i64 0] 26)
          replace hS := hS.bl2 hal
          replace htr := htr.blw hal
          replace hbx := hbx.bl2 hal
          replace hm := hm.blw hal
          replace ht7 := ht7.blw hal
          have ht2 : TrIn (But 0 x) (w9.alloc (.cells #[.int .i64 7, .string ⟨#[]⟩, .slice (some ⟨w8.heap.size, 0, none⟩) 2 2, .slice none 0 0, .int .i64 0] 26)) (.mk 2 [] [wk7] [] 0) (.agg #[.int .i64 2, .string ⟨#[]⟩, .slice (some ⟨w9.heap.size, 0, none⟩) 1 1, .slice none 0 0, .int .i64 0]) := TrIn.one 2 [] [] 0 ht7 (.nil none 0) (⟨Nat.zero_le _, by omega⟩) (by simp) (fun j y hj => new_cell _ _ _ _ j y rfl hj)
          obtain ⟨w10, hw⟩ : ∃ w0, w0 = w9.alloc (.cells #[.int .i64 7, .string ⟨#[]⟩, .slice (some ⟨w8.heap.size, 0, none⟩) 2 2, .slice none 0 0, .int .i64 0] 26) := ⟨_, rfl⟩
          rw [← hw] at hal hS htr hbx hm ht7 ht2 ⊢
          clear hw
          have hB10 := chain hB9 hal
          clear hal
          clear hxl
          refine hKK.out _ _ hS (fun hS => ?_)
          clear hKK KK
          refine wpAnyH_take (i := 6) (v := .agg #[.int .i64 2, .string ⟨#[]⟩, .slice (some ⟨w9.heap.size, 0, none⟩) 1 1, .slice (some ⟨w7.heap.size, 0, none⟩) 1 1, .int .i64 0]) rfl (by kernel_rfl) (by kernel_rfl) (by kernel_rfl) (fun _ _ _ h => h) (Or.inl ⟨by rfl, fun w _ => by go_simp⟩) hS ?_
          simp only [Act.put, List.setIfInBounds_toArray, List.set_cons_zero, List.set_cons_succ]
          refine wpAnyH_ready (rs := [8]) (by kernel_rfl) (by simp) ?_
          refine AllReadyH.cons rfl (fun KK hKK => ?_) AllReadyH.nil
          obtain ⟨c0, c1, c2, c3, c4, f0, f1, f2, f3, f4⟩ := hbx.cells
          go_simp
          clear c0 c1 c2 c3 c4 f0 f1 f2 f3 f4
          have hne : w3.heap.size + 1 ≠ x := by omega
          obtain ⟨w11, hw⟩ : ∃ w0, w0 = ((((w10.setCell ⟨x, 0, none⟩ (.int .i64 2)).setCell ⟨x, 1, none⟩ (.string ⟨#[]⟩)).setCell ⟨x, 2, none⟩ (.slice (some ⟨w9.heap.size, 0, none⟩) 1 1)).setCell ⟨x, 3, none⟩ (.slice (some ⟨w7.heap.size, 0, none⟩) 1 1)).setCell ⟨x, 4, none⟩ (.int .i64 0) := ⟨_, rfl⟩
          rw [← hw]
          have hbx2 : Blk w11 x (.int .i64 2) (.string ⟨#[]⟩) (.slice (some ⟨w9.heap.size, 0, none⟩) 1 1) (.slice (some ⟨w7.heap.size, 0, none⟩) 1 1) (.int .i64 0) := by rw [hw]; exact blk_put w10 x _ _ _ _ _ _ _ _ _ _ hbx
          have htt := rename_names (TrIn.putE ht2 hw) (NmIn.putE hm hw)
          have hB11 : Below w4.heap.size w4 w11 := by rw [hw]; exact ((((hB10.setCell hxg _).setCell hxg _).setCell hxg _).setCell hxg _).setCell hxg _
          replace hS : Blk w11 (w3.heap.size + 1) (.int .i64 6) (.string ⟨#[]⟩) (.slice (some ⟨w3.heap.size, 0, none⟩) 2 2) (.slice none 0 0) (.int .i64 0) := by
            rw [hw]
            unfold Blk at hS ⊢
            rw [heap_put hne, heap_put hne, heap_put hne, heap_put hne, heap_put hne]
            exact hS
          clear hw
          refine hKK.out _ _ hS (fun hS => ?_)
          clear hKK KK
          refine wpAnyH_done (by kernel_rfl) ?_ _
          go_wp2_with fail
          go_meet
          exact ⟨x, _, _, _, _, rfl, hbx2, TrIn.fromB htt, hB11⟩
        · skip
          go_simp
          have hxl := hbx.lt
          have hal := below_alloc w7 (.cells #[.int .i64 6, .string ⟨#[]⟩, .slice (some ⟨w3.heap.size, 0, none⟩) 2 2, .slice none 0 0, .int .i64 0, .int .i64 1, .string ⟨#[105]⟩, .slice none 0 0, .slice none 0 0, .int .i64 0] 26)
          replace hS := hS.bl2 hal
          replace htr := htr.blw hal
          replace hbx := hbx.bl2 hal
          have ht7 : TrIn (But 0 x) (w7.alloc (.cells #[.int .i64 6, .string ⟨#[]⟩, .slice (some ⟨w3.heap.size, 0, none⟩) 2 2, .slice none 0 0, .int .i64 0, .int .i64 1, .string ⟨#[105]⟩, .slice none 0 0, .slice none 0 0, .int .i64 0] 26)) wk7 (.agg #[.int .i64 7, .string ⟨#[]⟩, .slice (some ⟨w7.heap.size, 0, none⟩) 2 2, .slice none 0 0, .int .i64 0]) := TrIn.pair 7 [] [] 0 htr (.leaf 1 [105] [] 0 none 0 _ (.nil none 0)) (.nil none 0) (⟨Nat.zero_le _, by omega⟩) (by simp) (fun j y hj => new_cell _ _ _ _ j y rfl hj)
          obtain ⟨w8, hw⟩ : ∃ w0, w0 = w7.alloc (.cells #[.int .i64 6, .string ⟨#[]⟩, .slice (some ⟨w3.heap.size, 0, none⟩) 2 2, .slice none 0 0, .int .i64 0, .int .i64 1, .string ⟨#[105]⟩, .slice none 0 0, .slice none 0 0, .int .i64 0] 26) := ⟨_, rfl⟩
          rw [← hw] at hal hS htr hbx ht7 ⊢
          clear hw
          have hB8 := chain hB7 hal
          clear hal
          clear hxl
          refine hKK.out _ _ hS (fun hS => ?_)
          clear hKK KK
          refine wpAnyH_take (i := 4) (v := .agg #[.int .i64 7, .string ⟨#[]⟩, .slice (some ⟨w7.heap.size, 0, none⟩) 2 2, .slice none 0 0, .int .i64 0]) rfl (by kernel_rfl) (by kernel_rfl) (by kernel_rfl) (fun _ _ _ h => h) (Or.inl ⟨by rfl, fun w _ => by go_simp⟩) hS ?_
          simp only [Act.put, List.setIfInBounds_toArray, List.set_cons_zero, List.set_cons_succ]
          refine wpAnyH_ready (rs := [0, 5]) (by kernel_rfl) (by simp) ?_
          refine AllReadyH.cons rfl (fun KK hKK => ?_) (AllReadyH.cons rfl (fun KK hKK => ?_) AllReadyH.nil)
          · skip
            go_simp
            have hxl := hbx.lt
            have hal := below_alloc w8 (.cells #[.string ⟨#[120]⟩] 9)
            replace hS := hS.bl2 hal
            replace htr := htr.blw hal
            replace hbx := hbx.bl2 hal
            replace ht7 := ht7.blw hal
            have hm : NmIn (But 0 x) (w8.alloc (.cells #[.string ⟨#[120]⟩] 9)) [[120]] (.slice (some ⟨w8.heap.size, 0, none⟩) 1 1) := (names_one w8 [120]).keep (Nat.le_refl _) (fun g hg => ⟨Nat.zero_le _, by have h : w8.heap.size ≤ g := hg; omega⟩) (fun _ _ _ => rfl)
            obtain ⟨w9, hw⟩ : ∃ w0, w0 = w8.alloc (.cells #[.string ⟨#[120]⟩] 9) := ⟨_, rfl⟩
            rw [← hw] at hal hS htr hbx ht7 hm ⊢
            clear hw
            have hB9 := chain hB8 hal
            clear hal
            clear hxl
            refine hKK.out _ _ hS (fun hS => ?_)
            clear hKK KK
            refine wpAnyH_ready (rs := [5]) (by kernel_rfl) (by simp) ?_
            refine AllReadyH.cons rfl (fun KK hKK => ?_) AllReadyH.nil
            go_simp
            have hxl := hbx.lt
            have hal := below_alloc w9 (.cells #[.int .i64 7, .string ⟨#[]⟩, .slice (some ⟨w7.heap.size, 0, none⟩) 2 2, .slice none 0 0, .int .i64 0] 26)
            replace hS := hS.bl2 hal
            replace htr := htr.blw hal
            replace hbx := hbx.bl2 hal
            replace ht7 := ht7.blw hal
            replace hm := hm.blw hal
            have ht2 : TrIn (But 0 x) (w9.alloc (.cells #[.int .i64 7, .string ⟨#[]⟩, .slice (some ⟨w7.heap.size, 0, none⟩) 2 2, .slice none 0 0, .int .i64 0] 26)) (.mk 2 [] [wk7] [] 0) (.agg #[.int .i64 2, .string ⟨#[]⟩, .slice (some ⟨w9.heap.size, 0, none⟩) 1 1, .slice none 0 0, .int .i64 0]) := TrIn.one 2 [] [] 0 ht7 (.nil none 0) (⟨Nat.zero_le _, by omega⟩) (by simp) (fun j y hj => new_cell _ _ _ _ j y rfl hj)
            obtain ⟨w10, hw⟩ : ∃ w0, w0 = w9.alloc (.cells #[.int .i64 7, .string ⟨#[]⟩, .slice (some ⟨w7.heap.size, 0, none⟩) 2 2, .slice none 0 0, .int .i64 0] 26) := ⟨_, rfl⟩
            rw [← hw] at hal hS htr hbx ht7 hm ht2 ⊢
            clear hw
            have hB10 := chain hB9 hal
            clear hal
            clear hxl
            refine hKK.out _ _ hS (fun hS => ?_)
            clear hKK KK
            refine wpAnyH_take (i := 6) (v := .agg #[.int .i64 2, .string ⟨#[]⟩, .slice (some ⟨w9.heap.size, 0, none⟩) 1 1, .slice (some ⟨w8.heap.size, 0, none⟩) 1 1, .int .i64 0]) rfl (by kernel_rfl) (by kernel_rfl) (by kernel_rfl) (fun _ _ _ h => h) (Or.inl ⟨by rfl, fun w _ => by go_simp⟩) hS ?_
            simp only [Act.put, List.setIfInBounds_toArray, List.set_cons_zero, List.set_cons_succ]
            refine wpAnyH_ready (rs := [8]) (by kernel_rfl) (by simp) ?_
            refine AllReadyH.cons rfl (fun KK hKK => ?_) AllReadyH.nil
            obtain ⟨c0, c1, c2, c3, c4, f0, f1, f2, f3, f4⟩ := hbx.cells
            go_simp
            clear c0 c1 c2 c3 c4 f0 f1 f2 f3 f4
            have hne : w3.heap.size + 1 ≠ x := by omega
            obtain ⟨w11, hw⟩ : ∃ w0, w0 = ((((w10.setCell ⟨x, 0, none⟩ (.int .i64 2)).setCell ⟨x, 1, none⟩ (.string ⟨#[]⟩)).setCell ⟨x, 2, none⟩ (.slice (some ⟨w9.heap.size, 0, none⟩) 1 1)).setCell ⟨x, 3, none⟩ (.slice (some ⟨w8.heap.size, 0, none⟩) 1 1)).setCell ⟨x, 4, none⟩ (.int .i64 0) := ⟨_, rfl⟩
            rw [← hw]
            have hbx2 : Blk w11 x (.int .i64 2) (.string ⟨#[]⟩) (.slice (some ⟨w9.heap.size, 0, none⟩) 1 1) (.slice (some ⟨w8.heap.size, 0, none⟩) 1 1) (.int .i64 0) := by rw [hw]; exact blk_put w10 x _ _ _ _ _ _ _ _ _ _ hbx
            have htt := rename_names (TrIn.putE ht2 hw) (NmIn.putE hm hw)
            have hB11 : Below w4.heap.size w4 w11 := by rw [hw]; exact ((((hB10.setCell hxg _).setCell hxg _).setCell hxg _).setCell hxg _).setCell hxg _
            replace hS : Blk w11 (w3.heap.size + 1) (.int .i64 6) (.string ⟨#[]⟩) (.slice (some ⟨w3.heap.size, 0, none⟩) 2 2) (.slice none 0 0) (.int .i64 0) := by
              rw [hw]
              unfold Blk at hS ⊢
              rw [heap_put hne, heap_put hne, heap_put hne, heap_put hne, heap_put hne]
              exact hS
            clear hw
            refine hKK.out _ _ hS (fun hS => ?_)
            clear hKK KK
            refine wpAnyH_done (by kernel_rfl) ?_ _
            go_wp2_with fail
            go_meet
            exact ⟨x, _, _, _, _, rfl, hbx2, TrIn.fromB htt, hB11⟩
          · skip
            go_simp
            have hxl := hbx.lt
            have hal := below_alloc w8 (.cells #[.int .i64 7, .string ⟨#[]⟩, .slice (some ⟨w7.heap.size, 0, none⟩) 2 2, .slice none 0 0, .int .i64 0] 26)
            replace hS := hS.bl2 hal
            replace htr := htr.blw hal
            replace hbx := hbx.bl2 hal
            replace ht7 := ht7.blw hal
            have ht2 : TrIn (But 0 x) (w8.alloc (.cells #[.int .i64 7, .string ⟨#[]⟩, .slice (some ⟨w7.heap.size, 0, none⟩) 2 2, .slice none 0 0, .int .i64 0] 26)) (.mk 2 [] [wk7] [] 0) (.agg #[.int .i64 2, .string ⟨#[]⟩, .slice (some ⟨w8.heap.size, 0, none⟩) 1 1, .slice none 0 0, .int .i64 0]) := TrIn.one 2 [] [] 0 ht7 (.nil none 0) (⟨Nat.zero_le _, by omega⟩) (by simp) (fun j y hj => new_cell _ _ _ _ j y rfl hj)
            obtain ⟨w9, hw⟩ : ∃ w0, w0 = w8.alloc (.cells #[.int .i64 7, .string ⟨#[]⟩, .slice (some ⟨w7.heap.size, 0, none⟩) 2 2, .slice none 0 0, .int .i64 0] 26) := ⟨_, rfl⟩
            rw [← hw] at hal hS htr hbx ht7 ht2 ⊢
            clear hw
            have hB9 := chain hB8 hal
            clear hal
            clear hxl
            refine hKK.out _ _ hS (fun hS => ?_)
            clear hKK KK
            refine wpAnyH_ready (rs := [0]) (by kernel_rfl) (by simp) ?_
            refine AllReadyH.cons rfl (fun KK hKK => ?_) AllReadyH.nil
            go_simp
            have hxl := hbx.lt
            have hal := below_alloc w9 (.cells #[.string ⟨#[120]⟩] 9)
            replace hS := hS.bl2 hal
            replace htr := htr.blw hal
            replace hbx := hbx.bl2 hal
            replace ht7 := ht7.blw hal
            replace ht2 := ht2.blw hal
            have hm : NmIn (But 0 x) (w9.alloc (.cells #[.string ⟨#[120]⟩] 9)) [[120]] (.slice (some ⟨w9.heap.size, 0, none⟩) 1 1) := (names_one w9 [120]).keep (Nat.le_refl _) (fun g hg => ⟨Nat.zero_le _, by have h : w9.heap.size ≤ g := hg; omega⟩) (fun _ _ _ => rfl)
            obtain ⟨w10, hw⟩ : ∃ w0, w0 = w9.alloc (.cells #[.string ⟨#[120]⟩] 9) := ⟨_, rfl⟩
            rw [← hw] at hal hS htr hbx ht7 ht2 hm ⊢
            clear hw
            have hB10 := chain hB9 hal
            clear hal
            clear hxl
            refine hKK.out _ _ hS (fun hS => ?_)
            clear hKK KK
            refine wpAnyH_take (i := 6) (v := .agg #[.int .i64 2, .string ⟨#[]⟩, .slice (some ⟨w8.heap.size, 0, none⟩) 1 1, .slice (some ⟨w9.heap.size, 0, none⟩) 1 1, .int .i64 0]) rfl (by kernel_rfl) (by kernel_rfl) (by kernel_rfl) (fun _ _ _ h => h) (Or.inl ⟨by rfl, fun w _ => by go_simp⟩) hS ?_
            simp only [Act.put, List.setIfInBounds_toArray, List.set_cons_zero, List.set_cons_succ]
            refine wpAnyH_ready (rs := [8]) (by kernel_rfl) (by simp) ?_
            refine AllReadyH.cons rfl (fun KK hKK => ?_) AllReadyH.nil
            obtain ⟨c0, c1, c2, c3, c4, f0, f1, f2, f3, f4⟩ := hbx.cells
            go_simp
            clear c0 c1 c2 c3 c4 f0 f1 f2 f3 f4
            have hne : w3.heap.size + 1 ≠ x := by omega
            obtain ⟨w11, hw⟩ : ∃ w0, w0 = ((((w10.setCell ⟨x, 0, none⟩ (.int .i64 2)).setCell ⟨x, 1, none⟩ (.string ⟨#[]⟩)).setCell ⟨x, 2, none⟩ (.slice (some ⟨w8.heap.size, 0, none⟩) 1 1)).setCell ⟨x, 3, none⟩ (.slice (some ⟨w9.heap.size, 0, none⟩) 1 1)).setCell ⟨x, 4, none⟩ (.int .i64 0) := ⟨_, rfl⟩
            rw [← hw]
            have hbx2 : Blk w11 x (.int .i64 2) (.string ⟨#[]⟩) (.slice (some ⟨w8.heap.size, 0, none⟩) 1 1) (.slice (some ⟨w9.heap.size, 0, none⟩) 1 1) (.int .i64 0) := by rw [hw]; exact blk_put w10 x _ _ _ _ _ _ _ _ _ _ hbx
            have htt := rename_names (TrIn.putE ht2 hw) (NmIn.putE hm hw)
            have hB11 : Below w4.heap.size w4 w11 := by rw [hw]; exact ((((hB10.setCell hxg _).setCell hxg _).setCell hxg _).setCell hxg _).setCell hxg _
            replace hS : Blk w11 (w3.heap.size + 1) (.int .i64 6) (.string ⟨#[]⟩) (.slice (some ⟨w3.heap.size, 0, none⟩) 2 2) (.slice none 0 0) (.int .i64 0) := by
              rw [hw]
              unfold Blk at hS ⊢
              rw [heap_put hne, heap_put hne, heap_put hne, heap_put hne, heap_put hne]
              exact hS
            clear hw
            refine hKK.out _ _ hS (fun hS => ?_)
            clear hKK KK
            refine wpAnyH_done (by kernel_rfl) ?_ _
            go_wp2_with fail
            go_meet
            exact ⟨x, _, _, _, _, rfl, hbx2, TrIn.fromB htt, hB11⟩
    · skip
      go_simp
      have hal := below_alloc w5 (.cells #[.int .i64 0, .string ⟨#[]⟩, .slice none 0 0, .slice none 0 0, .int .i64 0] 26)
      have hbx := blk_new w5 (.int .i64 0) (.string ⟨#[]⟩) (.slice none 0 0) (.slice none 0 0) (.int .i64 0)
      have hxg := hB5.size
      replace hS := hS.bl2 hal
      replace htr := TrIn.ahead htr (Nat.le_refl _) hal
      obtain ⟨w6, hw⟩ : ∃ w0, w0 = w5.alloc (.cells #[.int .i64 0, .string ⟨#[]⟩, .slice none 0 0, .slice none 0 0, .int .i64 0] 26) := ⟨_, rfl⟩
      rw [← hw] at hal hS htr hbx ⊢
      clear hw
      have hB6 := chain hB5 hal
      clear hal
      obtain ⟨x, hx⟩ : ∃ x, x = w5.heap.size := ⟨_, rfl⟩
      rw [← hx] at hxg htr hbx ⊢
      clear hx
      refine hKK.out _ _ hS (fun hS => ?_)
      clear hKK KK
      refine wpAnyH_ready (rs := [0, 2]) (by kernel_rfl) (by simp) ?_
      refine AllReadyH.cons rfl (fun KK hKK => ?_) (AllReadyH.cons rfl (fun KK hKK => ?_) AllReadyH.nil)
      · skip
        go_simp
        have hxl := hbx.lt
        have hal := below_alloc w6 (.cells #[.string ⟨#[120]⟩] 9)
        replace hS := hS.bl2 hal
        replace htr := htr.blw hal
        replace hbx := hbx.bl2 hal
        have hm : NmIn (But 0 x) (w6.alloc (.cells #[.string ⟨#[120]⟩] 9)) [[120]] (.slice (some ⟨w6.heap.size, 0, none⟩) 1 1) := (names_one w6 [120]).keep (Nat.le_refl _) (fun g hg => ⟨Nat.zero_le _, by have h : w6.heap.size ≤ g := hg; omega⟩) (fun _ _ _ => rfl)
        obtain ⟨w7, hw⟩ : ∃ w0, w0 = w6.alloc (.cells #[.string ⟨#[120]⟩] 9) := ⟨_, rfl⟩
        rw [← hw] at hal hS htr hbx hm ⊢
        clear hw
        have hB7 := chain hB6 hal
        clear hal
        clear hxl
        refine hKK.out _ _ hS (fun hS => ?_)
        clear hKK KK
        refine wpAnyH_ready (rs := [2]) (by kernel_rfl) (by simp) ?_
        refine AllReadyH.cons rfl (fun KK hKK => ?_) AllReadyH.nil
        go_simp
        refine (named_any _ _).mono ?_
        rintro e w8 ⟨rfl, hb⟩
        replace hS := hS.bl2 hb
        replace htr := htr.blw hb
        replace hbx := hbx.bl2 hb
        replace hm := hm.blw hb
        have hB8 := chain hB7 hb
        clear hb
        refine hKK.out _ _ hS (fun hS => ?_)
        clear hKK KK
        refine wpAnyH_ready (rs := [3]) (by kernel_rfl) (by simp) ?_
        refine AllReadyH.cons rfl (fun KK hKK => ?_) AllReadyH.nil
        go_simp
        have hxl := hbx.lt
        have hal := below_alloc w8 (.cells #[.int .i64 6, .string ⟨#[]⟩, .slice (some ⟨w3.heap.size, 0, none⟩) 2 2, .slice none 0 0, .int .i64 0, .int .i64 1, .string ⟨#[105]⟩, .slice none 0 0, .slice none 0 0, .int .i64 0] 26)
        replace hS := hS.bl2 hal
        replace htr := htr.blw hal
        replace hbx := hbx.bl2 hal
        replace hm := hm.blw hal
        have ht7 : TrIn (But 0 x) (w8.alloc (.cells #[.int .i64 6, .string ⟨#[]⟩, .slice (some ⟨w3.heap.size, 0, none⟩) 2 2, .slice none 0 0, .int .i64 0, .int .i64 1, .string ⟨#[105]⟩, .slice none 0 0, .slice none 0 0, .int .i64 0] 26)) wk7 (.agg #[.int .i64 7, .string ⟨#[]⟩, .slice (some ⟨w8.heap.size, 0, none⟩) 2 2, .slice none 0 0, .int .i64 0]) := TrIn.pair 7 [] [] 0 htr (.leaf 1 [105] [] 0 none 0 _ (.nil none 0)) (.nil none 0) (⟨Nat.zero_le _, by omega⟩) (by simp) (fun j y hj => new_cell _ _ _ _ j y rfl hj)
        obtain ⟨w9, hw⟩ : ∃ w0, w0 = w8.alloc (.cells #[.int .i64 6, .string ⟨#[]⟩, .slice (some ⟨w3.heap.size, 0, none⟩) 2 2, .slice none 0 0, .int .i64 0, .int .i64 1, .string ⟨#[105]⟩, .slice none 0 0, .slice none 0 0, .int .i64 0] 26) := ⟨_, rfl⟩
        rw [← hw] at hal hS htr hbx hm ht7 ⊢
        clear hw
        have hB9 := chain hB8 hal
        clear hal
        clear hxl
        refine hKK.out _ _ hS (fun hS => ?_)
        clear hKK KK
        refine wpAnyH_take (i := 4) (v := .agg #[.int .i64 7, .string ⟨#[]⟩, .slice (some ⟨w8.heap.size, 0, none⟩) 2 2, .slice none 0 0, .int .i64 0]) rfl (by kernel_rfl) (by kernel_rfl) (by kernel_rfl) (fun _ _ _ h => h) (Or.inl ⟨by rfl, fun w _ => by go_simp⟩) hS ?_
        simp only [Act.put, List.setIfInBounds_toArray, List.set_cons_zero, List.set_cons_succ]
        refine wpAnyH_ready (rs := [5]) (by kernel_rfl) (by simp) ?_
        refine AllReadyH.cons rfl (fun KK hKK => ?_) AllReadyH.nil
        go_simp
        have hxl := hbx.lt
        have hal := below_alloc w9 (.cells #[.int .i64 7, .string ⟨#[]⟩, .slice (some ⟨w8.heap.size, 0, none⟩) 2 2, .slice none 0 0, .int .i64 0] 26)
        replace hS := hS.bl2 hal
        replace htr := htr.blw hal
        replace hbx := hbx.bl2 hal
        replace hm := hm.blw hal
        replace ht7 := ht7.blw hal
        have ht2 : TrIn (But 0 x) (w9.alloc (.cells #[.int .i64 7, .string ⟨#[]⟩, .slice (some ⟨w8.heap.size, 0, none⟩) 2 2, .slice none 0 0, .int .i64 0] 26)) (.mk 2 [] [wk7] [] 0) (.agg #[.int .i64 2, .string ⟨#[]⟩, .slice (some ⟨w9.heap.size, 0, none⟩) 1 1, .slice none 0 0, .int .i64 0]) := TrIn.one 2 [] [] 0 ht7 (.nil none 0) (⟨Nat.zero_le _, by omega⟩) (by simp) (fun j y hj => new_cell _ _ _ _ j y rfl hj)
        obtain ⟨w10, hw⟩ : ∃ w0, w0 = w9.alloc (.cells #[.int .i64 7, .string ⟨#[]⟩, .slice (some ⟨w8.heap.size, 0, none⟩) 2 2, .slice none 0 0, .int .i64 0] 26) := ⟨_, rfl⟩
        rw [← hw] at hal hS htr hbx hm ht7 ht2 ⊢
        clear hw
        have hB10 := chain hB9 hal
        clear hal
        clear hxl
        refine hKK.out _ _ hS (fun hS => ?_)
        clear hKK KK
        refine wpAnyH_take (i := 6) (v := .agg #[.int .i64 2, .string ⟨#[]⟩, .slice (some ⟨w9.heap.size, 0, none⟩) 1 1, .slice (some ⟨w6.heap.size, 0, none⟩) 1 1, .int .i64 0]) rfl (by kernel_rfl) (by kernel_rfl) (by kernel_rfl) (fun _ _ _ h => h) (Or.inl ⟨by rfl, fun w _ => by go_simp⟩) hS ?_
        simp only [Act.put, List.setIfInBounds_toArray, List.set_cons_zero, List.set_cons_succ]
        refine wpAnyH_ready (rs := [8]) (by kernel_rfl) (by simp) ?_
        refine AllReadyH.cons rfl (fun KK hKK => ?_) AllReadyH.nil
        obtain ⟨c0, c1, c2, c3, c4, f0, f1, f2, f3, f4⟩ := hbx.cells
        go_simp
        clear c0 c1 c2 c3 c4 f0 f1 f2 f3 f4
        have hne : w3.heap.size + 1 ≠ x := by omega
        obtain ⟨w11, hw⟩ : ∃ w0, w0 = ((((w10.setCell ⟨x, 0, none⟩ (.int .i64 2)).setCell ⟨x, 1, none⟩ (.string ⟨#[]⟩)).setCell ⟨x, 2, none⟩ (.slice (some ⟨w9.heap.size, 0, none⟩) 1 1)).setCell ⟨x, 3, none⟩ (.slice (some ⟨w6.heap.size, 0, none⟩) 1 1)).setCell ⟨x, 4, none⟩ (.int .i64 0) := ⟨_, rfl⟩
        rw [← hw]
        have hbx2 : Blk w11 x (.int .i64 2) (.string ⟨#[]⟩) (.slice (some ⟨w9.heap.size, 0, none⟩) 1 1) (.slice (some ⟨w6.heap.size, 0, none⟩) 1 1) (.int .i64 0) := by rw [hw]; exact blk_put w10 x _ _ _ _ _ _ _ _ _ _ hbx
        have htt := rename_names (TrIn.putE ht2 hw) (NmIn.putE hm hw)
        have hB11 : Below w4.heap.size w4 w11 := by rw [hw]; exact ((((hB10.setCell hxg _).setCell hxg _).setCell hxg _).setCell hxg _).setCell hxg _
        replace hS : Blk w11 (w3.heap.size + 1) (.int .i64 6) (.string ⟨#[]⟩) (.slice (some ⟨w3.heap.size, 0, none⟩) 2 2) (.slice none 0 0) (.int .i64 0) := by
          rw [hw]
          unfold Blk at hS ⊢
          rw [heap_put hne, heap_put hne, heap_put hne, heap_put hne, heap_put hne]
          exact hS
        clear hw
        refine hKK.out _ _ hS (fun hS => ?_)
        clear hKK KK
        refine wpAnyH_done (by kernel_rfl) ?_ _
        go_wp2_with fail
        go_meet
        exact ⟨x, _, _, _, _, rfl, hbx2, TrIn.fromB htt, hB11⟩
      · skip
        go_simp
        refine (named_any _ _).mono ?_
        rintro e w7 ⟨rfl, hb⟩
        replace hS := hS.bl2 hb
        replace htr := htr.blw hb
        replace hbx := hbx.bl2 hb
        have hB7 := chain hB6 hb
        clear hb
        refine hKK.out _ _ hS (fun hS => ?_)
        clear hKK KK
        refine wpAnyH_ready (rs := [0, 3]) (by kernel_rfl) (by simp) ?_
        refine AllReadyH.cons rfl (fun KK hKK => ?_) (AllReadyH.cons rfl (fun KK hKK => ?_) AllReadyH.nil)
        · skip
          go_simp
          have hxl := hbx.lt
          have hal := below_alloc w7 (.cells #[.string ⟨#[120]⟩] 9)
          replace hS := hS.bl2 hal
          replace htr := htr.blw hal
          replace hbx := hbx.bl2 hal
          have hm : NmIn (But 0 x) (w7.alloc (.cells #[.string ⟨#[120]⟩] 9)) [[120]] (.slice (some ⟨w7.heap.size, 0, none⟩) 1 1) := (names_one w7 [120]).keep (Nat.le_refl _) (fun g hg => ⟨Nat.zero_le _, by have h : w7.heap.size ≤ g := hg; omega⟩) (fun _ _ _ => rfl)
          obtain ⟨w8, hw⟩ : ∃ w0, w0 = w7.alloc (.cells #[.string ⟨#[120]⟩] 9) := ⟨_, rfl⟩
          rw [← hw] at hal hS htr hbx hm ⊢
          clear hw
          have hB8 := chain hB7 hal
          clear hal
          clear hxl
          refine hKK.out _ _ hS (fun hS => ?_)
          clear hKK KK
          refine wpAnyH_ready (rs := [3]) (by kernel_rfl) (by simp) ?_
          refine AllReadyH.cons rfl (fun KK hKK => ?_) AllReadyH.nil
          go_simp
          have hxl := hbx.lt
          have hal := below_alloc w8 (.cells #[.int .i64 6, .string ⟨#[]⟩, .slice (some ⟨w3.heap.size, 0, none⟩) 2 2, .slice none 0 0, .int .i64 0, .int .i64 1, .string ⟨#[105]⟩, .slice none 0 0, .slice none 0 0, .int .i64 0] 26)
          replace hS := hS.bl2 hal
          replace htr := htr.blw hal
          replace hbx := hbx.bl2 hal
          replace hm := hm.blw hal
          have ht7 : TrIn (But 0 x) (w8.alloc (.cells #[.int .i64 6, .string ⟨#[]⟩, .slice (some ⟨w3.heap.size, 0, none⟩) 2 2, .slice none 0 0, .int .i64 0, .int .i64 1, .string ⟨#[105]⟩, .slice none 0 0, .slice none 0 0, .int .i64 0] 26)) wk7 (.agg #[.int .i64 7, .string ⟨#[]⟩, .slice (some ⟨w8.heap.size, 0, none⟩) 2 2, .slice none 0 0, .int .i64 0]) := TrIn.pair 7 [] [] 0 htr (.leaf 1 [105] [] 0 none 0 _ (.nil none 0)) (.nil none 0) (⟨Nat.zero_le _, by omega⟩) (by simp) (fun j y hj => new_cell _ _ _ _ j y rfl hj)
          obtain ⟨w9, hw⟩ : ∃ w0, w0 = w8.alloc (.cells #[.int .i64 6, .string ⟨#[]⟩, .slice (some ⟨w3.heap.size, 0, none⟩) 2 2, .slice none 0 0, .int .i64 0, .int .i64 1, .string ⟨#[105]⟩, .slice none 0 0, .slice none 0 0, .int .i64 0] 26) := ⟨_, rfl⟩
          rw [← hw] at hal hS htr hbx hm ht7 ⊢
          clear hw
          have hB9 := chain hB8 hal
          clear hal
          clear hxl
          refine hKK.out _ _ hS (fun hS => ?_)
          clear hKK KK
          refine wpAnyH_take (i := 4) (v := .agg #[.int .i64 7, .string ⟨#[]⟩, .slice (some ⟨w8.heap.size, 0, none⟩) 2 2, .slice none 0 0, .int .i64 0]) rfl (by kernel_rfl) (by kernel_rfl) (by kernel_rfl) (fun _ _ _ h => h) (Or.inl ⟨by rfl, fun w _ => by go_simp⟩) hS ?_
          simp only [Act.put, List.setIfInBounds_toArray, List.set_cons_zero, List.set_cons_succ]
          refine wpAnyH_ready (rs := [5]) (by kernel_rfl) (by simp) ?_
          refine AllReadyH.cons rfl (fun KK hKK => ?_) AllReadyH.nil
          go_simp
          have hxl := hbx.lt
          have hal := below_alloc w9 (.cells #[.int .i64 7, .string ⟨#[]⟩, .slice (some ⟨w8.heap.size, 0, none⟩) 2 2, .slice none 0 0, .int .i64 0] 26)
          replace hS := hS.bl2 hal
          replace htr := htr.blw hal
          replace hbx := hbx.bl2 hal
          replace hm := hm.blw hal
          replace ht7 := ht7.blw hal
          have ht2 : TrIn (But 0 x) (w9.alloc (.cells #[.int .i64 7, .string ⟨#[]⟩, .slice (some ⟨w8.heap.size, 0, none⟩) 2 2, .slice none 0 0, .int .i64 0] 26)) (.mk 2 [] [wk7] [] 0) (.agg #[.int .i64 2, .string ⟨#[]⟩, .slice (some ⟨w9.heap.size, 0, none⟩) 1 1, .slice none 0 0, .int .i64 0]) := TrIn.one 2 [] [] 0 ht7 (.nil none 0) (⟨Nat.zero_le _, by omega⟩) (by simp) (fun j y hj => new_cell _ _ _ _ j y rfl hj)
          obtain ⟨w10, hw⟩ : ∃ w0, w0 = w9.alloc (.cells #[.int .i64 7, .string ⟨#[]⟩, .slice (some ⟨w8.heap.size, 0, none⟩) 2 2, .slice none 0 0, .int .i64 0] 26) := ⟨_, rfl⟩
          rw [← hw] at hal hS htr hbx hm ht7 ht2 ⊢
          clear hw
          have hB10 := chain hB9 hal
          clear hal
          clear hxl
          refine hKK.out _ _ hS (fun hS => ?_)
          clear hKK KK
          refine wpAnyH_take (i := 6) (v := .agg #[.int .i64 2, .string ⟨#[]⟩, .slice (some ⟨w9.heap.size, 0, none⟩) 1 1, .slice (some ⟨w7.heap.size, 0, none⟩) 1 1, .int .i64 0]) rfl (by kernel_rfl) (by kernel_rfl) (by kernel_rfl) (fun _ _ _ h => h) (Or.inl ⟨by rfl, fun w _ => by go_simp⟩) hS ?_
          simp only [Act.put, List.setIfInBounds_toArray, List.set_cons_zero, List.set_cons_succ]
          refine wpAnyH_ready (rs := [8]) (by kernel_rfl) (by simp) ?_
          refine AllReadyH.cons rfl (fun KK hKK => ?_) AllReadyH.nil
          obtain ⟨c0, c1, c2, c3, c4, f0, f1, f2, f3, f4⟩ := hbx.cells
          go_simp
          clear c0 c1 c2 c3 c4 f0 f1 f2 f3 f4
          have hne : w3.heap.size + 1 ≠ x := by omega
          obtain ⟨w11, hw⟩ : ∃ w0, w0 = ((((w10.setCell ⟨x, 0, none⟩ (.int .i64 2)).setCell ⟨x, 1, none⟩ (.string ⟨#[]⟩)).setCell ⟨x, 2, none⟩ (.slice (some ⟨w9.heap.size, 0, none⟩) 1 1)).setCell ⟨x, 3, none⟩ (.slice (some ⟨w7.heap.size, 0, none⟩) 1 1)).setCell ⟨x, 4, none⟩ (.int .i64 0) := ⟨_, rfl⟩
          rw [← hw]
          have hbx2 : Blk w11 x (.int .i64 2) (.string ⟨#[]⟩) (.slice (some ⟨w9.heap.size, 0, none⟩) 1 1) (.slice (some ⟨w7.heap.size, 0, none⟩) 1 1) (.int .i64 0) := by rw [hw]; exact blk_put w10 x _ _ _ _ _ _ _ _ _ _ hbx
          have htt := rename_names (TrIn.putE ht2 hw) (NmIn.putE hm hw)
          have hB11 : Below w4.heap.size w4 w11 := by rw [hw]; exact ((((hB10.setCell hxg _).setCell hxg _).setCell hxg _).setCell hxg _).setCell hxg _
          replace hS : Blk w11 (w3.heap.size + 1) (.int .i64 6) (.string ⟨#[]⟩) (.slice (some ⟨w3.heap.size, 0, none⟩) 2 2) (.slice none 0 0) (.int .i64 0) := by
            rw [hw]
            unfold Blk at hS ⊢
            rw [heap_put hne, heap_put hne, heap_put hne, heap_put hne, heap_put hne]
            exact hS
          clear hw
          refine hKK.out _ _ hS (fun hS => ?_)
          clear hKK KK
          refine wpAnyH_done (by kernel_rfl) ?_ _
          go_wp2_with fail
          go_meet
          exact ⟨x, _, _, _, _, rfl, hbx2, TrIn.fromB htt, hB11⟩
        · skip
          go_simp
          have hxl := hbx.lt
          have hal := below_alloc w7 (.cells #[.int .i64 6, .string ⟨#[]⟩, .slice (some ⟨w3.heap.size, 0, none⟩) 2 2, .slice none 0 0, .int .i64 0, .int .i64 1, .string ⟨#[105]⟩, .slice none 0 0, .slice none 0 0, .int .i64 0] 26)
          replace hS := hS.bl2 hal
          replace htr := htr.blw hal
          replace hbx := hbx.bl2 hal
          have ht7 : TrIn (But 0 x) (w7.alloc (.cells #[.int .i64 6, .string ⟨#[]⟩, .slice (some ⟨w3.heap.size, 0, none⟩) 2 2, .slice none 0 0, .int .i64 0, .int .i64 1, .string ⟨#[105]⟩, .slice none 0 0, .slice none 0 0, .int .i64 0] 26)) wk7 (.agg #[.int .i64 7, .string ⟨#[]⟩, .slice (some ⟨w7.heap.size, 0, none⟩) 2 2, .slice none 0 0, .int .i64 0]) := TrIn.pair 7 [] [] 0 htr (.leaf 1 [105] [] 0 none 0 _ (.nil none 0)) (.nil none 0) (⟨Nat.zero_le _, by omega⟩) (by simp) (fun j y hj => new_cell _ _ _ _ j y rfl hj)
          obtain ⟨w8, hw⟩ : ∃ w0, w0 = w7.alloc (.cells #[.int .i64 6, .string ⟨#[]⟩, .slice (some ⟨w3.heap.size, 0, none⟩) 2 2, .slice none 0 0, .int .i64 0, .int .i64 1, .string ⟨#[105]⟩, .slice none 0 0, .slice none 0 0, .int .i64 0] 26) := ⟨_, rfl⟩
          rw [← hw] at hal hS htr hbx ht7 ⊢
          clear hw
          have hB8 := chain hB7 hal
          clear hal
          clear hxl
          refine hKK.out _ _ hS (fun hS => ?_)
          clear hKK KK
          refine wpAnyH_take (i := 4) (v := .agg #[.int .i64 7, .string ⟨#[]⟩, .slice (some ⟨w7.heap.size, 0, none⟩) 2 2, .slice none 0 0, .int .i64 0]) rfl (by kernel_rfl) (by kernel_rfl) (by kernel_rfl) (fun _ _ _ h => h) (Or.inl ⟨by rfl, fun w _ => by go_simp⟩) hS ?_
          simp only [Act.put, List.setIfInBounds_toArray, List.set_cons_zero, List.set_cons_succ]
          refine wpAnyH_ready (rs := [0, 5]) (by kernel_rfl) (by simp) ?_
          refine AllReadyH.cons rfl (fun KK hKK => ?_) (AllReadyH.cons rfl (fun KK hKK => ?_) AllReadyH.nil)
          · skip
            go_simp
            have hxl := hbx.lt
            have hal := below_alloc w8 (.cells #[.string ⟨#[120]⟩] 9)
            replace hS := hS.bl2 hal
            replace htr := htr.blw hal
            replace hbx := hbx.bl2 hal
            replace ht7 := ht7.blw hal
            have hm : NmIn (But 0 x) (w8.alloc (.cells #[.string ⟨#[120]⟩] 9)) [[120]] (.slice (some ⟨w8.heap.size, 0, none⟩) 1 1) := (names_one w8 [120]).keep (Nat.le_refl _) (fun g hg => ⟨Nat.zero_le _, by have h : w8.heap.size ≤ g := hg; omega⟩) (fun _ _ _ => rfl)
            obtain ⟨w9, hw⟩ : ∃ w0, w0 = w8.alloc (.cells #[.string ⟨#[120]⟩] 9) := ⟨_, rfl⟩
            rw [← hw] at hal hS htr hbx ht7 hm ⊢
            clear hw
            have hB9 := chain hB8 hal
            clear hal
            clear hxl
            refine hKK.out _ _ hS (fun hS => ?_)
            clear hKK KK
            refine wpAnyH_ready (rs := [5]) (by kernel_rfl) (by simp) ?_
            refine AllReadyH.cons rfl (fun KK hKK => ?_) AllReadyH.nil
            go_simp
            have hxl := hbx.lt
            have hal := below_alloc w9 (.cells #[.int .i64 7, .string ⟨#[]⟩, .slice (some ⟨w7.heap.size, 0, none⟩) 2 2, .slice none 0 0, .int .i64 0] 26)
            replace hS := hS.bl2 hal
            replace htr := htr.blw hal
            replace hbx := hbx.bl2 hal
            replace ht7 := ht7.blw hal
            replace hm := hm.blw hal
            have ht2 : TrIn (But 0 x) (w9.alloc (.cells #[.int .i64 7, .string ⟨#[]⟩, .slice (some ⟨w7.heap.size, 0, none⟩) 2 2, .slice none 0 0, .int .i64 0] 26)) (.mk 2 [] [wk7] [] 0) (.agg #[.int .i64 2, .string ⟨#[]⟩, .slice (some ⟨w9.heap.size, 0, none⟩) 1 1, .slice none 0 0, .int .i64 0]) := TrIn.one 2 [] [] 0 ht7 (.nil none 0) (⟨Nat.zero_le _, by omega⟩) (by simp) (fun j y hj => new_cell _ _ _ _ j y rfl hj)
            obtain ⟨w10, hw⟩ : ∃ w0, w0 = w9.alloc (.cells #[.int .i64 7, .string ⟨#[]⟩, .slice (some ⟨w7.heap.size, 0, none⟩) 2 2, .slice none 0 0, .int .i64 0] 26) := ⟨_, rfl⟩
            rw [← hw] at hal hS htr hbx ht7 hm ht2 ⊢
            clear hw
            have hB10 := chain hB9 hal
            clear hal
            clear hxl
            refine hKK.out _ _ hS (fun hS => ?_)
            clear hKK KK
            refine wpAnyH_take (i := 6) (v := .agg #[.int .i64 2, .string ⟨#[]⟩, .slice (some ⟨w9.heap.size, 0, none⟩) 1 1, .slice (some ⟨w8.heap.size, 0, none⟩) 1 1, .int .i64 0]) rfl (by kernel_rfl) (by kernel_rfl) (by kernel_rfl) (fun _ _ _ h => h) (Or.inl ⟨by rfl, fun w _ => by go_simp⟩) hS ?_
            simp only [Act.put, List.setIfInBounds_toArray, List.set_cons_zero, List.set_cons_succ]
            refine wpAnyH_ready (rs := [8]) (by kernel_rfl) (by simp) ?_
            refine AllReadyH.cons rfl (fun KK hKK => ?_) AllReadyH.nil
            obtain ⟨c0, c1, c2, c3, c4, f0, f1, f2, f3, f4⟩ := hbx.cells
            go_simp
            clear c0 c1 c2 c3 c4 f0 f1 f2 f3 f4
            have hne : w3.heap.size + 1 ≠ x := by omega
            obtain ⟨w11, hw⟩ : ∃ w0, w0 = ((((w10.setCell ⟨x, 0, none⟩ (.int .i64 2)).setCell ⟨x, 1, none⟩ (.string ⟨#[]⟩)).setCell ⟨x, 2, none⟩ (.slice (some ⟨w9.heap.size, 0, none⟩) 1 1)).setCell ⟨x, 3, none⟩ (.slice (some ⟨w8.heap.size, 0, none⟩) 1 1)).setCell ⟨x, 4, none⟩ (.int .i64 0) := ⟨_, rfl⟩
            rw [← hw]
            have hbx2 : Blk w11 x (.int .i64 2) (.string ⟨#[]⟩) (.slice (some ⟨w9.heap.size, 0, none⟩) 1 1) (.slice (some ⟨w8.heap.size, 0, none⟩) 1 1) (.int .i64 0) := by rw [hw]; exact blk_put w10 x _ _ _ _ _ _ _ _ _ _ hbx
            have htt := rename_names (TrIn.putE ht2 hw) (NmIn.putE hm hw)
            have hB11 : Below w4.heap.size w4 w11 := by rw [hw]; exact ((((hB10.setCell hxg _).setCell hxg _).setCell hxg _).setCell hxg _).setCell hxg _
            replace hS : Blk w11 (w3.heap.size + 1) (.int .i64 6) (.string ⟨#[]⟩) (.slice (some ⟨w3.heap.size, 0, none⟩) 2 2) (.slice none 0 0) (.int .i64 0) := by
              rw [hw]
              unfold Blk at hS ⊢
              rw [heap_put hne, heap_put hne, heap_put hne, heap_put hne, heap_put hne]
              exact hS
            clear hw
            refine hKK.out _ _ hS (fun hS => ?_)
            clear hKK KK
            refine wpAnyH_done (by kernel_rfl) ?_ _
            go_wp2_with fail
            go_meet
            exact ⟨x, _, _, _, _, rfl, hbx2, TrIn.fromB htt, hB11⟩
          · skip
            go_simp
            have hxl := hbx.lt
            have hal := below_alloc w8 (.cells #[.int .i64 7, .string ⟨#[]⟩, .slice (some ⟨w7.heap.size, 0, none⟩) 2 2, .slice none 0 0, .int .i64 0] 26)
            replace hS := hS.bl2 hal
            replace htr := htr.blw hal
            replace hbx := hbx.bl2 hal
            replace ht7 := ht7.blw hal
            have ht2 : TrIn (But 0 x) (w8.alloc (.cells #[.int .i64 7, .string ⟨#[]⟩, .slice (some ⟨w7.heap.size, 0, none⟩) 2 2, .slice none 0 0, .int .i64 0] 26)) (.mk 2 [] [wk7] [] 0) (.agg #[.int .i64 2, .string ⟨#[]⟩, .slice (some ⟨w8.heap.size, 0, none⟩) 1 1, .slice none 0 0, .int .i64 0]) := TrIn.one 2 [] [] 0 ht7 (.nil none 0) (⟨Nat.zero_le _, by omega⟩) (by simp) (fun j y hj => new_cell _ _ _ _ j y rfl hj)
            obtain ⟨w9, hw⟩ : ∃ w0, w0 = w8.alloc (.cells #[.int .i64 7, .string ⟨#[]⟩, .slice (some ⟨w7.heap.size, 0, none⟩) 2 2, .slice none 0 0, .int .i64 0] 26) := ⟨_, rfl⟩
            rw [← hw] at hal hS htr hbx ht7 ht2 ⊢
            clear hw
            have hB9 := chain hB8 hal
            clear hal
            clear hxl
            refine hKK.out _ _ hS (fun hS => ?_)
            clear hKK KK
            refine wpAnyH_ready (rs := [0]) (by kernel_rfl) (by simp) ?_
            refine AllReadyH.cons rfl (fun KK hKK => ?_) AllReadyH.nil
            go_simp
            have hxl := hbx.lt
            have hal := below_alloc w9 (.cells #[.string ⟨#[120]⟩] 9)
            replace hS := hS.bl2 hal
            replace htr := htr.blw hal
            replace hbx := hbx.bl2 hal
            replace ht7 := ht7.blw hal
            replace ht2 := ht2.blw hal
            have hm : NmIn (But 0 x) (w9.alloc (.cells #[.string ⟨#[120]⟩] 9)) [[120]] (.slice (some ⟨w9.heap.size, 0, none⟩) 1 1) := (names_one w9 [120]).keep (Nat.le_refl _) (fun g hg => ⟨Nat.zero_le _, by have h : w9.heap.size ≤ g := hg; omega⟩) (fun _ _ _ => rfl)
            obtain ⟨w10, hw⟩ : ∃ w0, w0 = w9.alloc (.cells #[.string ⟨#[120]⟩] 9) := ⟨_, rfl⟩
            rw [← hw] at hal hS htr hbx ht7 ht2 hm ⊢
            clear hw
            have hB10 := chain hB9 hal
            clear hal
            clear hxl
            refine hKK.out _ _ hS (fun hS => ?_)
            clear hKK KK
            refine wpAnyH_take (i := 6) (v := .agg #[.int .i64 2, .string ⟨#[]⟩, .slice (some ⟨w8.heap.size, 0, none⟩) 1 1, .slice (some ⟨w9.heap.size, 0, none⟩) 1 1, .int .i64 0]) rfl (by kernel_rfl) (by kernel_rfl) (by kernel_rfl) (fun _ _ _ h => h) (Or.inl ⟨by rfl, fun w _ => by go_simp⟩) hS ?_
            simp only [Act.put, List.setIfInBounds_toArray, List.set_cons_zero, List.set_cons_succ]
            refine wpAnyH_ready (rs := [8]) (by kernel_rfl) (by simp) ?_
            refine AllReadyH.cons rfl (fun KK hKK => ?_) AllReadyH.nil
            obtain ⟨c0, c1, c2, c3, c4, f0, f1, f2, f3, f4⟩ := hbx.cells
            go_simp
            clear c0 c1 c2 c3 c4 f0 f1 f2 f3 f4
            have hne : w3.heap.size + 1 ≠ x := by omega
            obtain ⟨w11, hw⟩ : ∃ w0, w0 = ((((w10.setCell ⟨x, 0, none⟩ (.int .i64 2)).setCell ⟨x, 1, none⟩ (.string ⟨#[]⟩)).setCell ⟨x, 2, none⟩ (.slice (some ⟨w8.heap.size, 0, none⟩) 1 1)).setCell ⟨x, 3, none⟩ (.slice (some ⟨w9.heap.size, 0, none⟩) 1 1)).setCell ⟨x, 4, none⟩ (.int .i64 0) := ⟨_, rfl⟩
            rw [← hw]
            have hbx2 : Blk w11 x (.int .i64 2) (.string ⟨#[]⟩) (.slice (some ⟨w8.heap.size, 0, none⟩) 1 1) (.slice (some ⟨w9.heap.size, 0, none⟩) 1 1) (.int .i64 0) := by rw [hw]; exact blk_put w10 x _ _ _ _ _ _ _ _ _ _ hbx
            have htt := rename_names (TrIn.putE ht2 hw) (NmIn.putE hm hw)
            have hB11 : Below w4.heap.size w4 w11 := by rw [hw]; exact ((((hB10.setCell hxg _).setCell hxg _).setCell hxg _).setCell hxg _).setCell hxg _
            replace hS : Blk w11 (w3.heap.size + 1) (.int .i64 6) (.string ⟨#[]⟩) (.slice (some ⟨w3.heap.size, 0, none⟩) 2 2) (.slice none 0 0) (.int .i64 0) := by
              rw [hw]
              unfold Blk at hS ⊢
              rw [heap_put hne, heap_put hne, heap_put hne, heap_put hne, heap_put hne]
              exact hS
            clear hw
            refine hKK.out _ _ hS (fun hS => ?_)
            clear hKK KK
            refine wpAnyH_done (by kernel_rfl) ?_ _
            go_wp2_with fail
            go_meet
            exact ⟨x, _, _, _, _, rfl, hbx2, TrIn.fromB htt, hB11⟩
  case rest =>
    obtain ⟨x, kax, kcx, nax, ncx, rfl, bx, tx, hBc⟩ := hcut
    clear b4 t4 h34
    replace ht1 := ht1.blw hBc
    replace k1 := k1.bl2 hBc
    have hB5 := chain hB4 hBc
    clear hB4 hBc
    obtain ⟨l2, h2⟩ := wk2
    obtain ⟨l3, h3⟩ := wk3
    obtain ⟨l5, h5⟩ := wk5
    have c := term_any 700000 (by omega) (by omega) ⟨#[40, 120, 32, 58, 32, 65, 41, 32, 45, 62, 32, 66]⟩ wc (by decide) (hT.below hB5)
    rw [h2] at c
    go_wp2_with fail
    refine c.mono ?_
    rintro e w6 ⟨v6, rfl, hv6, hb⟩
    clear c
    replace k1 := k1.bl2 hb
    replace ht1 := ht1.blw hb
    replace bx := bx.bl2 hb
    replace tx := tx.blw hb
    have hB6 := chain hB5 hb
    clear hb
    obtain ⟨vk, vn, rfl, hf, ka6, kc6, rfl⟩ := hv6.form
    obtain ⟨na6, nc6, rfl⟩ := hf.form
    clear hf hv6
    simp only [zeroTr, Tr.kind, Tr.name, Tr.kids, Tr.names, Tr.at_, List.length_cons, List.length_nil, Nat.zero_add]
    have hal := below_alloc w6 (.cells #[.int .i64 4, .string (bs []), .slice ka6 l2.length kc6, .slice na6 1 nc6, .int .i64 0] 26)
    have k7 := blk_new w6 (.int .i64 4) (.string (bs [])) (.slice ka6 l2.length kc6) (.slice na6 1 nc6) (.int .i64 0)
    replace k1 := k1.bl2 hal
    replace ht1 := ht1.blw hal
    replace bx := bx.bl2 hal
    replace tx := tx.blw hal
    obtain ⟨w7, hw⟩ : ∃ w0, w0 = w6.alloc (.cells #[.int .i64 4, .string (bs []), .slice ka6 l2.length kc6, .slice na6 1 nc6, .int .i64 0] 26) := ⟨_, rfl⟩
    rw [← hw] at hal k1 ht1 bx tx k7
    have HW7 : Hid (_ = _) := hw
    clear hw
    have hB7 := chain hB6 hal
    clear hal
    have c := term_any 700000 (by omega) (by omega) ⟨#[40, 120, 32, 58, 32, 65, 41, 32, 121]⟩ w7 (by decide) (hT.below hB7)
    rw [h3] at c
    go_wp2_with fail
    rw [← HW7.out]
    refine c.mono ?_
    rintro e w8 ⟨v8, rfl, hv8, hb⟩
    clear c
    replace k1 := k1.bl2 hb
    replace ht1 := ht1.blw hb
    replace bx := bx.bl2 hb
    replace tx := tx.blw hb
    replace k7 := k7.bl2 hb
    have hB8 := chain hB7 hb
    clear hb
    obtain ⟨vk, vn, rfl, hf, ka8, kc8, rfl⟩ := hv8.form
    obtain ⟨na8, nc8, rfl⟩ := hf.form
    clear hf hv8
    simp only [zeroTr, Tr.kind, Tr.name, Tr.kids, Tr.names, Tr.at_, List.length_cons, List.length_nil, Nat.zero_add]
    have hal := below_alloc w8 (.cells #[.int .i64 6, .string (bs []), .slice ka8 l3.length kc8, .slice na8 0 nc8, .int .i64 0] 26)
    have k9 := blk_new w8 (.int .i64 6) (.string (bs [])) (.slice ka8 l3.length kc8) (.slice na8 0 nc8) (.int .i64 0)
    replace k1 := k1.bl2 hal
    replace ht1 := ht1.blw hal
    replace bx := bx.bl2 hal
    replace tx := tx.blw hal
    replace k7 := k7.bl2 hal
    obtain ⟨w9, hw⟩ : ∃ w0, w0 = w8.alloc (.cells #[.int .i64 6, .string (bs []), .slice ka8 l3.length kc8, .slice na8 0 nc8, .int .i64 0] 26) := ⟨_, rfl⟩
    rw [← hw] at hal k1 ht1 bx tx k7 k9
    have HW9 : Hid (_ = _) := hw
    clear hw
    have hB9 := chain hB8 hal
    clear hal
    have c := term_any 700000 (by omega) (by omega) ⟨#[102, 32, 41]⟩ w9 (by decide) (hT.below hB9)
    rw [wk4] at c
    go_wp2_with fail
    rw [← HW9.out]
    refine c.mono ?_
    rintro e w10 ⟨v10, rfl, hv10, hb⟩
    clear c
    replace k1 := k1.bl2 hb
    replace ht1 := ht1.blw hb
    replace bx := bx.bl2 hb
    replace tx := tx.blw hb
    replace k7 := k7.bl2 hb
    replace k9 := k9.bl2 hb
    have hB10 := chain hB9 hb
    clear hb
    have hz : v10 = .agg #[.int .i64 0, .string (bs []), .slice none 0 0, .slice none 0 0, .int .i64 0] ∨ True := .inr trivial
    clear hz
    obtain ⟨vk, vn, rfl, hf, ka10, kc10, rfl⟩ := hv10.form
    obtain ⟨na10, nc10, rfl⟩ := hf.form
    clear hf hv10
    simp only [zeroTr, Tr.kind, Tr.name, Tr.kids, Tr.names, Tr.at_, List.length_cons, List.length_nil, Nat.zero_add]
    have hal := below_alloc w10 (.cells #[.int .i64 0, .string (bs []), .slice ka10 0 kc10, .slice na10 0 nc10, .int .i64 0] 26)
    have k11 := blk_new w10 (.int .i64 0) (.string (bs [])) (.slice ka10 0 kc10) (.slice na10 0 nc10) (.int .i64 0)
    replace k1 := k1.bl2 hal
    replace ht1 := ht1.blw hal
    replace bx := bx.bl2 hal
    replace tx := tx.blw hal
    replace k7 := k7.bl2 hal
    replace k9 := k9.bl2 hal
    obtain ⟨w11, hw⟩ : ∃ w0, w0 = w10.alloc (.cells #[.int .i64 0, .string (bs []), .slice ka10 0 kc10, .slice na10 0 nc10, .int .i64 0] 26) := ⟨_, rfl⟩
    rw [← hw] at hal k1 ht1 bx tx k7 k9 k11
    have HW11 : Hid (_ = _) := hw
    clear hw
    have hB11 := chain hB10 hal
    clear hal
    have c := parse_any 700000 70000 (by omega) (by omega) (by omega) (by omega) ⟨#[102, 32, 58, 32, 85, 32, 61, 32, 85, 59]⟩ w11 (by decide) (hT.below hB11)
    rw [h5] at c
    go_wp2_with fail
    rw [← HW11.out]
    refine c.mono ?_
    rintro e w12 ⟨v12, rfl, hv12, hb⟩
    clear c
    replace k1 := k1.bl2 hb
    replace ht1 := ht1.blw hb
    replace bx := bx.bl2 hb
    replace tx := tx.blw hb
    replace k7 := k7.bl2 hb
    replace k9 := k9.bl2 hb
    replace k11 := k11.bl2 hb
    have hB12 := chain hB11 hb
    clear hb
    obtain ⟨aP, cP, rfl⟩ := hv12.form
    obtain ⟨gP, oP, u0, u1, u2, u3, u4, rfl, hgP, htP, q0, q1, q2, q3, q4⟩ := TrIn.look hv12.1 (j := 0) rfl
    have q5 : u0 = .int .i64 18 := by
      obtain ⟨_, _, he, _⟩ := htP.form
      injection he with he
      simp only [Array.mk.injEq, List.cons.injEq, and_true] at he
      exact he.1
    subst q5
    clear htP q1 q2 q3 q4
    simp only [List.length_cons, List.length_nil, Nat.zero_add, Nat.zero_mul, Nat.add_zero] at q0 ⊢
    obtain ⟨c0, c1, c2, c3, c4, _⟩ := k1.cells
    obtain ⟨d0, d1, d2, d3, d4, _⟩ := bx.cells
    have cS := same_any false _ _ _ _ _ _ w12 wk_sm ht1 tx
    go_wp2_with fail
    refine cS.mono ?_
    rintro e w99 ⟨rfl, hb⟩
    clear cS c0 c1 c2 c3 c4 d0 d1 d2 d3 d4
    obtain ⟨e00, e01, e02, e03, e04, _⟩ := (k7.bl2 hb).cells
    obtain ⟨e10, e11, e12, e13, e14, _⟩ := (k9.bl2 hb).cells
    obtain ⟨e20, e21, e22, e23, e24, _⟩ := (k11.bl2 hb).cells
    have q9 := (hb.cell (p := ⟨gP, oP, none⟩) hgP).trans q0
    clear q0
    go_wp2_with fail
    go_ret
    exact ⟨rfl, chain hB12 hb⟩
end Go.Proofs.YtekcpglapkpenaaDoor
