/- The walks of ShowTerms and ShowFiles. -/
import Derived.Test.YtpfnjeefhddikaaSWorks
namespace Go.Proofs.Ytpfnjeefhddikaa
open Go.RowKit
set_option linter.unusedVariables false
set_option linter.unusedSimpArgs false

/-- A row of trees that came in. -/
def LsS (W : World) (v : Value) (l : List Sx) : Prop := ∃ a cap, v = .slice a l.length cap ∧ KdP W.heap.size W (SxIn W.heap.size W) l a
theorem blkK_len (l : List Sx) : l.length ≤ blkK l := by
  unfold blkK
  induction l with
  | nil => simp
  | cons x l ih => have := blk_pos x; simp; omega
theorem great_no {l : List Sx} (h : greatB l = false) : blkK l ≤ 1500 := by
  unfold greatB at h
  rw [blk_mk] at h
  simp only [decide_eq_false_iff_not] at h
  omega
set_option maxRecDepth 100000 in
set_option maxHeartbeats 2000000 in
theorem walk_ShowFiles (l : List Sx) (v : Value) (W : World) (h : LsS W v l) : Calls Try.prog 4 #[v] W fun e w' => e = .returned (.bool true) ∧ Below W.heap.size W w' := by
  obtain ⟨a, cap, rfl, hK⟩ := h
  have cG := great_any W.heap.size l a cap W hK (Nat.le_refl _)
  cases hg : greatB l
  · rw [hg] at cG
    have hb := great_no hg
    have hl := blkK_len l
    have hm : ∀ x ∈ l, blk x ≤ 1000000 := fun x hx => by have := mem_blkK hx; omega
    clear hg
    have HK : Hid (KdP W.heap.size W (SxIn W.heap.size W) l a) := hK
    obtain ⟨L, hL⟩ : ∃ L, L = l.length := ⟨_, rfl⟩
    have cS := fun w1 (hb1 : Below W.heap.size W w1) => sFile_any W.heap.size l a cap w1 (HK.out.all hb1) hb1.size (by omega) hm
    have cR := fun w1 (hb1 : Below W.heap.size W w1) => rFile_any W.heap.size l a cap w1 (HK.out.all hb1) hb1.size (by omega) (by omega)
    rw [← hL] at cS cR cG ⊢
    have q1 := bs_beq2 (fileT 65536 l).1 (fileT 65536 l).1
    rw [decide_eq_true rfl] at q1
    obtain ⟨S, hS⟩ : ∃ S, S = (fileT 65536 l).1 := ⟨_, rfl⟩
    obtain ⟨E, hE⟩ : ∃ E, E = (fileT 65536 l).2 := ⟨_, rfl⟩
    rw [← hS, ← hE] at cS cR
    rw [← hS] at q1
    clear hS hE hL hb hl hm hK
    go_enter Try.func4, Try.ntmps4
    go_wp2_with fail
    refine cG.mono ?_
    rintro e w2 ⟨rfl, hb2⟩
    go_wp2_with fail
    refine (cS w2 hb2).mono ?_
    rintro e w3 ⟨rfl, hb3⟩
    have hal3 := chain hb2 hb3
    go_wp2_with fail
    refine (cR w3 hal3).mono ?_
    rintro e w4 ⟨rfl, hb4⟩
    have hal4 := chain hal3 hb4
    go_wp2_with fail
    refine (lawWorks_any w4).mono ?_
    rintro e w5 ⟨rfl, hb5⟩
    go_wp2_with fail
    go_ret
    exact ⟨rfl, chain hal4 hb5⟩
  · rw [hg] at cG
    clear hK hg
    go_enter Try.func4, Try.ntmps4
    go_wp2_with fail
    refine cG.mono ?_
    rintro e w2 ⟨rfl, hb2⟩
    go_wp2_with fail
    refine (lawWorks_any w2).mono ?_
    rintro e w3 ⟨rfl, hb3⟩
    go_wp2_with fail
    go_ret
    exact ⟨rfl, chain hb2 hb3⟩
set_option maxRecDepth 100000 in
set_option maxHeartbeats 4000000 in
theorem walk_ShowTerms (t : Sx) (v : Value) (W : World) (h : SxIn W.heap.size W t v) : Calls Try.prog 3 #[v] W fun e w' => e = .returned (.bool true) ∧ Below W.heap.size W w' := by
  obtain ⟨ka, kc, na, nc, rfl, _, _⟩ := h.form
  obtain ⟨w1, hw1⟩ : ∃ w1, w1 = W.alloc (.cells #[.int .i64 t.kind, .string (bs t.name), .slice ka t.kids.length kc, .slice na t.names.length nc, .int .i64 t.at_] 25) := ⟨_, rfl⟩
  have hb1 : Below W.heap.size W w1 := by rw [hw1]; exact below_alloc _ _
  have hB1 : Bx w1 W.heap.size (.int .i64 t.kind) (.string (bs t.name)) (.slice ka t.kids.length kc) (.slice na t.names.length nc) (.int .i64 t.at_) := by rw [hw1]; exact bx_new _ _ _ _ _ _
  have hs1 : w1.heap.size = W.heap.size + 1 := by rw [hw1]; exact alloc_size1 _ _
  have Hw1 : Hid (_ = _) := hw1
  clear hw1
  obtain ⟨w2, hw2⟩ : ∃ w2, w2 = w1.alloc (.cells #[.int .i64 t.kind, .string (bs t.name), .slice ka t.kids.length kc, .slice na t.names.length nc, .int .i64 t.at_] 25) := ⟨_, rfl⟩
  have hb2 : Below w1.heap.size w1 w2 := by rw [hw2]; exact below_alloc _ _
  have hk2 := kdp_one 25 (h.keep hb1) hb1.size w2 hw2
  rw [hs1] at hk2
  have Hw2 : Hid (_ = _) := hw2
  clear hw2
  have hal2 := chain hb1 hb2
  have hB2 := hB1.blw hb2
  have cG := great_any w2.heap.size [t] _ 1 w2 hk2 (Nat.le_refl _)
  have hkeep : ∀ w', Below W.heap.size W w' → SxIn W.heap.size w' t (.agg #[.int .i64 t.kind, .string (bs t.name), .slice ka t.kids.length kc, .slice na t.names.length nc, .int .i64 t.at_]) := fun w' hb => h.keep hb
  cases hg : greatB [t]
  · rw [hg] at cG
    have hb := Nat.le_trans (mem_blkK (l := [t]) (y := t) (by simp)) (great_no hg)
    clear hg
    have cS := fun w' (hb' : Below W.heap.size W w') => sTerm_any W.heap.size t _ w' (hkeep w' hb') hb'.size (by omega)
    have cR := fun w' (hb' : Below W.heap.size W w') => rTerm_any W.heap.size t _ w' (hkeep w' hb') hb'.size (by omega)
    have cA := fun w' (hb' : Below W.heap.size W w') => right_any W.heap.size t _ w' (hkeep w' hb') hb'.size (by omega)
    have cQ := fun w' (hb' : Below W.heap.size W w') => rRight_any 65536 W.heap.size t _ w' (hkeep w' hb') hb'.size (by omega) (Nat.le_refl _)
    have q1 := bs_beq2 (termT 65536 t).1 (termT 65536 t).1
    rw [decide_eq_true rfl] at q1
    obtain ⟨S, hS⟩ : ∃ S, S = (termT 65536 t).1 := ⟨_, rfl⟩
    obtain ⟨E, hE⟩ : ∃ E, E = (termT 65536 t).2 := ⟨_, rfl⟩
    rw [← hS, ← hE] at cS cR
    rw [← hS] at q1
    clear hS hE hb hk2 h hkeep
    go_enter Try.func3, Try.ntmps3
    go_wp2_with fail
    rw [← Hw1.out, ← Hw2.out]
    clear Hw1 Hw2
    refine cG.mono ?_
    rintro e w3 ⟨rfl, hb3⟩
    clear cG
    have hB3 := hB2.blw hb3
    have hal3 := chain hal2 hb3
    obtain ⟨x0, x1, x2, x3, x4⟩ := hB3.cells
    go_wp2_with fail
    refine (cS w3 hal3).mono ?_
    rintro e w4 ⟨rfl, hb4⟩
    clear cS x0 x1 x2 x3 x4
    have hB4 := hB3.blw hb4
    have hal4 := chain hal3 hb4
    obtain ⟨x0, x1, x2, x3, x4⟩ := hB4.cells
    go_wp2_with fail
    refine (cR w4 hal4).mono ?_
    rintro e w5 ⟨rfl, hb5⟩
    clear cR x0 x1 x2 x3 x4
    have hB5 := hB4.blw hb5
    have hal5 := chain hal4 hb5
    obtain ⟨x0, x1, x2, x3, x4⟩ := hB5.cells
    have X0 : ∀ u : ClsS w5, u.1.cell? ⟨W.heap.size, 0, none⟩ = _ := fun u => (u.2.cell (p := ⟨W.heap.size, 0, none⟩) hB5.lt).trans x0
    have X1 : ∀ u : ClsS w5, u.1.cell? ⟨W.heap.size, 1, none⟩ = _ := fun u => (u.2.cell (p := ⟨W.heap.size, 1, none⟩) hB5.lt).trans x1
    have X2 : ∀ u : ClsS w5, u.1.cell? ⟨W.heap.size, 2, none⟩ = _ := fun u => (u.2.cell (p := ⟨W.heap.size, 2, none⟩) hB5.lt).trans x2
    have X3 : ∀ u : ClsS w5, u.1.cell? ⟨W.heap.size, 3, none⟩ = _ := fun u => (u.2.cell (p := ⟨W.heap.size, 3, none⟩) hB5.lt).trans x3
    have X4 : ∀ u : ClsS w5, u.1.cell? ⟨W.heap.size, 4, none⟩ = _ := fun u => (u.2.cell (p := ⟨W.heap.size, 4, none⟩) hB5.lt).trans x4
    have HcR : Hid (∀ u : ClsS w5, _) := fun u : ClsS w5 => clsS_call u (cA u.1 (chain hal5 u.2))
    have HcQ : Hid (∀ u : ClsS w5, _) := fun u : ClsS w5 => clsS_call u (cQ u.1 (chain hal5 u.2))
    have HcW : Hid (∀ u : ClsS w5, _) := fun u : ClsS w5 => clsS_call u (lawWorks_any u.1)
    clear cA cQ
    have hne := clsS_any w5
    cases hok : okF 65536 0 t
    · rw [hok] at HcR HcQ
      simp only [Bool.false_eq_true, if_false] at HcR
      clear hok
      go_wp2_with fail
      refine wp_region_clsS (by kernel_rfl) (by kernel_rfl) ?_
      iterate 12 (quiet_step (exact HcR.out _))
      iterate 2 (quiet_step (exact HcQ.out _))
      iterate 13 (quiet_step (exact HcR.out _))
      repeat (quiet_step (exact HcW.out _))
      refine wpQuiet_nil ?_
      rintro _ ⟨u, rfl⟩
      go_wp2_with fail
      go_ret
      exact ⟨rfl, chain hal5 u.2⟩
    · rw [hok] at HcR HcQ
      simp only [if_true] at HcR
      clear hok
      go_wp2_with fail
      refine wp_region_clsS (by kernel_rfl) (by kernel_rfl) ?_
      iterate 12 (quiet_step (exact HcR.out _))
      iterate 2 (quiet_step (exact HcQ.out _))
      iterate 13 (quiet_step (exact HcR.out _))
      repeat (quiet_step (exact HcW.out _))
      refine wpQuiet_nil ?_
      rintro _ ⟨u, rfl⟩
      go_wp2_with fail
      go_ret
      exact ⟨rfl, chain hal5 u.2⟩
  · rw [hg] at cG
    clear hk2 hg hkeep h
    go_enter Try.func3, Try.ntmps3
    go_wp2_with fail
    rw [← Hw1.out, ← Hw2.out]
    clear Hw1 Hw2
    refine cG.mono ?_
    rintro e w3 ⟨rfl, hb3⟩
    go_wp2_with fail
    refine (lawWorks_any w3).mono ?_
    rintro e w4 ⟨rfl, hb4⟩
    go_wp2_with fail
    go_ret
    exact ⟨rfl, chain (chain hal2 hb3) hb4⟩
end Go.Proofs.Ytpfnjeefhddikaa
