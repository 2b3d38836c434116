/- What is asked of a node: its row, its fields. -/
import Derived.Test.YtocfamcclfhkcaaGreatYOkB
namespace Go.Proofs.YtocfamcclfhkcaaGreat
open Go.RowKit
set_option linter.unusedVariables false
set_option linter.unusedSimpArgs false

set_option maxRecDepth 100000 in
set_option maxHeartbeats 8000000 in
theorem row_any (V : Int) (D : Nat) (o : Bool) (bv bd g off : Nat) (t : Tm) (a : Option Addr) (cap : Nat) (w : World) (hlt : g < w.heap.size) (h0 : w.cell? ⟨g, off, none⟩ = some (.int .i64 t.kind)) (h3 : w.cell? ⟨g, off + 3, none⟩ = some (.slice a t.r.length cap)) (hv : ClRow Tt w t.r (.slice a t.r.length cap)) (hl : t.r.length ≤ 100000) (hD : D ≤ 24) (hb : bd ≤ 1000000) :
    Calls Tryz.prog 153 #[.agg #[.int .i64 V, .int .i64 (D : Int), .bool o], .pointer (some ⟨g, off, none⟩), .agg #[.int .i64 (bv : Int), .int .i64 (bd : Int)]] w fun e w' => e = .returned (.bool (rowB o (D + bd) t.kind t.r)) ∧ Below w.heap.size w w' := by
  obtain ⟨w2, hw2, hb2, s2, m1, m2⟩ := box_outs w V D o bv bd
  obtain ⟨f, hf⟩ : ∃ f, f = rightF t.r := ⟨_, rfl⟩
  obtain ⟨fa, hfa⟩ : ∃ f, f = rightA t.r := ⟨_, rfl⟩
  obtain ⟨rb, hrb⟩ : ∃ f, f = reachB o (D + bd) t.r := ⟨_, rfl⟩
  have HF : Hid (∀ u : Cw w2, Calls Tryz.prog 91 #[.slice a t.r.length cap] u.1 fun e w' => e = .returned (.bool f) ∧ ∃ u' : Cw w2, w' = u'.1) := fun u => cw_call u (by rw [hf]; exact fright_any t.r _ u.1 ((hv.blw (bchain hb2 u.2)).frow) hl)
  have HA : Hid (∀ u : Cw w2, Calls Tryz.prog 86 #[.slice a t.r.length cap] u.1 fun e w' => e = .returned (.bool fa) ∧ ∃ u' : Cw w2, w' = u'.1) := fun u => cw_call u (by rw [hfa]; exact aright_any t.r _ u.1 ((hv.blw (bchain hb2 u.2)).frow) hl)
  have HRc : Hid (∀ u : Cw w2, Calls Tryz.prog 155 #[.agg #[.int .i64 V, .int .i64 (D : Int), .bool o], .slice a t.r.length cap, .agg #[.int .i64 (bv : Int), .int .i64 (bd : Int)]] u.1 fun e w' => e = .returned (.bool rb) ∧ ∃ u' : Cw w2, w' = u'.1) := fun u => cw_call u (by rw [hrb]; exact reaches_any V D o bv bd t.r _ u.1 (hv.blw (bchain hb2 u.2)) hl hD hb)
  have x0 : ∀ u : Cw w2, u.1.cell? ⟨w.heap.size, 0, none⟩ = some (.int .i64 V) := fun u => (cells3 ((u.2.block _ (by omega)).trans m1)).1
  have x1 : ∀ u : Cw w2, u.1.cell? ⟨w.heap.size, 1, none⟩ = some (.int .i64 (D : Int)) := fun u => (cells3 ((u.2.block _ (by omega)).trans m1)).2.1
  have x2 : ∀ u : Cw w2, u.1.cell? ⟨w.heap.size, 2, none⟩ = some (.bool o) := fun u => (cells3 ((u.2.block _ (by omega)).trans m1)).2.2
  have y0 : ∀ u : Cw w2, u.1.cell? ⟨w.heap.size + 1, 0, none⟩ = some (.int .i64 (bv : Int)) := fun u => (cells2 ((u.2.block _ (by omega)).trans m2)).1
  have y1 : ∀ u : Cw w2, u.1.cell? ⟨w.heap.size + 1, 1, none⟩ = some (.int .i64 (bd : Int)) := fun u => (cells2 ((u.2.block _ (by omega)).trans m2)).2
  have k0 := (hb2.cell (p := ⟨g, off, none⟩) hlt).trans h0
  have k3 : ∀ u : Cw w2, u.1.cell? ⟨g, off + 3, none⟩ = some (.slice a t.r.length cap) := fun u => ((bchain hb2 u.2).cell (p := ⟨g, off + 3, none⟩) hlt).trans h3
  have e3 := (hb2.cell (p := ⟨g, off + 3, none⟩) hlt).trans h3
  have hne := cw_any w2
  have H2 : Hid (_ = _) := hw2
  obtain ⟨k, hk⟩ : ∃ k, k = t.kind := ⟨_, rfl⟩
  obtain ⟨n, hn⟩ : ∃ n, n = t.r.length := ⟨_, rfl⟩
  have HR : Hid (rowB o (D + bd) t.kind t.r = if k = 13 ∨ k = 21 ∨ k = 26 then f && rb else if k = 14 then fa && rb else decide (n = 0)) := by show _ = _; rw [hf, hfa, hrb, hn, hk]; rfl
  rw [← hk] at k0
  rw [← hn] at HF HA HRc k3 e3
  clear hw2 m1 m2 hv hn hl hf hfa hrb hk h0 h3 s2
  by_cases hk1 : k = 13 ∨ k = 21 ∨ k = 26
  · rw [if_pos hk1] at HR
    rcases hk1 with rfl | rfl | rfl
    all_goals
      cases f with
      | true =>
        go_enter Tryz.func153, Tryz.ntmps153
        go_upto_region 1 with fail
        rw [← H2.out]
        go_wp2_with fail
        refine wp_region_cw (by kernel_rfl) (by kernel_rfl) ?_
        repeat (first | go_big_quiet_step (fail) | quiet_step (fail))
        first | go_big_quiet_step (exact HF.out _) | quiet_step (exact HF.out _)
        repeat (first | go_big_quiet_step (fail) | quiet_step (fail))
        first | go_big_quiet_step (exact HRc.out _) | quiet_step (exact HRc.out _)
        repeat (first | go_big_quiet_step (fail) | quiet_step (fail))
        refine wpQuiet_nil ?_
        rintro _ ⟨u, rfl⟩
        obtain ⟨w5, hb5⟩ := u
        dsimp only
        have hal := bchain hb2 hb5
        clear x0 x1 x2 y0 y1 k0 k3 hne HF HA HRc
        go_wp2
        go_ret
        exact ⟨ret_bool (by rw [HR.out]; rfl), hal⟩
      | false =>
        go_enter Tryz.func153, Tryz.ntmps153
        go_upto_region 1 with fail
        rw [← H2.out]
        go_wp2_with fail
        refine wp_region_cw (by kernel_rfl) (by kernel_rfl) ?_
        repeat (first | go_big_quiet_step (fail) | quiet_step (fail))
        first | go_big_quiet_step (exact HF.out _) | quiet_step (exact HF.out _)
        repeat (first | go_big_quiet_step (fail) | quiet_step (fail))
        refine wpQuiet_nil ?_
        rintro _ ⟨u, rfl⟩
        obtain ⟨w5, hb5⟩ := u
        dsimp only
        have hal := bchain hb2 hb5
        clear x0 x1 x2 y0 y1 k0 k3 hne HF HA HRc
        go_wp2
        go_ret
        exact ⟨ret_bool (by rw [HR.out]; rfl), hal⟩
  · rw [if_neg hk1] at HR
    have q1 : ¬ k = 13 := by omega
    have q2 : ¬ k = 21 := by omega
    have q3 : ¬ k = 26 := by omega
    clear hk1
    by_cases hk2 : k = 14
    · rw [if_pos hk2] at HR
      subst hk2
      cases fa with
      | true =>
        go_enter Tryz.func153, Tryz.ntmps153
        go_upto_region 1 with fail
        rw [← H2.out]
        go_wp2_with fail
        refine wp_region_cw (by kernel_rfl) (by kernel_rfl) ?_
        repeat (first | go_big_quiet_step (fail) | quiet_step (fail))
        first | go_big_quiet_step (exact HA.out _) | quiet_step (exact HA.out _)
        repeat (first | go_big_quiet_step (fail) | quiet_step (fail))
        first | go_big_quiet_step (exact HRc.out _) | quiet_step (exact HRc.out _)
        repeat (first | go_big_quiet_step (fail) | quiet_step (fail))
        refine wpQuiet_nil ?_
        rintro _ ⟨u, rfl⟩
        obtain ⟨w5, hb5⟩ := u
        dsimp only
        have hal := bchain hb2 hb5
        clear x0 x1 x2 y0 y1 k0 k3 hne HF HA HRc
        go_wp2
        go_ret
        exact ⟨ret_bool (by rw [HR.out]; rfl), hal⟩
      | false =>
        go_enter Tryz.func153, Tryz.ntmps153
        go_upto_region 1 with fail
        rw [← H2.out]
        go_wp2_with fail
        refine wp_region_cw (by kernel_rfl) (by kernel_rfl) ?_
        repeat (first | go_big_quiet_step (fail) | quiet_step (fail))
        first | go_big_quiet_step (exact HA.out _) | quiet_step (exact HA.out _)
        repeat (first | go_big_quiet_step (fail) | quiet_step (fail))
        refine wpQuiet_nil ?_
        rintro _ ⟨u, rfl⟩
        obtain ⟨w5, hb5⟩ := u
        dsimp only
        have hal := bchain hb2 hb5
        clear x0 x1 x2 y0 y1 k0 k3 hne HF HA HRc
        go_wp2
        go_ret
        exact ⟨ret_bool (by rw [HR.out]; rfl), hal⟩
    · rw [if_neg hk2] at HR
      clear x0 x1 x2 y0 y1 k3 hne HF HA HRc
      go_enter Tryz.func153, Tryz.ntmps153
      go_upto_region 1 with fail
      rw [← H2.out]
      go_wp2
      go_ret
      exact ⟨ret_bool (by rw [HR.out, Bool.eq_iff_iff]; simp), hb2⟩
end Go.Proofs.YtocfamcclfhkcaaGreat
