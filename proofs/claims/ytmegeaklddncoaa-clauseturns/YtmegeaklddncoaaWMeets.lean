/- The walk of the law ClauseMeets: the call returns true; nothing that lay before it turns. -/
import Derived.BigQuiet
import Derived.Test.YtmegeaklddncoaaCBox
namespace Go.Proofs.Ytmegeaklddncoaa
open Go.RowKit Go.Sort
set_option linter.unusedVariables false
set_option linter.unusedSimpArgs false

theorem testBit_meetP (a b : C) (k : Nat) : (meetC a b).1.val.testBit k = (decide (k < 24) && (a.1.val.testBit k || b.1.val.testBit k)) := by
  show (meetP a b).testBit k = _
  rw [meetP, testBit_low, Nat.testBit_or]
theorem testBit_meetN (a b : C) (k : Nat) : (meetC a b).2.val.testBit k = (decide (k < 24) && (a.2.val.testBit k || b.2.val.testBit k)) := by
  show (meetN a b).testBit k = _
  rw [meetN, testBit_low, Nat.testBit_or]
theorem meet_le (a b : C) : belC (meetC a b) a = true := by
  rw [belC_iff]
  exact ⟨fun k hk h => by rw [testBit_meetP, h]; simp [hk], fun k hk h => by rw [testBit_meetN, h]; simp [hk]⟩
theorem meet_le' (a b : C) : belC (meetC a b) b = true := by
  rw [belC_iff]
  exact ⟨fun k hk h => by rw [testBit_meetP, h]; simp [hk], fun k hk h => by rw [testBit_meetN, h]; simp [hk]⟩
theorem c_ext_bits {a b : C} (h1 : ∀ k, a.1.val.testBit k = b.1.val.testBit k) (h2 : ∀ k, a.2.val.testBit k = b.2.val.testBit k) : a = b :=
  c_ext (Nat.eq_of_testBit_eq h1) (Nat.eq_of_testBit_eq h2)
theorem meet_comm (a b : C) : meetC b a = meetC a b :=
  c_ext_bits (fun k => by rw [testBit_meetP, testBit_meetP, Bool.or_comm]) (fun k => by rw [testBit_meetN, testBit_meetN, Bool.or_comm])
theorem meet_assoc (a b c : C) : meetC a (meetC b c) = meetC (meetC a b) c :=
  c_ext_bits (fun k => by rw [testBit_meetP, testBit_meetP, testBit_meetP, testBit_meetP]; cases decide (k < 24) <;> simp [Bool.or_assoc])
    (fun k => by rw [testBit_meetN, testBit_meetN, testBit_meetN, testBit_meetN]; cases decide (k < 24) <;> simp [Bool.or_assoc])
theorem meet_glb (a b c : C) : belC c (meetC a b) = (belC c a && belC c b) := by
  rw [Bool.eq_iff_iff, Bool.and_eq_true]
  constructor
  · intro h; exact ⟨belC_trans h (meet_le a b), belC_trans h (meet_le' a b)⟩
  · rintro ⟨h1, h2⟩
    rw [belC_iff] at *
    refine ⟨fun k hk h => ?_, fun k hk h => ?_⟩
    · rw [testBit_meetP] at h
      simp only [hk, decide_true, Bool.true_and, Bool.or_eq_true] at h
      exact h.elim (h1.1 k hk) (h2.1 k hk)
    · rw [testBit_meetN] at h
      simp only [hk, decide_true, Bool.true_and, Bool.or_eq_true] at h
      exact h.elim (h1.2 k hk) (h2.2 k hk)

set_option maxRecDepth 100000 in
set_option maxHeartbeats 4000000 in
theorem meets_x0 (a b c : C) (w : World) (ra : rightC a = true) (rb : rightC b = true) (rc : rightC c = true) (x : belC c a = false) :
    Calls Try.prog 8 #[clV a, clV b, clV c] w fun e w' => e = .returned (.bool true) ∧ Below w.heap.size w w' := by
  have ha : At (((w.alloc (.cells #[.int .u32 (a.1.val : Int), .int .u32 (a.2.val : Int)] 24)).alloc (.cells #[.int .u32 (b.1.val : Int), .int .u32 (b.2.val : Int)] 24)).alloc (.cells #[.int .u32 (c.1.val : Int), .int .u32 (c.2.val : Int)] 24)) w.heap.size a := ((At.made w a _).alloc _).alloc _
  have hb : At (((w.alloc (.cells #[.int .u32 (a.1.val : Int), .int .u32 (a.2.val : Int)] 24)).alloc (.cells #[.int .u32 (b.1.val : Int), .int .u32 (b.2.val : Int)] 24)).alloc (.cells #[.int .u32 (c.1.val : Int), .int .u32 (c.2.val : Int)] 24)) (w.heap.size + 1) b := by
    have := (At.made (w.alloc (.cells #[.int .u32 (a.1.val : Int), .int .u32 (a.2.val : Int)] 24)) b 24).alloc (.cells #[.int .u32 (c.1.val : Int), .int .u32 (c.2.val : Int)] 24)
    simpa using this
  have hc : At (((w.alloc (.cells #[.int .u32 (a.1.val : Int), .int .u32 (a.2.val : Int)] 24)).alloc (.cells #[.int .u32 (b.1.val : Int), .int .u32 (b.2.val : Int)] 24)).alloc (.cells #[.int .u32 (c.1.val : Int), .int .u32 (c.2.val : Int)] 24)) (w.heap.size + 1 + 1) c := by
    have := At.made ((w.alloc (.cells #[.int .u32 (a.1.val : Int), .int .u32 (a.2.val : Int)] 24)).alloc (.cells #[.int .u32 (b.1.val : Int), .int .u32 (b.2.val : Int)] 24)) c 24
    simpa using this
  have hB := ((below_alloc w (.cells #[.int .u32 (a.1.val : Int), .int .u32 (a.2.val : Int)] 24)).alloc (by simp) (.cells #[.int .u32 (b.1.val : Int), .int .u32 (b.2.val : Int)] 24)).alloc (by simp; omega) (.cells #[.int .u32 (c.1.val : Int), .int .u32 (c.2.val : Int)] 24)
  obtain ⟨m, hm⟩ : ∃ m, meetC a b = m := ⟨_, rfl⟩
  have e1 : belC m a = true := by rw [← hm]; exact meet_le a b
  have e2 : belC m b = true := by rw [← hm]; exact meet_le' a b
  have e3 : meetC b a = m := by rw [← hm]; exact meet_comm a b
  have e4 : meetC a (meetC b c) = meetC m c := by rw [← hm]; exact meet_assoc a b c
  have e5 : Hid (belC c m = (belC c a && belC c b)) := by rw [← hm]; exact meet_glb a b c
  go_enter Try.func8, Try.ntmps8
  go_wp2_with (first
    | (go_at_call 11; refine (works_any _).mono ?_; rintro e w1 ⟨rfl, hB1⟩; replace hB := chain hB hB1; replace ha := ha.below hB1; have ha0 := ha.1; have ha1 := ha.2.1; replace hb := hb.below hB1; replace hc := hc.below hB1)
    | (go_at_call 9; refine (cright_any _ _).mono ?_; rintro e w2 ⟨rfl, hG⟩; replace hB := chain hB hG.below; replace ha := ha.below hG.below; have ha0 := ha.1; have ha1 := ha.2.1; replace hb := hb.below hG.below; have hb0 := hb.1; have hb1 := hb.2.1; replace hc := hc.below hG.below; have hc0 := hc.1; have hc1 := hc.2.1)
    | (go_at_call 15; refine (meet_any _ _ _).mono ?_; rintro e w5 ⟨rfl, hG⟩; rw [hm]; replace hB := chain hB hG.below; replace ha := ha.below hG.below; replace hb := hb.below hG.below; replace hc := hc.below hG.below))
  have hM := At.made w5 m 24
  replace ha := ha.alloc (.cells #[.int .u32 (m.1.val : Int), .int .u32 (m.2.val : Int)] 24)
  replace hb := hb.alloc (.cells #[.int .u32 (m.1.val : Int), .int .u32 (m.2.val : Int)] 24)
  replace hc := hc.alloc (.cells #[.int .u32 (m.1.val : Int), .int .u32 (m.2.val : Int)] 24)
  replace hB := chain hB (below_alloc w5 (.cells #[.int .u32 (m.1.val : Int), .int .u32 (m.2.val : Int)] 24))
  generalize w5.heap.size = gm at hM ⊢
  generalize w5.alloc (.cells #[.int .u32 (m.1.val : Int), .int .u32 (m.2.val : Int)] 24) = wq at hM ha hb hc hB ⊢
  have A := ha.regrown
  have B := hb.regrown
  have D := hc.regrown
  have M := hM.regrown
  obtain ⟨A0, A1⟩ := A
  obtain ⟨B0, B1⟩ := B
  obtain ⟨D0, D1⟩ := D
  obtain ⟨M0, M1⟩ := M
  refine wp_region_quiet_below (by kernel_rfl) (by kernel_rfl) ?_
  repeat (quiet_step (first | exact bel_q _ _ _ _ _ | exact meet_q _ _ _ _ _))
  refine wpQuiet_nil ?_
  intro _ hw'
  obtain ⟨⟨dq, osq⟩, hw''⟩ := hw'
  subst hw''
  go_wp2
  replace hM := hM.below (below_regrown wq dq osq)
  replace ha := ha.below (below_regrown wq dq osq)
  replace hb := hb.below (below_regrown wq dq osq)
  replace hc := hc.below (below_regrown wq dq osq)
  replace hB := chain hB (below_regrown wq dq osq)
  clear A0 A1 B0 B1 D0 D1 M0 M1
  generalize grow (redrawn wq dq) osq = wq2 at hM ha hb hc hB ⊢
  clear wq
  obtain ⟨A0, A1⟩ := ha.regrown
  obtain ⟨B0, B1⟩ := hb.regrown
  obtain ⟨D0, D1⟩ := hc.regrown
  obtain ⟨M0, M1⟩ := hM.regrown
  refine wp_region_quiet_below (by kernel_rfl) (by kernel_rfl) ?_
  have anti : Hid (belC a b = true → belC b a = true → a = b) := fun h1 h2 => bel_antisymm ra rb h1 h2
  clear e1 e2 e3 e4 hm ra rb rc
  have e6 := e5.out
  rw [x] at e6
  simp only [Bool.false_and, Bool.true_and] at e6
  repeat (quiet_step (first | exact bel_q _ _ _ _ _ | exact meet_q _ _ _ _ _))
  refine wpQuiet_nil ?_
  intro _ hw'
  obtain ⟨⟨dq, osq⟩, hw''⟩ := hw'
  subst hw''
  go_wp2
  replace ha := ha.below (below_regrown wq2 dq osq)
  replace hb := hb.below (below_regrown wq2 dq osq)
  replace hc := hc.below (below_regrown wq2 dq osq)
  replace hB := chain hB (below_regrown wq2 dq osq)
  clear A0 A1 B0 B1 D0 D1 M0 M1 x e5 e6 hM
  generalize grow (redrawn wq2 dq) osq = wq3 at ha hb hc hB ⊢
  clear wq2
  obtain ⟨A0, A1⟩ := ha.regrown
  obtain ⟨B0, B1⟩ := hb.regrown
  obtain ⟨D0, D1⟩ := hc.regrown
  have e7 : belC a a = true := belC_refl a
  cases p : belC a b
  · have hne : Hid (a ≠ b) := fun h => by rw [h, belC_refl] at p; cases p
    by_cases f0 : a.1.val = b.1.val
    · have f2 : ¬ a.2.val = b.2.val := fun h => hne.out (c_ext f0 h)
      have f1 : ((a.1.val : Int) == (b.1.val : Int)) = true := by simp [f0]
      clear f0
      refine wp_region_quiet_below (by kernel_rfl) (by kernel_rfl) ?_
      repeat (first | go_big_quiet_step (first | (refine bel_qt _ _ _ _ _ ?_; with_reducible assumption) | (refine bel_qf _ _ _ _ _ ?_; with_reducible assumption)) | quiet_step (first | (refine bel_qt _ _ _ _ _ ?_; with_reducible assumption) | (refine bel_qf _ _ _ _ _ ?_; with_reducible assumption)))
      refine wpQuiet_nil ?_
      intro _ hw'
      obtain ⟨⟨dq, osq⟩, hw''⟩ := hw'
      subst hw''
      go_wp2
      go_ret
      exact ⟨rfl, chain hB (below_regrown wq3 dq osq)⟩
    · refine wp_region_quiet_below (by kernel_rfl) (by kernel_rfl) ?_
      repeat (first | go_big_quiet_step (first | (refine bel_qt _ _ _ _ _ ?_; with_reducible assumption) | (refine bel_qf _ _ _ _ _ ?_; with_reducible assumption)) | quiet_step (first | (refine bel_qt _ _ _ _ _ ?_; with_reducible assumption) | (refine bel_qf _ _ _ _ _ ?_; with_reducible assumption)))
      refine wpQuiet_nil ?_
      intro _ hw'
      obtain ⟨⟨dq, osq⟩, hw''⟩ := hw'
      subst hw''
      go_wp2
      go_ret
      exact ⟨rfl, chain hB (below_regrown wq3 dq osq)⟩
  · cases q : belC b a
    · have hne : Hid (a ≠ b) := fun h => by rw [h, belC_refl] at q; cases q
      cases r : belC b c
      · by_cases f0 : a.1.val = b.1.val
        · have f2 : ¬ a.2.val = b.2.val := fun h => hne.out (c_ext f0 h)
          have f1 : ((a.1.val : Int) == (b.1.val : Int)) = true := by simp [f0]
          clear f0
          refine wp_region_quiet_below (by kernel_rfl) (by kernel_rfl) ?_
          repeat (first | go_big_quiet_step (first | (refine bel_qt _ _ _ _ _ ?_; with_reducible assumption) | (refine bel_qf _ _ _ _ _ ?_; with_reducible assumption)) | quiet_step (first | (refine bel_qt _ _ _ _ _ ?_; with_reducible assumption) | (refine bel_qf _ _ _ _ _ ?_; with_reducible assumption)))
          refine wpQuiet_nil ?_
          intro _ hw'
          obtain ⟨⟨dq, osq⟩, hw''⟩ := hw'
          subst hw''
          go_wp2
          go_ret
          exact ⟨rfl, chain hB (below_regrown wq3 dq osq)⟩
        · refine wp_region_quiet_below (by kernel_rfl) (by kernel_rfl) ?_
          repeat (first | go_big_quiet_step (first | (refine bel_qt _ _ _ _ _ ?_; with_reducible assumption) | (refine bel_qf _ _ _ _ _ ?_; with_reducible assumption)) | quiet_step (first | (refine bel_qt _ _ _ _ _ ?_; with_reducible assumption) | (refine bel_qf _ _ _ _ _ ?_; with_reducible assumption)))
          refine wpQuiet_nil ?_
          intro _ hw'
          obtain ⟨⟨dq, osq⟩, hw''⟩ := hw'
          subst hw''
          go_wp2
          go_ret
          exact ⟨rfl, chain hB (below_regrown wq3 dq osq)⟩
      · have s : belC a c = true := belC_trans p r
        by_cases f0 : a.1.val = b.1.val
        · have f2 : ¬ a.2.val = b.2.val := fun h => hne.out (c_ext f0 h)
          have f1 : ((a.1.val : Int) == (b.1.val : Int)) = true := by simp [f0]
          clear f0
          refine wp_region_quiet_below (by kernel_rfl) (by kernel_rfl) ?_
          repeat (first | go_big_quiet_step (first | (refine bel_qt _ _ _ _ _ ?_; with_reducible assumption) | (refine bel_qf _ _ _ _ _ ?_; with_reducible assumption)) | quiet_step (first | (refine bel_qt _ _ _ _ _ ?_; with_reducible assumption) | (refine bel_qf _ _ _ _ _ ?_; with_reducible assumption)))
          refine wpQuiet_nil ?_
          intro _ hw'
          obtain ⟨⟨dq, osq⟩, hw''⟩ := hw'
          subst hw''
          go_wp2
          go_ret
          exact ⟨rfl, chain hB (below_regrown wq3 dq osq)⟩
        · refine wp_region_quiet_below (by kernel_rfl) (by kernel_rfl) ?_
          repeat (first | go_big_quiet_step (first | (refine bel_qt _ _ _ _ _ ?_; with_reducible assumption) | (refine bel_qf _ _ _ _ _ ?_; with_reducible assumption)) | quiet_step (first | (refine bel_qt _ _ _ _ _ ?_; with_reducible assumption) | (refine bel_qf _ _ _ _ _ ?_; with_reducible assumption)))
          refine wpQuiet_nil ?_
          intro _ hw'
          obtain ⟨⟨dq, osq⟩, hw''⟩ := hw'
          subst hw''
          go_wp2
          go_ret
          exact ⟨rfl, chain hB (below_regrown wq3 dq osq)⟩
    · obtain rfl := anti.out p q
      cases r : belC a c
      all_goals
        refine wp_region_quiet_below (by kernel_rfl) (by kernel_rfl) ?_
        repeat (first | go_big_quiet_step (first | (refine bel_qt _ _ _ _ _ ?_; with_reducible assumption) | (refine bel_qf _ _ _ _ _ ?_; with_reducible assumption)) | quiet_step (first | (refine bel_qt _ _ _ _ _ ?_; with_reducible assumption) | (refine bel_qf _ _ _ _ _ ?_; with_reducible assumption)))
        refine wpQuiet_nil ?_
        intro _ hw'
        obtain ⟨⟨dq, osq⟩, hw''⟩ := hw'
        subst hw''
        go_wp2
        go_ret
        exact ⟨rfl, chain hB (below_regrown wq3 dq osq)⟩
set_option maxRecDepth 100000 in
set_option maxHeartbeats 4000000 in
theorem meets_x1 (a b c : C) (w : World) (ra : rightC a = true) (rb : rightC b = true) (rc : rightC c = true) (x : belC c a = true) :
    Calls Try.prog 8 #[clV a, clV b, clV c] w fun e w' => e = .returned (.bool true) ∧ Below w.heap.size w w' := by
  have ha : At (((w.alloc (.cells #[.int .u32 (a.1.val : Int), .int .u32 (a.2.val : Int)] 24)).alloc (.cells #[.int .u32 (b.1.val : Int), .int .u32 (b.2.val : Int)] 24)).alloc (.cells #[.int .u32 (c.1.val : Int), .int .u32 (c.2.val : Int)] 24)) w.heap.size a := ((At.made w a _).alloc _).alloc _
  have hb : At (((w.alloc (.cells #[.int .u32 (a.1.val : Int), .int .u32 (a.2.val : Int)] 24)).alloc (.cells #[.int .u32 (b.1.val : Int), .int .u32 (b.2.val : Int)] 24)).alloc (.cells #[.int .u32 (c.1.val : Int), .int .u32 (c.2.val : Int)] 24)) (w.heap.size + 1) b := by
    have := (At.made (w.alloc (.cells #[.int .u32 (a.1.val : Int), .int .u32 (a.2.val : Int)] 24)) b 24).alloc (.cells #[.int .u32 (c.1.val : Int), .int .u32 (c.2.val : Int)] 24)
    simpa using this
  have hc : At (((w.alloc (.cells #[.int .u32 (a.1.val : Int), .int .u32 (a.2.val : Int)] 24)).alloc (.cells #[.int .u32 (b.1.val : Int), .int .u32 (b.2.val : Int)] 24)).alloc (.cells #[.int .u32 (c.1.val : Int), .int .u32 (c.2.val : Int)] 24)) (w.heap.size + 1 + 1) c := by
    have := At.made ((w.alloc (.cells #[.int .u32 (a.1.val : Int), .int .u32 (a.2.val : Int)] 24)).alloc (.cells #[.int .u32 (b.1.val : Int), .int .u32 (b.2.val : Int)] 24)) c 24
    simpa using this
  have hB := ((below_alloc w (.cells #[.int .u32 (a.1.val : Int), .int .u32 (a.2.val : Int)] 24)).alloc (by simp) (.cells #[.int .u32 (b.1.val : Int), .int .u32 (b.2.val : Int)] 24)).alloc (by simp; omega) (.cells #[.int .u32 (c.1.val : Int), .int .u32 (c.2.val : Int)] 24)
  obtain ⟨m, hm⟩ : ∃ m, meetC a b = m := ⟨_, rfl⟩
  have e1 : belC m a = true := by rw [← hm]; exact meet_le a b
  have e2 : belC m b = true := by rw [← hm]; exact meet_le' a b
  have e3 : meetC b a = m := by rw [← hm]; exact meet_comm a b
  have e4 : meetC a (meetC b c) = meetC m c := by rw [← hm]; exact meet_assoc a b c
  have e5 : Hid (belC c m = (belC c a && belC c b)) := by rw [← hm]; exact meet_glb a b c
  go_enter Try.func8, Try.ntmps8
  go_wp2_with (first
    | (go_at_call 11; refine (works_any _).mono ?_; rintro e w1 ⟨rfl, hB1⟩; replace hB := chain hB hB1; replace ha := ha.below hB1; have ha0 := ha.1; have ha1 := ha.2.1; replace hb := hb.below hB1; replace hc := hc.below hB1)
    | (go_at_call 9; refine (cright_any _ _).mono ?_; rintro e w2 ⟨rfl, hG⟩; replace hB := chain hB hG.below; replace ha := ha.below hG.below; have ha0 := ha.1; have ha1 := ha.2.1; replace hb := hb.below hG.below; have hb0 := hb.1; have hb1 := hb.2.1; replace hc := hc.below hG.below; have hc0 := hc.1; have hc1 := hc.2.1)
    | (go_at_call 15; refine (meet_any _ _ _).mono ?_; rintro e w5 ⟨rfl, hG⟩; rw [hm]; replace hB := chain hB hG.below; replace ha := ha.below hG.below; replace hb := hb.below hG.below; replace hc := hc.below hG.below))
  have hM := At.made w5 m 24
  replace ha := ha.alloc (.cells #[.int .u32 (m.1.val : Int), .int .u32 (m.2.val : Int)] 24)
  replace hb := hb.alloc (.cells #[.int .u32 (m.1.val : Int), .int .u32 (m.2.val : Int)] 24)
  replace hc := hc.alloc (.cells #[.int .u32 (m.1.val : Int), .int .u32 (m.2.val : Int)] 24)
  replace hB := chain hB (below_alloc w5 (.cells #[.int .u32 (m.1.val : Int), .int .u32 (m.2.val : Int)] 24))
  generalize w5.heap.size = gm at hM ⊢
  generalize w5.alloc (.cells #[.int .u32 (m.1.val : Int), .int .u32 (m.2.val : Int)] 24) = wq at hM ha hb hc hB ⊢
  have A := ha.regrown
  have B := hb.regrown
  have D := hc.regrown
  have M := hM.regrown
  obtain ⟨A0, A1⟩ := A
  obtain ⟨B0, B1⟩ := B
  obtain ⟨D0, D1⟩ := D
  obtain ⟨M0, M1⟩ := M
  refine wp_region_quiet_below (by kernel_rfl) (by kernel_rfl) ?_
  repeat (quiet_step (first | exact bel_q _ _ _ _ _ | exact meet_q _ _ _ _ _))
  refine wpQuiet_nil ?_
  intro _ hw'
  obtain ⟨⟨dq, osq⟩, hw''⟩ := hw'
  subst hw''
  go_wp2
  replace hM := hM.below (below_regrown wq dq osq)
  replace ha := ha.below (below_regrown wq dq osq)
  replace hb := hb.below (below_regrown wq dq osq)
  replace hc := hc.below (below_regrown wq dq osq)
  replace hB := chain hB (below_regrown wq dq osq)
  clear A0 A1 B0 B1 D0 D1 M0 M1
  generalize grow (redrawn wq dq) osq = wq2 at hM ha hb hc hB ⊢
  clear wq
  obtain ⟨A0, A1⟩ := ha.regrown
  obtain ⟨B0, B1⟩ := hb.regrown
  obtain ⟨D0, D1⟩ := hc.regrown
  obtain ⟨M0, M1⟩ := hM.regrown
  refine wp_region_quiet_below (by kernel_rfl) (by kernel_rfl) ?_
  have anti : Hid (belC a b = true → belC b a = true → a = b) := fun h1 h2 => bel_antisymm ra rb h1 h2
  clear e1 e2 e3 e4 hm ra rb rc
  have e6 := e5.out
  rw [x] at e6
  simp only [Bool.false_and, Bool.true_and] at e6
  repeat (quiet_step (first | exact bel_q _ _ _ _ _ | exact meet_q _ _ _ _ _))
  refine wpQuiet_nil ?_
  intro _ hw'
  obtain ⟨⟨dq, osq⟩, hw''⟩ := hw'
  subst hw''
  go_wp2
  replace ha := ha.below (below_regrown wq2 dq osq)
  replace hb := hb.below (below_regrown wq2 dq osq)
  replace hc := hc.below (below_regrown wq2 dq osq)
  replace hB := chain hB (below_regrown wq2 dq osq)
  clear A0 A1 B0 B1 D0 D1 M0 M1 x e5 e6 hM
  generalize grow (redrawn wq2 dq) osq = wq3 at ha hb hc hB ⊢
  clear wq2
  obtain ⟨A0, A1⟩ := ha.regrown
  obtain ⟨B0, B1⟩ := hb.regrown
  obtain ⟨D0, D1⟩ := hc.regrown
  have e7 : belC a a = true := belC_refl a
  cases p : belC a b
  · have hne : Hid (a ≠ b) := fun h => by rw [h, belC_refl] at p; cases p
    by_cases f0 : a.1.val = b.1.val
    · have f2 : ¬ a.2.val = b.2.val := fun h => hne.out (c_ext f0 h)
      have f1 : ((a.1.val : Int) == (b.1.val : Int)) = true := by simp [f0]
      clear f0
      refine wp_region_quiet_below (by kernel_rfl) (by kernel_rfl) ?_
      repeat (first | go_big_quiet_step (first | (refine bel_qt _ _ _ _ _ ?_; with_reducible assumption) | (refine bel_qf _ _ _ _ _ ?_; with_reducible assumption)) | quiet_step (first | (refine bel_qt _ _ _ _ _ ?_; with_reducible assumption) | (refine bel_qf _ _ _ _ _ ?_; with_reducible assumption)))
      refine wpQuiet_nil ?_
      intro _ hw'
      obtain ⟨⟨dq, osq⟩, hw''⟩ := hw'
      subst hw''
      go_wp2
      go_ret
      exact ⟨rfl, chain hB (below_regrown wq3 dq osq)⟩
    · refine wp_region_quiet_below (by kernel_rfl) (by kernel_rfl) ?_
      repeat (first | go_big_quiet_step (first | (refine bel_qt _ _ _ _ _ ?_; with_reducible assumption) | (refine bel_qf _ _ _ _ _ ?_; with_reducible assumption)) | quiet_step (first | (refine bel_qt _ _ _ _ _ ?_; with_reducible assumption) | (refine bel_qf _ _ _ _ _ ?_; with_reducible assumption)))
      refine wpQuiet_nil ?_
      intro _ hw'
      obtain ⟨⟨dq, osq⟩, hw''⟩ := hw'
      subst hw''
      go_wp2
      go_ret
      exact ⟨rfl, chain hB (below_regrown wq3 dq osq)⟩
  · cases q : belC b a
    · have hne : Hid (a ≠ b) := fun h => by rw [h, belC_refl] at q; cases q
      cases r : belC b c
      · by_cases f0 : a.1.val = b.1.val
        · have f2 : ¬ a.2.val = b.2.val := fun h => hne.out (c_ext f0 h)
          have f1 : ((a.1.val : Int) == (b.1.val : Int)) = true := by simp [f0]
          clear f0
          refine wp_region_quiet_below (by kernel_rfl) (by kernel_rfl) ?_
          repeat (first | go_big_quiet_step (first | (refine bel_qt _ _ _ _ _ ?_; with_reducible assumption) | (refine bel_qf _ _ _ _ _ ?_; with_reducible assumption)) | quiet_step (first | (refine bel_qt _ _ _ _ _ ?_; with_reducible assumption) | (refine bel_qf _ _ _ _ _ ?_; with_reducible assumption)))
          refine wpQuiet_nil ?_
          intro _ hw'
          obtain ⟨⟨dq, osq⟩, hw''⟩ := hw'
          subst hw''
          go_wp2
          go_ret
          exact ⟨rfl, chain hB (below_regrown wq3 dq osq)⟩
        · refine wp_region_quiet_below (by kernel_rfl) (by kernel_rfl) ?_
          repeat (first | go_big_quiet_step (first | (refine bel_qt _ _ _ _ _ ?_; with_reducible assumption) | (refine bel_qf _ _ _ _ _ ?_; with_reducible assumption)) | quiet_step (first | (refine bel_qt _ _ _ _ _ ?_; with_reducible assumption) | (refine bel_qf _ _ _ _ _ ?_; with_reducible assumption)))
          refine wpQuiet_nil ?_
          intro _ hw'
          obtain ⟨⟨dq, osq⟩, hw''⟩ := hw'
          subst hw''
          go_wp2
          go_ret
          exact ⟨rfl, chain hB (below_regrown wq3 dq osq)⟩
      · have s : belC a c = true := belC_trans p r
        by_cases f0 : a.1.val = b.1.val
        · have f2 : ¬ a.2.val = b.2.val := fun h => hne.out (c_ext f0 h)
          have f1 : ((a.1.val : Int) == (b.1.val : Int)) = true := by simp [f0]
          clear f0
          refine wp_region_quiet_below (by kernel_rfl) (by kernel_rfl) ?_
          repeat (first | go_big_quiet_step (first | (refine bel_qt _ _ _ _ _ ?_; with_reducible assumption) | (refine bel_qf _ _ _ _ _ ?_; with_reducible assumption)) | quiet_step (first | (refine bel_qt _ _ _ _ _ ?_; with_reducible assumption) | (refine bel_qf _ _ _ _ _ ?_; with_reducible assumption)))
          refine wpQuiet_nil ?_
          intro _ hw'
          obtain ⟨⟨dq, osq⟩, hw''⟩ := hw'
          subst hw''
          go_wp2
          go_ret
          exact ⟨rfl, chain hB (below_regrown wq3 dq osq)⟩
        · refine wp_region_quiet_below (by kernel_rfl) (by kernel_rfl) ?_
          repeat (first | go_big_quiet_step (first | (refine bel_qt _ _ _ _ _ ?_; with_reducible assumption) | (refine bel_qf _ _ _ _ _ ?_; with_reducible assumption)) | quiet_step (first | (refine bel_qt _ _ _ _ _ ?_; with_reducible assumption) | (refine bel_qf _ _ _ _ _ ?_; with_reducible assumption)))
          refine wpQuiet_nil ?_
          intro _ hw'
          obtain ⟨⟨dq, osq⟩, hw''⟩ := hw'
          subst hw''
          go_wp2
          go_ret
          exact ⟨rfl, chain hB (below_regrown wq3 dq osq)⟩
    · obtain rfl := anti.out p q
      cases r : belC a c
      all_goals
        refine wp_region_quiet_below (by kernel_rfl) (by kernel_rfl) ?_
        repeat (first | go_big_quiet_step (first | (refine bel_qt _ _ _ _ _ ?_; with_reducible assumption) | (refine bel_qf _ _ _ _ _ ?_; with_reducible assumption)) | quiet_step (first | (refine bel_qt _ _ _ _ _ ?_; with_reducible assumption) | (refine bel_qf _ _ _ _ _ ?_; with_reducible assumption)))
        refine wpQuiet_nil ?_
        intro _ hw'
        obtain ⟨⟨dq, osq⟩, hw''⟩ := hw'
        subst hw''
        go_wp2
        go_ret
        exact ⟨rfl, chain hB (below_regrown wq3 dq osq)⟩
set_option maxRecDepth 100000 in
set_option maxHeartbeats 4000000 in
theorem walk_ClauseMeets (a b c : C) (w : World) :
    Calls Try.prog 8 #[clV a, clV b, clV c] w fun e w' => e = .returned (.bool true) ∧ Below w.heap.size w w' := by
  have ha : At (((w.alloc (.cells #[.int .u32 (a.1.val : Int), .int .u32 (a.2.val : Int)] 24)).alloc (.cells #[.int .u32 (b.1.val : Int), .int .u32 (b.2.val : Int)] 24)).alloc (.cells #[.int .u32 (c.1.val : Int), .int .u32 (c.2.val : Int)] 24)) w.heap.size a := ((At.made w a _).alloc _).alloc _
  have hb : At (((w.alloc (.cells #[.int .u32 (a.1.val : Int), .int .u32 (a.2.val : Int)] 24)).alloc (.cells #[.int .u32 (b.1.val : Int), .int .u32 (b.2.val : Int)] 24)).alloc (.cells #[.int .u32 (c.1.val : Int), .int .u32 (c.2.val : Int)] 24)) (w.heap.size + 1) b := by
    have := (At.made (w.alloc (.cells #[.int .u32 (a.1.val : Int), .int .u32 (a.2.val : Int)] 24)) b 24).alloc (.cells #[.int .u32 (c.1.val : Int), .int .u32 (c.2.val : Int)] 24)
    simpa using this
  have hc : At (((w.alloc (.cells #[.int .u32 (a.1.val : Int), .int .u32 (a.2.val : Int)] 24)).alloc (.cells #[.int .u32 (b.1.val : Int), .int .u32 (b.2.val : Int)] 24)).alloc (.cells #[.int .u32 (c.1.val : Int), .int .u32 (c.2.val : Int)] 24)) (w.heap.size + 1 + 1) c := by
    have := At.made ((w.alloc (.cells #[.int .u32 (a.1.val : Int), .int .u32 (a.2.val : Int)] 24)).alloc (.cells #[.int .u32 (b.1.val : Int), .int .u32 (b.2.val : Int)] 24)) c 24
    simpa using this
  have hB := ((below_alloc w (.cells #[.int .u32 (a.1.val : Int), .int .u32 (a.2.val : Int)] 24)).alloc (by simp) (.cells #[.int .u32 (b.1.val : Int), .int .u32 (b.2.val : Int)] 24)).alloc (by simp; omega) (.cells #[.int .u32 (c.1.val : Int), .int .u32 (c.2.val : Int)] 24)
  cases ra : rightC a
  · go_enter Try.func8, Try.ntmps8
    go_wp2_with (first
      | (go_at_call 11; refine (works_any _).mono ?_; rintro e w1 ⟨rfl, hB1⟩; replace hB := chain hB hB1; replace ha := ha.below hB1; have ha0 := ha.1; have ha1 := ha.2.1)
      | (go_at_call 9; refine (cright_any _ _).mono ?_; rintro e w2 ⟨rfl, hG⟩; replace hB := chain hB hG.below))
    go_ret
    exact ⟨rfl, hB⟩
  cases rb : rightC b
  · go_enter Try.func8, Try.ntmps8
    go_wp2_with (first
      | (go_at_call 11; refine (works_any _).mono ?_; rintro e w1 ⟨rfl, hB1⟩; replace hB := chain hB hB1; replace ha := ha.below hB1; have ha0 := ha.1; have ha1 := ha.2.1; replace hb := hb.below hB1)
      | (go_at_call 9; refine (cright_any _ _).mono ?_; rintro e w2 ⟨rfl, hG⟩; replace hB := chain hB hG.below; replace hb := hb.below hG.below; have hb0 := hb.1; have hb1 := hb.2.1))
    go_ret
    exact ⟨rfl, hB⟩
  cases rc : rightC c
  · go_enter Try.func8, Try.ntmps8
    go_wp2_with (first
      | (go_at_call 11; refine (works_any _).mono ?_; rintro e w1 ⟨rfl, hB1⟩; replace hB := chain hB hB1; replace ha := ha.below hB1; have ha0 := ha.1; have ha1 := ha.2.1; replace hb := hb.below hB1; replace hc := hc.below hB1)
      | (go_at_call 9; refine (cright_any _ _).mono ?_; rintro e w2 ⟨rfl, hG⟩; replace hB := chain hB hG.below; replace hb := hb.below hG.below; have hb0 := hb.1; have hb1 := hb.2.1; replace hc := hc.below hG.below; have hc0 := hc.1; have hc1 := hc.2.1))
    go_ret
    exact ⟨rfl, hB⟩
  cases x : belC c a
  · exact meets_x0 a b c w ra rb rc x
  · exact meets_x1 a b c w ra rb rc x
end Go.Proofs.Ytmegeaklddncoaa
