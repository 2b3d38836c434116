/- The walk of the law ClauseAsks: the call returns true; nothing that lay before it turns. -/
import Derived.BigQuiet
import Derived.Test.YtmegeaklddncoaaCRef
namespace Go.Proofs.Ytmegeaklddncoaa
open Go.RowKit Go.Sort
set_option linter.unusedVariables false
set_option linter.unusedSimpArgs false

theorem right_qv (a : C) (w : World) (d : Nat) (os : Array Obj) {x : Bool} (h : rightC a = x) : Calls Try.prog 9 #[clV a] (grow (redrawn w d) os) fun e w'' => e = .returned (.bool x) ∧ ∃ p : Regrown, w'' = grow (redrawn w p.d) p.os := h ▸ right_q a w d os
theorem refright_qv (a : C) (w : World) (d : Nat) (os : Array Obj) {x : Bool} (h : rightC a = x) : Calls Try.prog 10 #[clV a] (grow (redrawn w d) os) fun e w'' => e = .returned (.bool x) ∧ ∃ p : Regrown, w'' = grow (redrawn w p.d) p.os := h ▸ refright_q a w d os
theorem less_qv (a b : C) (w : World) (d : Nat) (os : Array Obj) {x : Bool} (h : ltC a b = x) : Calls Try.prog 19 #[clV a, clV b] (grow (redrawn w d) os) fun e w'' => e = .returned (.bool x) ∧ ∃ p : Regrown, w'' = grow (redrawn w p.d) p.os := h ▸ less_q a b w d os

set_option maxRecDepth 100000 in
set_option maxHeartbeats 4000000 in
theorem asks_lt1 (a b : C) (w : World) (ra : rightC a = true) (rb : rightC b = true) (x : ltC a b = true) (y : ltC b a = false) (hn : cmpC a b = -1) (f1 : ((a.1.val : Int) == (b.1.val : Int)) = true) (f2 : ¬ a.2.val = b.2.val) (hbl : belR a b = belC a b) :
    Calls Try.prog 3 #[clV a, clV b] w fun e w' => e = .returned (.bool true) ∧ Below w.heap.size w w' := by
  have ha : At ((w.alloc (.cells #[.int .u32 (a.1.val : Int), .int .u32 (a.2.val : Int)] 24)).alloc (.cells #[.int .u32 (b.1.val : Int), .int .u32 (b.2.val : Int)] 24)) w.heap.size a := (At.made w a _).alloc _
  have hb : At ((w.alloc (.cells #[.int .u32 (a.1.val : Int), .int .u32 (a.2.val : Int)] 24)).alloc (.cells #[.int .u32 (b.1.val : Int), .int .u32 (b.2.val : Int)] 24)) (w.heap.size + 1) b := by
    have := At.made (w.alloc (.cells #[.int .u32 (a.1.val : Int), .int .u32 (a.2.val : Int)] 24)) b 24
    simpa using this
  have hB := (below_alloc w (.cells #[.int .u32 (a.1.val : Int), .int .u32 (a.2.val : Int)] 24)).alloc (by simp) (.cells #[.int .u32 (b.1.val : Int), .int .u32 (b.2.val : Int)] 24)
  go_enter Try.func3, Try.ntmps3
  go_wp2
  generalize (w.alloc (.cells #[.int .u32 (a.1.val : Int), .int .u32 (a.2.val : Int)] 24)).alloc (.cells #[.int .u32 (b.1.val : Int), .int .u32 (b.2.val : Int)] 24) = wq at ha hb hB ⊢
  obtain ⟨A0, A1⟩ := ha.regrown
  obtain ⟨B0, B1⟩ := hb.regrown
  refine wp_region_quiet_below (by kernel_rfl) (by kernel_rfl) ?_
  repeat (first | go_big_quiet_step (first | (refine right_qv (x := true) _ _ _ _ ?_; with_reducible assumption) | (refine right_qv (x := false) _ _ _ _ ?_; with_reducible assumption) | (refine refright_qv (x := true) _ _ _ _ ?_; with_reducible assumption) | (refine refright_qv (x := false) _ _ _ _ ?_; with_reducible assumption)) | quiet_step (first | (refine right_qv (x := true) _ _ _ _ ?_; with_reducible assumption) | (refine right_qv (x := false) _ _ _ _ ?_; with_reducible assumption) | (refine refright_qv (x := true) _ _ _ _ ?_; with_reducible assumption) | (refine refright_qv (x := false) _ _ _ _ ?_; with_reducible assumption)))
  refine wpQuiet_nil ?_
  intro _ hw'
  obtain ⟨⟨dq, osq⟩, hw''⟩ := hw'
  subst hw''
  replace ha := ha.below (below_regrown wq dq osq)
  replace hb := hb.below (below_regrown wq dq osq)
  replace hB := chain hB (below_regrown wq dq osq)
  clear A0 A1 B0 B1
  generalize grow (redrawn wq dq) osq = wq1 at ha hb hB ⊢
  clear wq
  have a0 := ha.1
  have a1 := ha.2.1
  have b0 := hb.1
  have b1 := hb.2.1
  go_wp2_with (first
    | (go_at_call 10; refine (refcright_any _ _).mono ?_; rintro e w2 ⟨rfl, hG⟩; replace hB := chain hB hG.below; replace ha := ha.below hG.below; replace hb := hb.below hG.below; have a0 := ha.1; have a1 := ha.2.1; have b0 := hb.1; have b1 := hb.2.1)
    | (go_at_call 12; refine (cmp_any _ _ _).mono ?_; rintro e w4 ⟨rfl, hG4⟩; replace hB := chain hB hG4.below; replace ha := ha.below hG4.below; replace hb := hb.below hG4.below; rw [hn]))
  obtain ⟨A0, A1⟩ := ha.regrown
  obtain ⟨B0, B1⟩ := hb.regrown
  refine wp_region_quiet_below (by kernel_rfl) (by kernel_rfl) ?_
  repeat (first | go_big_quiet_step (first | exact clash_q _ _ _ _ | exact refclash_q _ _ _ _ | exact meet_q _ _ _ _ _ | (refine refmeet_q _ _ ?_ ?_ _ _ _ <;> with_reducible assumption) | exact bel_q _ _ _ _ _ | exact refbel_q _ _ _ _ _ | (refine less_qv (x := true) _ _ _ _ _ ?_; with_reducible assumption) | (refine less_qv (x := false) _ _ _ _ _ ?_; with_reducible assumption) | exact works_q _ _ _) | quiet_step (first | exact clash_q _ _ _ _ | exact refclash_q _ _ _ _ | exact meet_q _ _ _ _ _ | (refine refmeet_q _ _ ?_ ?_ _ _ _ <;> with_reducible assumption) | exact bel_q _ _ _ _ _ | exact refbel_q _ _ _ _ _ | (refine less_qv (x := true) _ _ _ _ _ ?_; with_reducible assumption) | (refine less_qv (x := false) _ _ _ _ _ ?_; with_reducible assumption) | exact works_q _ _ _))
  refine wpQuiet_nil ?_
  intro _ hw'
  obtain ⟨⟨dq2, osq2⟩, hw''⟩ := hw'
  subst hw''
  go_wp2
  go_ret
  exact ⟨rfl, chain hB (below_regrown w4 dq2 osq2)⟩
set_option maxRecDepth 100000 in
set_option maxHeartbeats 4000000 in
theorem asks_lt2 (a b : C) (w : World) (ra : rightC a = true) (rb : rightC b = true) (x : ltC a b = true) (y : ltC b a = false) (hn : cmpC a b = -1) (f1 : ¬ a.1.val = b.1.val) (hbl : belR a b = belC a b) :
    Calls Try.prog 3 #[clV a, clV b] w fun e w' => e = .returned (.bool true) ∧ Below w.heap.size w w' := by
  have ha : At ((w.alloc (.cells #[.int .u32 (a.1.val : Int), .int .u32 (a.2.val : Int)] 24)).alloc (.cells #[.int .u32 (b.1.val : Int), .int .u32 (b.2.val : Int)] 24)) w.heap.size a := (At.made w a _).alloc _
  have hb : At ((w.alloc (.cells #[.int .u32 (a.1.val : Int), .int .u32 (a.2.val : Int)] 24)).alloc (.cells #[.int .u32 (b.1.val : Int), .int .u32 (b.2.val : Int)] 24)) (w.heap.size + 1) b := by
    have := At.made (w.alloc (.cells #[.int .u32 (a.1.val : Int), .int .u32 (a.2.val : Int)] 24)) b 24
    simpa using this
  have hB := (below_alloc w (.cells #[.int .u32 (a.1.val : Int), .int .u32 (a.2.val : Int)] 24)).alloc (by simp) (.cells #[.int .u32 (b.1.val : Int), .int .u32 (b.2.val : Int)] 24)
  go_enter Try.func3, Try.ntmps3
  go_wp2
  generalize (w.alloc (.cells #[.int .u32 (a.1.val : Int), .int .u32 (a.2.val : Int)] 24)).alloc (.cells #[.int .u32 (b.1.val : Int), .int .u32 (b.2.val : Int)] 24) = wq at ha hb hB ⊢
  obtain ⟨A0, A1⟩ := ha.regrown
  obtain ⟨B0, B1⟩ := hb.regrown
  refine wp_region_quiet_below (by kernel_rfl) (by kernel_rfl) ?_
  repeat (first | go_big_quiet_step (first | (refine right_qv (x := true) _ _ _ _ ?_; with_reducible assumption) | (refine right_qv (x := false) _ _ _ _ ?_; with_reducible assumption) | (refine refright_qv (x := true) _ _ _ _ ?_; with_reducible assumption) | (refine refright_qv (x := false) _ _ _ _ ?_; with_reducible assumption)) | quiet_step (first | (refine right_qv (x := true) _ _ _ _ ?_; with_reducible assumption) | (refine right_qv (x := false) _ _ _ _ ?_; with_reducible assumption) | (refine refright_qv (x := true) _ _ _ _ ?_; with_reducible assumption) | (refine refright_qv (x := false) _ _ _ _ ?_; with_reducible assumption)))
  refine wpQuiet_nil ?_
  intro _ hw'
  obtain ⟨⟨dq, osq⟩, hw''⟩ := hw'
  subst hw''
  replace ha := ha.below (below_regrown wq dq osq)
  replace hb := hb.below (below_regrown wq dq osq)
  replace hB := chain hB (below_regrown wq dq osq)
  clear A0 A1 B0 B1
  generalize grow (redrawn wq dq) osq = wq1 at ha hb hB ⊢
  clear wq
  have a0 := ha.1
  have a1 := ha.2.1
  have b0 := hb.1
  have b1 := hb.2.1
  go_wp2_with (first
    | (go_at_call 10; refine (refcright_any _ _).mono ?_; rintro e w2 ⟨rfl, hG⟩; replace hB := chain hB hG.below; replace ha := ha.below hG.below; replace hb := hb.below hG.below; have a0 := ha.1; have a1 := ha.2.1; have b0 := hb.1; have b1 := hb.2.1)
    | (go_at_call 12; refine (cmp_any _ _ _).mono ?_; rintro e w4 ⟨rfl, hG4⟩; replace hB := chain hB hG4.below; replace ha := ha.below hG4.below; replace hb := hb.below hG4.below; rw [hn]))
  obtain ⟨A0, A1⟩ := ha.regrown
  obtain ⟨B0, B1⟩ := hb.regrown
  refine wp_region_quiet_below (by kernel_rfl) (by kernel_rfl) ?_
  repeat (first | go_big_quiet_step (first | exact clash_q _ _ _ _ | exact refclash_q _ _ _ _ | exact meet_q _ _ _ _ _ | (refine refmeet_q _ _ ?_ ?_ _ _ _ <;> with_reducible assumption) | exact bel_q _ _ _ _ _ | exact refbel_q _ _ _ _ _ | (refine less_qv (x := true) _ _ _ _ _ ?_; with_reducible assumption) | (refine less_qv (x := false) _ _ _ _ _ ?_; with_reducible assumption) | exact works_q _ _ _) | quiet_step (first | exact clash_q _ _ _ _ | exact refclash_q _ _ _ _ | exact meet_q _ _ _ _ _ | (refine refmeet_q _ _ ?_ ?_ _ _ _ <;> with_reducible assumption) | exact bel_q _ _ _ _ _ | exact refbel_q _ _ _ _ _ | (refine less_qv (x := true) _ _ _ _ _ ?_; with_reducible assumption) | (refine less_qv (x := false) _ _ _ _ _ ?_; with_reducible assumption) | exact works_q _ _ _))
  refine wpQuiet_nil ?_
  intro _ hw'
  obtain ⟨⟨dq2, osq2⟩, hw''⟩ := hw'
  subst hw''
  go_wp2
  go_ret
  exact ⟨rfl, chain hB (below_regrown w4 dq2 osq2)⟩
set_option maxRecDepth 100000 in
set_option maxHeartbeats 4000000 in
theorem asks_gt1 (a b : C) (w : World) (ra : rightC a = true) (rb : rightC b = true) (x : ltC a b = false) (y : ltC b a = true) (hn : cmpC a b = 1) (f1 : ((a.1.val : Int) == (b.1.val : Int)) = true) (f2 : ¬ a.2.val = b.2.val) (hbl : belR a b = belC a b) :
    Calls Try.prog 3 #[clV a, clV b] w fun e w' => e = .returned (.bool true) ∧ Below w.heap.size w w' := by
  have ha : At ((w.alloc (.cells #[.int .u32 (a.1.val : Int), .int .u32 (a.2.val : Int)] 24)).alloc (.cells #[.int .u32 (b.1.val : Int), .int .u32 (b.2.val : Int)] 24)) w.heap.size a := (At.made w a _).alloc _
  have hb : At ((w.alloc (.cells #[.int .u32 (a.1.val : Int), .int .u32 (a.2.val : Int)] 24)).alloc (.cells #[.int .u32 (b.1.val : Int), .int .u32 (b.2.val : Int)] 24)) (w.heap.size + 1) b := by
    have := At.made (w.alloc (.cells #[.int .u32 (a.1.val : Int), .int .u32 (a.2.val : Int)] 24)) b 24
    simpa using this
  have hB := (below_alloc w (.cells #[.int .u32 (a.1.val : Int), .int .u32 (a.2.val : Int)] 24)).alloc (by simp) (.cells #[.int .u32 (b.1.val : Int), .int .u32 (b.2.val : Int)] 24)
  go_enter Try.func3, Try.ntmps3
  go_wp2
  generalize (w.alloc (.cells #[.int .u32 (a.1.val : Int), .int .u32 (a.2.val : Int)] 24)).alloc (.cells #[.int .u32 (b.1.val : Int), .int .u32 (b.2.val : Int)] 24) = wq at ha hb hB ⊢
  obtain ⟨A0, A1⟩ := ha.regrown
  obtain ⟨B0, B1⟩ := hb.regrown
  refine wp_region_quiet_below (by kernel_rfl) (by kernel_rfl) ?_
  repeat (first | go_big_quiet_step (first | (refine right_qv (x := true) _ _ _ _ ?_; with_reducible assumption) | (refine right_qv (x := false) _ _ _ _ ?_; with_reducible assumption) | (refine refright_qv (x := true) _ _ _ _ ?_; with_reducible assumption) | (refine refright_qv (x := false) _ _ _ _ ?_; with_reducible assumption)) | quiet_step (first | (refine right_qv (x := true) _ _ _ _ ?_; with_reducible assumption) | (refine right_qv (x := false) _ _ _ _ ?_; with_reducible assumption) | (refine refright_qv (x := true) _ _ _ _ ?_; with_reducible assumption) | (refine refright_qv (x := false) _ _ _ _ ?_; with_reducible assumption)))
  refine wpQuiet_nil ?_
  intro _ hw'
  obtain ⟨⟨dq, osq⟩, hw''⟩ := hw'
  subst hw''
  replace ha := ha.below (below_regrown wq dq osq)
  replace hb := hb.below (below_regrown wq dq osq)
  replace hB := chain hB (below_regrown wq dq osq)
  clear A0 A1 B0 B1
  generalize grow (redrawn wq dq) osq = wq1 at ha hb hB ⊢
  clear wq
  have a0 := ha.1
  have a1 := ha.2.1
  have b0 := hb.1
  have b1 := hb.2.1
  go_wp2_with (first
    | (go_at_call 10; refine (refcright_any _ _).mono ?_; rintro e w2 ⟨rfl, hG⟩; replace hB := chain hB hG.below; replace ha := ha.below hG.below; replace hb := hb.below hG.below; have a0 := ha.1; have a1 := ha.2.1; have b0 := hb.1; have b1 := hb.2.1)
    | (go_at_call 12; refine (cmp_any _ _ _).mono ?_; rintro e w4 ⟨rfl, hG4⟩; replace hB := chain hB hG4.below; replace ha := ha.below hG4.below; replace hb := hb.below hG4.below; rw [hn]))
  obtain ⟨A0, A1⟩ := ha.regrown
  obtain ⟨B0, B1⟩ := hb.regrown
  refine wp_region_quiet_below (by kernel_rfl) (by kernel_rfl) ?_
  repeat (first | go_big_quiet_step (first | exact clash_q _ _ _ _ | exact refclash_q _ _ _ _ | exact meet_q _ _ _ _ _ | (refine refmeet_q _ _ ?_ ?_ _ _ _ <;> with_reducible assumption) | exact bel_q _ _ _ _ _ | exact refbel_q _ _ _ _ _ | (refine less_qv (x := true) _ _ _ _ _ ?_; with_reducible assumption) | (refine less_qv (x := false) _ _ _ _ _ ?_; with_reducible assumption) | exact works_q _ _ _) | quiet_step (first | exact clash_q _ _ _ _ | exact refclash_q _ _ _ _ | exact meet_q _ _ _ _ _ | (refine refmeet_q _ _ ?_ ?_ _ _ _ <;> with_reducible assumption) | exact bel_q _ _ _ _ _ | exact refbel_q _ _ _ _ _ | (refine less_qv (x := true) _ _ _ _ _ ?_; with_reducible assumption) | (refine less_qv (x := false) _ _ _ _ _ ?_; with_reducible assumption) | exact works_q _ _ _))
  refine wpQuiet_nil ?_
  intro _ hw'
  obtain ⟨⟨dq2, osq2⟩, hw''⟩ := hw'
  subst hw''
  go_wp2
  go_ret
  exact ⟨rfl, chain hB (below_regrown w4 dq2 osq2)⟩
set_option maxRecDepth 100000 in
set_option maxHeartbeats 4000000 in
theorem asks_gt2 (a b : C) (w : World) (ra : rightC a = true) (rb : rightC b = true) (x : ltC a b = false) (y : ltC b a = true) (hn : cmpC a b = 1) (f1 : ¬ a.1.val = b.1.val) (hbl : belR a b = belC a b) :
    Calls Try.prog 3 #[clV a, clV b] w fun e w' => e = .returned (.bool true) ∧ Below w.heap.size w w' := by
  have ha : At ((w.alloc (.cells #[.int .u32 (a.1.val : Int), .int .u32 (a.2.val : Int)] 24)).alloc (.cells #[.int .u32 (b.1.val : Int), .int .u32 (b.2.val : Int)] 24)) w.heap.size a := (At.made w a _).alloc _
  have hb : At ((w.alloc (.cells #[.int .u32 (a.1.val : Int), .int .u32 (a.2.val : Int)] 24)).alloc (.cells #[.int .u32 (b.1.val : Int), .int .u32 (b.2.val : Int)] 24)) (w.heap.size + 1) b := by
    have := At.made (w.alloc (.cells #[.int .u32 (a.1.val : Int), .int .u32 (a.2.val : Int)] 24)) b 24
    simpa using this
  have hB := (below_alloc w (.cells #[.int .u32 (a.1.val : Int), .int .u32 (a.2.val : Int)] 24)).alloc (by simp) (.cells #[.int .u32 (b.1.val : Int), .int .u32 (b.2.val : Int)] 24)
  go_enter Try.func3, Try.ntmps3
  go_wp2
  generalize (w.alloc (.cells #[.int .u32 (a.1.val : Int), .int .u32 (a.2.val : Int)] 24)).alloc (.cells #[.int .u32 (b.1.val : Int), .int .u32 (b.2.val : Int)] 24) = wq at ha hb hB ⊢
  obtain ⟨A0, A1⟩ := ha.regrown
  obtain ⟨B0, B1⟩ := hb.regrown
  refine wp_region_quiet_below (by kernel_rfl) (by kernel_rfl) ?_
  repeat (first | go_big_quiet_step (first | (refine right_qv (x := true) _ _ _ _ ?_; with_reducible assumption) | (refine right_qv (x := false) _ _ _ _ ?_; with_reducible assumption) | (refine refright_qv (x := true) _ _ _ _ ?_; with_reducible assumption) | (refine refright_qv (x := false) _ _ _ _ ?_; with_reducible assumption)) | quiet_step (first | (refine right_qv (x := true) _ _ _ _ ?_; with_reducible assumption) | (refine right_qv (x := false) _ _ _ _ ?_; with_reducible assumption) | (refine refright_qv (x := true) _ _ _ _ ?_; with_reducible assumption) | (refine refright_qv (x := false) _ _ _ _ ?_; with_reducible assumption)))
  refine wpQuiet_nil ?_
  intro _ hw'
  obtain ⟨⟨dq, osq⟩, hw''⟩ := hw'
  subst hw''
  replace ha := ha.below (below_regrown wq dq osq)
  replace hb := hb.below (below_regrown wq dq osq)
  replace hB := chain hB (below_regrown wq dq osq)
  clear A0 A1 B0 B1
  generalize grow (redrawn wq dq) osq = wq1 at ha hb hB ⊢
  clear wq
  have a0 := ha.1
  have a1 := ha.2.1
  have b0 := hb.1
  have b1 := hb.2.1
  go_wp2_with (first
    | (go_at_call 10; refine (refcright_any _ _).mono ?_; rintro e w2 ⟨rfl, hG⟩; replace hB := chain hB hG.below; replace ha := ha.below hG.below; replace hb := hb.below hG.below; have a0 := ha.1; have a1 := ha.2.1; have b0 := hb.1; have b1 := hb.2.1)
    | (go_at_call 12; refine (cmp_any _ _ _).mono ?_; rintro e w4 ⟨rfl, hG4⟩; replace hB := chain hB hG4.below; replace ha := ha.below hG4.below; replace hb := hb.below hG4.below; rw [hn]))
  obtain ⟨A0, A1⟩ := ha.regrown
  obtain ⟨B0, B1⟩ := hb.regrown
  refine wp_region_quiet_below (by kernel_rfl) (by kernel_rfl) ?_
  repeat (first | go_big_quiet_step (first | exact clash_q _ _ _ _ | exact refclash_q _ _ _ _ | exact meet_q _ _ _ _ _ | (refine refmeet_q _ _ ?_ ?_ _ _ _ <;> with_reducible assumption) | exact bel_q _ _ _ _ _ | exact refbel_q _ _ _ _ _ | (refine less_qv (x := true) _ _ _ _ _ ?_; with_reducible assumption) | (refine less_qv (x := false) _ _ _ _ _ ?_; with_reducible assumption) | exact works_q _ _ _) | quiet_step (first | exact clash_q _ _ _ _ | exact refclash_q _ _ _ _ | exact meet_q _ _ _ _ _ | (refine refmeet_q _ _ ?_ ?_ _ _ _ <;> with_reducible assumption) | exact bel_q _ _ _ _ _ | exact refbel_q _ _ _ _ _ | (refine less_qv (x := true) _ _ _ _ _ ?_; with_reducible assumption) | (refine less_qv (x := false) _ _ _ _ _ ?_; with_reducible assumption) | exact works_q _ _ _))
  refine wpQuiet_nil ?_
  intro _ hw'
  obtain ⟨⟨dq2, osq2⟩, hw''⟩ := hw'
  subst hw''
  go_wp2
  go_ret
  exact ⟨rfl, chain hB (below_regrown w4 dq2 osq2)⟩
set_option maxRecDepth 100000 in
set_option maxHeartbeats 4000000 in
theorem asks_eq (a : C) (w : World) (ra : rightC a = true) (x : ltC a a = false) (hn : cmpC a a = 0) (hbl : belR a a = belC a a) :
    Calls Try.prog 3 #[clV a, clV a] w fun e w' => e = .returned (.bool true) ∧ Below w.heap.size w w' := by
  have ha : At ((w.alloc (.cells #[.int .u32 (a.1.val : Int), .int .u32 (a.2.val : Int)] 24)).alloc (.cells #[.int .u32 (a.1.val : Int), .int .u32 (a.2.val : Int)] 24)) w.heap.size a := (At.made w a _).alloc _
  have hb : At ((w.alloc (.cells #[.int .u32 (a.1.val : Int), .int .u32 (a.2.val : Int)] 24)).alloc (.cells #[.int .u32 (a.1.val : Int), .int .u32 (a.2.val : Int)] 24)) (w.heap.size + 1) a := by
    have := At.made (w.alloc (.cells #[.int .u32 (a.1.val : Int), .int .u32 (a.2.val : Int)] 24)) a 24
    simpa using this
  have hB := (below_alloc w (.cells #[.int .u32 (a.1.val : Int), .int .u32 (a.2.val : Int)] 24)).alloc (by simp) (.cells #[.int .u32 (a.1.val : Int), .int .u32 (a.2.val : Int)] 24)
  go_enter Try.func3, Try.ntmps3
  go_wp2
  generalize (w.alloc (.cells #[.int .u32 (a.1.val : Int), .int .u32 (a.2.val : Int)] 24)).alloc (.cells #[.int .u32 (a.1.val : Int), .int .u32 (a.2.val : Int)] 24) = wq at ha hb hB ⊢
  obtain ⟨A0, A1⟩ := ha.regrown
  obtain ⟨B0, B1⟩ := hb.regrown
  refine wp_region_quiet_below (by kernel_rfl) (by kernel_rfl) ?_
  repeat (first | go_big_quiet_step (first | (refine right_qv (x := true) _ _ _ _ ?_; with_reducible assumption) | (refine right_qv (x := false) _ _ _ _ ?_; with_reducible assumption) | (refine refright_qv (x := true) _ _ _ _ ?_; with_reducible assumption) | (refine refright_qv (x := false) _ _ _ _ ?_; with_reducible assumption)) | quiet_step (first | (refine right_qv (x := true) _ _ _ _ ?_; with_reducible assumption) | (refine right_qv (x := false) _ _ _ _ ?_; with_reducible assumption) | (refine refright_qv (x := true) _ _ _ _ ?_; with_reducible assumption) | (refine refright_qv (x := false) _ _ _ _ ?_; with_reducible assumption)))
  refine wpQuiet_nil ?_
  intro _ hw'
  obtain ⟨⟨dq, osq⟩, hw''⟩ := hw'
  subst hw''
  replace ha := ha.below (below_regrown wq dq osq)
  replace hb := hb.below (below_regrown wq dq osq)
  replace hB := chain hB (below_regrown wq dq osq)
  clear A0 A1 B0 B1
  generalize grow (redrawn wq dq) osq = wq1 at ha hb hB ⊢
  clear wq
  have a0 := ha.1
  have a1 := ha.2.1
  have b0 := hb.1
  have b1 := hb.2.1
  go_wp2_with (first
    | (go_at_call 10; refine (refcright_any _ _).mono ?_; rintro e w2 ⟨rfl, hG⟩; replace hB := chain hB hG.below; replace ha := ha.below hG.below; replace hb := hb.below hG.below; have a0 := ha.1; have a1 := ha.2.1; have b0 := hb.1; have b1 := hb.2.1)
    | (go_at_call 12; refine (cmp_any _ _ _).mono ?_; rintro e w4 ⟨rfl, hG4⟩; replace hB := chain hB hG4.below; replace ha := ha.below hG4.below; replace hb := hb.below hG4.below; rw [hn]))
  obtain ⟨A0, A1⟩ := ha.regrown
  obtain ⟨B0, B1⟩ := hb.regrown
  refine wp_region_quiet_below (by kernel_rfl) (by kernel_rfl) ?_
  repeat (first | go_big_quiet_step (first | exact clash_q _ _ _ _ | exact refclash_q _ _ _ _ | exact meet_q _ _ _ _ _ | (refine refmeet_q _ _ ?_ ?_ _ _ _ <;> with_reducible assumption) | exact bel_q _ _ _ _ _ | exact refbel_q _ _ _ _ _ | (refine less_qv (x := true) _ _ _ _ _ ?_; with_reducible assumption) | (refine less_qv (x := false) _ _ _ _ _ ?_; with_reducible assumption) | exact works_q _ _ _) | quiet_step (first | exact clash_q _ _ _ _ | exact refclash_q _ _ _ _ | exact meet_q _ _ _ _ _ | (refine refmeet_q _ _ ?_ ?_ _ _ _ <;> with_reducible assumption) | exact bel_q _ _ _ _ _ | exact refbel_q _ _ _ _ _ | (refine less_qv (x := true) _ _ _ _ _ ?_; with_reducible assumption) | (refine less_qv (x := false) _ _ _ _ _ ?_; with_reducible assumption) | exact works_q _ _ _))
  refine wpQuiet_nil ?_
  intro _ hw'
  obtain ⟨⟨dq2, osq2⟩, hw''⟩ := hw'
  subst hw''
  go_wp2
  go_ret
  exact ⟨rfl, chain hB (below_regrown w4 dq2 osq2)⟩
set_option maxRecDepth 100000 in
set_option maxHeartbeats 4000000 in
theorem walk_ClauseAsks (a b : C) (w : World) :
    Calls Try.prog 3 #[clV a, clV b] w fun e w' => e = .returned (.bool true) ∧ Below w.heap.size w w' := by
  have ha : At ((w.alloc (.cells #[.int .u32 (a.1.val : Int), .int .u32 (a.2.val : Int)] 24)).alloc (.cells #[.int .u32 (b.1.val : Int), .int .u32 (b.2.val : Int)] 24)) w.heap.size a := (At.made w a _).alloc _
  have hb : At ((w.alloc (.cells #[.int .u32 (a.1.val : Int), .int .u32 (a.2.val : Int)] 24)).alloc (.cells #[.int .u32 (b.1.val : Int), .int .u32 (b.2.val : Int)] 24)) (w.heap.size + 1) b := by
    have := At.made (w.alloc (.cells #[.int .u32 (a.1.val : Int), .int .u32 (a.2.val : Int)] 24)) b 24
    simpa using this
  have hB := (below_alloc w (.cells #[.int .u32 (a.1.val : Int), .int .u32 (a.2.val : Int)] 24)).alloc (by simp) (.cells #[.int .u32 (b.1.val : Int), .int .u32 (b.2.val : Int)] 24)
  cases ra : rightC a
  · cases rb : rightC b
    · go_enter Try.func3, Try.ntmps3
      go_wp2
      generalize (w.alloc (.cells #[.int .u32 (a.1.val : Int), .int .u32 (a.2.val : Int)] 24)).alloc (.cells #[.int .u32 (b.1.val : Int), .int .u32 (b.2.val : Int)] 24) = wq at ha hb hB ⊢
      obtain ⟨A0, A1⟩ := ha.regrown
      obtain ⟨B0, B1⟩ := hb.regrown
      refine wp_region_quiet_below (by kernel_rfl) (by kernel_rfl) ?_
      repeat (first | go_big_quiet_step (first | (refine right_qv (x := true) _ _ _ _ ?_; with_reducible assumption) | (refine right_qv (x := false) _ _ _ _ ?_; with_reducible assumption) | (refine refright_qv (x := true) _ _ _ _ ?_; with_reducible assumption) | (refine refright_qv (x := false) _ _ _ _ ?_; with_reducible assumption)) | quiet_step (first | (refine right_qv (x := true) _ _ _ _ ?_; with_reducible assumption) | (refine right_qv (x := false) _ _ _ _ ?_; with_reducible assumption) | (refine refright_qv (x := true) _ _ _ _ ?_; with_reducible assumption) | (refine refright_qv (x := false) _ _ _ _ ?_; with_reducible assumption)))
      refine wpQuiet_nil ?_
      intro _ hw'
      obtain ⟨⟨dq, osq⟩, hw''⟩ := hw'
      subst hw''
      replace ha := ha.below (below_regrown wq dq osq)
      replace hb := hb.below (below_regrown wq dq osq)
      replace hB := chain hB (below_regrown wq dq osq)
      clear A0 A1 B0 B1
      generalize grow (redrawn wq dq) osq = wq1 at ha hb hB ⊢
      clear wq
      have a0 := ha.1
      have a1 := ha.2.1
      have b0 := hb.1
      have b1 := hb.2.1
      go_wp2_with (first
        | (go_at_call 10; refine (refcright_any _ _).mono ?_; rintro e w2 ⟨rfl, hG⟩; replace hB := chain hB hG.below; replace ha := ha.below hG.below; replace hb := hb.below hG.below; have a0 := ha.1; have a1 := ha.2.1; have b0 := hb.1; have b1 := hb.2.1)
        | (go_at_call 11; refine (works_any _).mono ?_; rintro e w3 ⟨rfl, hB3⟩; replace hB := chain hB hB3))
      go_ret
      exact ⟨rfl, hB⟩
    · go_enter Try.func3, Try.ntmps3
      go_wp2
      generalize (w.alloc (.cells #[.int .u32 (a.1.val : Int), .int .u32 (a.2.val : Int)] 24)).alloc (.cells #[.int .u32 (b.1.val : Int), .int .u32 (b.2.val : Int)] 24) = wq at ha hb hB ⊢
      obtain ⟨A0, A1⟩ := ha.regrown
      obtain ⟨B0, B1⟩ := hb.regrown
      refine wp_region_quiet_below (by kernel_rfl) (by kernel_rfl) ?_
      repeat (first | go_big_quiet_step (first | (refine right_qv (x := true) _ _ _ _ ?_; with_reducible assumption) | (refine right_qv (x := false) _ _ _ _ ?_; with_reducible assumption) | (refine refright_qv (x := true) _ _ _ _ ?_; with_reducible assumption) | (refine refright_qv (x := false) _ _ _ _ ?_; with_reducible assumption)) | quiet_step (first | (refine right_qv (x := true) _ _ _ _ ?_; with_reducible assumption) | (refine right_qv (x := false) _ _ _ _ ?_; with_reducible assumption) | (refine refright_qv (x := true) _ _ _ _ ?_; with_reducible assumption) | (refine refright_qv (x := false) _ _ _ _ ?_; with_reducible assumption)))
      refine wpQuiet_nil ?_
      intro _ hw'
      obtain ⟨⟨dq, osq⟩, hw''⟩ := hw'
      subst hw''
      replace ha := ha.below (below_regrown wq dq osq)
      replace hb := hb.below (below_regrown wq dq osq)
      replace hB := chain hB (below_regrown wq dq osq)
      clear A0 A1 B0 B1
      generalize grow (redrawn wq dq) osq = wq1 at ha hb hB ⊢
      clear wq
      have a0 := ha.1
      have a1 := ha.2.1
      have b0 := hb.1
      have b1 := hb.2.1
      go_wp2_with (first
        | (go_at_call 10; refine (refcright_any _ _).mono ?_; rintro e w2 ⟨rfl, hG⟩; replace hB := chain hB hG.below; replace ha := ha.below hG.below; replace hb := hb.below hG.below; have a0 := ha.1; have a1 := ha.2.1; have b0 := hb.1; have b1 := hb.2.1)
        | (go_at_call 11; refine (works_any _).mono ?_; rintro e w3 ⟨rfl, hB3⟩; replace hB := chain hB hB3))
      go_ret
      exact ⟨rfl, hB⟩
  cases rb : rightC b
  · go_enter Try.func3, Try.ntmps3
    go_wp2
    generalize (w.alloc (.cells #[.int .u32 (a.1.val : Int), .int .u32 (a.2.val : Int)] 24)).alloc (.cells #[.int .u32 (b.1.val : Int), .int .u32 (b.2.val : Int)] 24) = wq at ha hb hB ⊢
    obtain ⟨A0, A1⟩ := ha.regrown
    obtain ⟨B0, B1⟩ := hb.regrown
    refine wp_region_quiet_below (by kernel_rfl) (by kernel_rfl) ?_
    repeat (first | go_big_quiet_step (first | (refine right_qv (x := true) _ _ _ _ ?_; with_reducible assumption) | (refine right_qv (x := false) _ _ _ _ ?_; with_reducible assumption) | (refine refright_qv (x := true) _ _ _ _ ?_; with_reducible assumption) | (refine refright_qv (x := false) _ _ _ _ ?_; with_reducible assumption)) | quiet_step (first | (refine right_qv (x := true) _ _ _ _ ?_; with_reducible assumption) | (refine right_qv (x := false) _ _ _ _ ?_; with_reducible assumption) | (refine refright_qv (x := true) _ _ _ _ ?_; with_reducible assumption) | (refine refright_qv (x := false) _ _ _ _ ?_; with_reducible assumption)))
    refine wpQuiet_nil ?_
    intro _ hw'
    obtain ⟨⟨dq, osq⟩, hw''⟩ := hw'
    subst hw''
    replace ha := ha.below (below_regrown wq dq osq)
    replace hb := hb.below (below_regrown wq dq osq)
    replace hB := chain hB (below_regrown wq dq osq)
    clear A0 A1 B0 B1
    generalize grow (redrawn wq dq) osq = wq1 at ha hb hB ⊢
    clear wq
    have a0 := ha.1
    have a1 := ha.2.1
    have b0 := hb.1
    have b1 := hb.2.1
    go_wp2_with (first
      | (go_at_call 10; refine (refcright_any _ _).mono ?_; rintro e w2 ⟨rfl, hG⟩; replace hB := chain hB hG.below; replace ha := ha.below hG.below; replace hb := hb.below hG.below; have a0 := ha.1; have a1 := ha.2.1; have b0 := hb.1; have b1 := hb.2.1)
      | (go_at_call 11; refine (works_any _).mono ?_; rintro e w3 ⟨rfl, hB3⟩; replace hB := chain hB hB3))
    go_ret
    exact ⟨rfl, hB⟩
  clear ha hb hB
  have hbl : belR a b = belC a b := belR_eq rb
  rcases cmpC_cases a b with ⟨h, e⟩ | ⟨h, e⟩ | ⟨h, e⟩
  · have hne := ltC_ne h
    by_cases f0 : a.1.val = b.1.val
    · exact asks_lt1 a b w ra rb h (ltC_asymm h) e (by simp [f0]) (fun h2 => hne (c_ext f0 h2)) hbl
    · exact asks_lt2 a b w ra rb h (ltC_asymm h) e f0 hbl
  · have hne := ltC_ne h
    by_cases f0 : a.1.val = b.1.val
    · exact asks_gt1 a b w ra rb (ltC_asymm h) h e (by simp [f0]) (fun h2 => hne (c_ext f0 h2).symm) hbl
    · exact asks_gt2 a b w ra rb (ltC_asymm h) h e f0 hbl
  · subst h
    exact asks_eq a w ra (ltC_irrefl a) e hbl
end Go.Proofs.Ytmegeaklddncoaa
