/- The document's answer: needed tells whether a clause is below no other one of a row; nothing that lay before the call turns. -/
import Derived.BigQuiet
import Derived.Test.YtdikaomebbpmhaaGreatWCovers
namespace Go.Proofs.YtdikaomebbpmhaaGreat
open Go.RowKit Go.Sort
set_option linter.unusedVariables false
set_option linter.unusedSimpArgs false

theorem refbel_qt (a b : C) (w : World) (d : Nat) (os : Array Obj) (h : belR a b = true) : Calls Tryz.prog 72 #[clV a, clV b] (grow (redrawn w d) os) fun e w'' => e = .returned (.bool true) ∧ ∃ p : Regrown, w'' = grow (redrawn w p.d) p.os := h ▸ refbel_q a b w d os
theorem refbel_qf (a b : C) (w : World) (d : Nat) (os : Array Obj) (h : belR a b = false) : Calls Tryz.prog 72 #[clV a, clV b] (grow (redrawn w d) os) fun e w'' => e = .returned (.bool false) ∧ ∃ p : Regrown, w'' = grow (redrawn w p.d) p.os := h ▸ refbel_q a b w d os
theorem needed_take_step {l : List C} {k : Nat} {c d : C} (h : l[k]? = some d) : neededB (l.take (k + 1)) c = (neededB (l.take k) c && (decide (d = c) || !belC c d)) := by
  have e : l.take (k + 1) = l.take k ++ [d] := by rw [List.take_add_one, h]; rfl
  rw [e, neededB, List.all_append, neededB]
  simp
theorem not_needed {l : List C} {k : Nat} {c d : C} (h : l[k]? = some d) (hne : d ≠ c) (hb : belC c d = true) : neededB l c = false := by
  cases hn : neededB l c
  · rfl
  · exact absurd (needed_iff.1 hn d (List.mem_of_getElem? h) hb) hne

set_option maxRecDepth 100000 in
set_option maxHeartbeats 4000000 in
theorem needed_any (l : List C) (c : C) (v : Value) (w : World) (hv : CRow w v l) (hr : l.all rightC = true) (hl : l.length ≤ 100000) :
    Calls Tryz.prog 51 #[v, clV c] w fun e w' => e = .returned (.bool (neededB l c)) ∧ Below w.heap.size w w' := by
  have hm := At.made w c 25
  have hB := below_alloc w (.cells #[.int .u32 (c.1.val : Int), .int .u32 (c.2.val : Int)] 25)
  by_cases hz : l = []
  · subst hz
    obtain ⟨a0, cap, rfl⟩ := hv.len
    clear hv
    go_enter Tryz.func51, Tryz.ntmps51
    go_wp2
    go_loop [5] (fun i => i = .int .i64 0) (fun _ => 0)
    case atStart => rfl
    case round =>
      subst hrel
      go_wp2
      go_ret
      exact ⟨rfl, hB⟩
  obtain ⟨g, off, cap, rfl, hg, hc⟩ := hv.cons hz
  clear hv
  replace hc := hc.below hB hg
  replace hg : g < (w.alloc (.cells #[.int .u32 (c.1.val : Int), .int .u32 (c.2.val : Int)] 25)).heap.size := Nat.lt_of_lt_of_le hg hB.size
  obtain ⟨n, hn⟩ : ∃ n, n = l.length := ⟨_, rfl⟩
  have Hn : Hid (n = l.length) := hn
  have Hr : Hid (l.all rightC = true) := hr
  rw [← hn] at hl ⊢
  clear hn hr
  go_enter Tryz.func51, Tryz.ntmps51
  go_wp2
  generalize w.alloc (.cells #[.int .u32 (c.1.val : Int), .int .u32 (c.2.val : Int)] 25) = wb at hm hB hc hg ⊢
  go_loopw [5] (fun i wr => ∃ k : Nat, k ≤ n ∧ i = .int .i64 k ∧ neededB (l.take k) c = true ∧ Below wb.heap.size wb wr) (fun i _ => n - (intOf i).toNat)
  case atStart => exact ⟨0, Nat.zero_le _, rfl, rfl, Below.refl _ _⟩
  case round =>
    obtain ⟨k, hk, rfl, hnd, hny⟩ := hrel
    have HN : Hid (neededB (l.take k) c = true) := hnd
    clear hnd
    by_cases hlt : k < n
    · obtain ⟨d, hdk⟩ := get_some (l := l) (k := k) (by rw [← Hn.out]; exact hlt)
      obtain ⟨X0, X1⟩ := (hc.below hny hg).regrown hdk
      obtain ⟨A0, A1⟩ := (hm.below hny).regrown
      have HD : Hid (l[k]? = some d) := hdk
      have HS : Hid (neededB (l.take (k + 1)) c = (neededB (l.take k) c && (decide (d = c) || !belC c d))) := needed_take_step hdk
      have hrd : rightC d = true := List.all_eq_true.1 Hr.out d (List.mem_of_getElem? hdk)
      have hbr : belR c d = belC c d := belR_eq hrd
      clear hdk hrd
      by_cases e : d = c
      · have HT : Hid (neededB (l.take (k + 1)) c = true) := HS.out.trans (by rw [HN.out]; simp [e])
        subst e
        go_wp2
        refine wp_region_quiet_below (by kernel_rfl) (by kernel_rfl) ?_
        repeat (first | go_big_quiet_step (fail) | quiet_step (fail))
        refine wpQuiet_nil ?_
        intro _ hw'
        obtain ⟨⟨dq, osq⟩, hw''⟩ := hw'
        subst hw''
        go_wp2
        go_roundw
        case rel => exact ⟨k + 1, by omega, by go_num, HT.out, hny.trans ((below_regrown _ dq osq).mono hny.size)⟩
        case measure => simp [intOf]; omega
      · have HE : Hid (d ≠ c) := e
        by_cases f0 : d.1.val = c.1.val
        · have f2 : ¬ d.2.val = c.2.val := fun h => e (c_ext f0 h)
          have f1 : ((d.1.val : Int) == (c.1.val : Int)) = true := by simp [f0]
          clear f0 e
          cases hb : belC c d
          · rw [hb] at hbr
            have HT : Hid (neededB (l.take (k + 1)) c = true) := HS.out.trans (by rw [HN.out, hb]; simp)
            go_wp2
            refine wp_region_quiet_below (by kernel_rfl) (by kernel_rfl) ?_
            repeat (first | go_big_quiet_step ((refine refbel_qf _ _ _ _ _ ?_; with_reducible assumption)) | quiet_step ((refine refbel_qf _ _ _ _ _ ?_; with_reducible assumption)))
            refine wpQuiet_nil ?_
            intro _ hw'
            obtain ⟨⟨dq, osq⟩, hw''⟩ := hw'
            subst hw''
            go_wp2
            go_roundw
            case rel => exact ⟨k + 1, by omega, by go_num, HT.out, hny.trans ((below_regrown _ dq osq).mono hny.size)⟩
            case measure => simp [intOf]; omega
          · rw [hb] at hbr
            have HT : Hid (neededB l c = false) := not_needed HD.out HE.out hb
            go_wp2
            refine wp_region_quiet_below (by kernel_rfl) (by kernel_rfl) ?_
            repeat (first | go_big_quiet_step ((refine refbel_qt _ _ _ _ _ ?_; with_reducible assumption)) | quiet_step ((refine refbel_qt _ _ _ _ _ ?_; with_reducible assumption)))
            refine wpQuiet_nil ?_
            intro _ hw'
            obtain ⟨⟨dq, osq⟩, hw''⟩ := hw'
            subst hw''
            go_wp2
            go_ret
            exact ⟨ret_bool HT.out.symm, chain hB (hny.trans ((below_regrown _ dq osq).mono hny.size))⟩
        · clear e
          cases hb : belC c d
          · rw [hb] at hbr
            have HT : Hid (neededB (l.take (k + 1)) c = true) := HS.out.trans (by rw [HN.out, hb]; simp)
            go_wp2
            refine wp_region_quiet_below (by kernel_rfl) (by kernel_rfl) ?_
            repeat (first | go_big_quiet_step ((refine refbel_qf _ _ _ _ _ ?_; with_reducible assumption)) | quiet_step ((refine refbel_qf _ _ _ _ _ ?_; with_reducible assumption)))
            refine wpQuiet_nil ?_
            intro _ hw'
            obtain ⟨⟨dq, osq⟩, hw''⟩ := hw'
            subst hw''
            go_wp2
            go_roundw
            case rel => exact ⟨k + 1, by omega, by go_num, HT.out, hny.trans ((below_regrown _ dq osq).mono hny.size)⟩
            case measure => simp [intOf]; omega
          · rw [hb] at hbr
            have HT : Hid (neededB l c = false) := not_needed HD.out HE.out hb
            go_wp2
            refine wp_region_quiet_below (by kernel_rfl) (by kernel_rfl) ?_
            repeat (first | go_big_quiet_step ((refine refbel_qt _ _ _ _ _ ?_; with_reducible assumption)) | quiet_step ((refine refbel_qt _ _ _ _ _ ?_; with_reducible assumption)))
            refine wpQuiet_nil ?_
            intro _ hw'
            obtain ⟨⟨dq, osq⟩, hw''⟩ := hw'
            subst hw''
            go_wp2
            go_ret
            exact ⟨ret_bool HT.out.symm, chain hB (hny.trans ((below_regrown _ dq osq).mono hny.size))⟩
    · obtain rfl : k = n := by omega
      have HT : Hid (neededB l c = true) := by
        have h := HN.out
        rwa [List.take_of_length_le (by rw [← Hn.out]; exact Nat.le_refl _)] at h
      go_wp2
      go_ret
      exact ⟨ret_bool HT.out.symm, chain hB hny⟩
end Go.Proofs.YtdikaomebbpmhaaGreat
