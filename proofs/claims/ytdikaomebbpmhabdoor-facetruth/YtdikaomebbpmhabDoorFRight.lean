/- Right: may a formula be? Nothing that lay before the call turns. -/
import Derived.BigQuiet
import Derived.Test.YtdikaomebbpmhabDoorFRow
namespace Go.Proofs.YtdikaomebbpmhabDoor
open Go.RowKit Go.Sort
set_option linter.unusedVariables false
set_option linter.unusedSimpArgs false

theorem cright_q (c : C) (w : World) (d : Nat) (os : Array Obj) : Calls Tryd.prog 6 #[clV c] (grow (redrawn w d) os) fun e w'' => e = .returned (.bool (rightC c)) ∧ ∃ p : Regrown, w'' = grow (redrawn w p.d) p.os :=
  Calls.regrown_of ((cright_any c _).mono fun _ _ h => ⟨h.1, h.2.below⟩)
theorem cright_qt (c : C) (w : World) (d : Nat) (os : Array Obj) (h : rightC c = true) : Calls Tryd.prog 6 #[clV c] (grow (redrawn w d) os) fun e w'' => e = .returned (.bool true) ∧ ∃ p : Regrown, w'' = grow (redrawn w p.d) p.os := h ▸ cright_q c w d os
theorem cright_qf (c : C) (w : World) (d : Nat) (os : Array Obj) (h : rightC c = false) : Calls Tryd.prog 6 #[clV c] (grow (redrawn w d) os) fun e w'' => e = .returned (.bool false) ∧ ∃ p : Regrown, w'' = grow (redrawn w p.d) p.os := h ▸ cright_q c w d os
theorem cmp_q (a b : C) (w : World) (d : Nat) (os : Array Obj) : Calls Tryd.prog 32 #[clV a, clV b] (grow (redrawn w d) os) fun e w'' => e = .returned (.int .i64 (cmpC a b)) ∧ ∃ p : Regrown, w'' = grow (redrawn w p.d) p.os :=
  Calls.regrown_of ((cmp_any a b _).mono fun _ _ h => ⟨h.1, h.2.below⟩)
theorem cmp_qm (a b : C) (w : World) (d : Nat) (os : Array Obj) (h : cmpC a b = -1) : Calls Tryd.prog 32 #[clV a, clV b] (grow (redrawn w d) os) fun e w'' => e = .returned (.int .i64 (-1)) ∧ ∃ p : Regrown, w'' = grow (redrawn w p.d) p.os := h ▸ cmp_q a b w d os
theorem cmp_qz (a b : C) (w : World) (d : Nat) (os : Array Obj) (h : cmpC a b = 0) : Calls Tryd.prog 32 #[clV a, clV b] (grow (redrawn w d) os) fun e w'' => e = .returned (.int .i64 0) ∧ ∃ p : Regrown, w'' = grow (redrawn w p.d) p.os := h ▸ cmp_q a b w d os
theorem cmp_qp (a b : C) (w : World) (d : Nat) (os : Array Obj) (h : cmpC a b = 1) : Calls Tryd.prog 32 #[clV a, clV b] (grow (redrawn w d) os) fun e w'' => e = .returned (.int .i64 1) ∧ ∃ p : Regrown, w'' = grow (redrawn w p.d) p.os := h ▸ cmp_q a b w d os
theorem fb_q (c : C) (l : List C) (v : Value) (w : World) (d : Nat) (os : Array Obj) (hv : CRow w v l) (hl : l.length ≤ 100000) : Calls Tryd.prog 33 #[clV c, v] (grow (redrawn w d) os) fun e w'' => e = .returned (.bool (l.any (fun b => belC c b))) ∧ ∃ p : Regrown, w'' = grow (redrawn w p.d) p.os :=
  Calls.regrown_of (fbelowOne_any c l v _ (hv.below (below_regrown w d os)) hl)
theorem fb_qt (c : C) (l : List C) (v : Value) (w : World) (d : Nat) (os : Array Obj) (hv : CRow w v l) (hl : l.length ≤ 100000) (h : l.any (fun b => belC c b) = true) : Calls Tryd.prog 33 #[clV c, v] (grow (redrawn w d) os) fun e w'' => e = .returned (.bool true) ∧ ∃ p : Regrown, w'' = grow (redrawn w p.d) p.os := h ▸ fb_q c l v w d os hv hl
theorem fb_qf (c : C) (l : List C) (v : Value) (w : World) (d : Nat) (os : Array Obj) (hv : CRow w v l) (hl : l.length ≤ 100000) (h : l.any (fun b => belC c b) = false) : Calls Tryd.prog 33 #[clV c, v] (grow (redrawn w d) os) fun e w'' => e = .returned (.bool false) ∧ ∃ p : Regrown, w'' = grow (redrawn w p.d) p.os := h ▸ fb_q c l v w d os hv hl

/-- What the code asks of the clause at place k. -/
theorem pre_step {f : List C} {k : Nat} {c : C} (h : PreOk (f.take k)) (hk : f[k]? = some c) (hr : rightC c = true) (hlt : ∀ d, 0 < k → f[k - 1]? = some d → ltC d c = true) (ha : (f.take k).any (fun b => belC c b) = false) : PreOk (f.take (k + 1)) := by
  have e : f.take (k + 1) = f.take k ++ [c] := by rw [List.take_add_one, hk]; rfl
  rw [e]
  refine PreOk.snoc.2 ⟨h, hr, fun d hd => ?_, ha⟩
  have hkl : k < f.length := by
    rcases Nat.lt_or_ge k f.length with h1 | h1
    · exact h1
    · rw [List.getElem?_eq_none h1] at hk; exact absurd hk (by simp)
  rw [List.getLast?_eq_getElem?, List.length_take, Nat.min_eq_left (Nat.le_of_lt hkl)] at hd
  have h0 : 0 < k := by
    rcases Nat.eq_zero_or_pos k with rfl | h0
    · simp at hd
    · exact h0
  rw [List.getElem?_take, if_pos (by omega)] at hd
  exact hlt d h0 hd
theorem not_pre {f : List C} {k : Nat} {c : C} (hk : f[k]? = some c) (h : ¬ (rightC c = true ∧ (∀ d, 0 < k → f[k - 1]? = some d → ltC d c = true) ∧ (f.take k).any (fun b => belC c b) = false)) : rightF f = false := by
  cases hr : rightF f
  · rfl
  · obtain ⟨hp, _⟩ := rightF_iff.1 hr
    have h1 := hp.take (k + 1)
    have e : f.take (k + 1) = f.take k ++ [c] := by rw [List.take_add_one, hk]; rfl
    rw [e] at h1
    obtain ⟨_, h2, h3, h4⟩ := PreOk.snoc.1 h1
    refine absurd ⟨h2, fun d h0 hd => h3 d ?_, h4⟩ h
    have hkl : k < f.length := by
      rcases Nat.lt_or_ge k f.length with h1 | h1
      · exact h1
      · rw [List.getElem?_eq_none h1] at hk; exact absurd hk (by simp)
    rw [List.getLast?_eq_getElem?, List.length_take, Nat.min_eq_left (Nat.le_of_lt hkl), List.getElem?_take, if_pos (by omega)]
    exact hd

set_option maxRecDepth 100000 in
set_option maxHeartbeats 8000000 in
theorem fright_any (l : List C) (v : Value) (w : World) (hv : FRow w v l) (hl : l.length ≤ 100000) :
    Calls Tryd.prog 16 #[v] w fun e w' => e = .returned (.bool (rightF l)) ∧ Below w.heap.size w w' := by
  by_cases hbig : 64 < l.length
  · have H : Hid (rightF l = false) := by
      cases hr : rightF l
      · rfl
      · have := rightF_len hr; omega
    obtain ⟨a0, cap, rfl⟩ := hv.len
    clear hv
    generalize l.length = n at *
    go_enter Tryd.func16, Tryd.ntmps16
    go_wp2
    go_ret
    exact ⟨ret_bool H.out.symm, Below.refl _ _⟩
  by_cases hz : l = []
  · subst hz
    obtain ⟨a0, cap, rfl⟩ := hv.len
    clear hv
    go_enter Tryd.func16, Tryd.ntmps16
    go_wp2
    go_loop [10] (fun i => i = .int .i64 0) (fun _ => 0)
    case atStart => rfl
    case round =>
      subst hrel
      go_wp2
      go_ret
      exact ⟨ret_bool rightF_nil.symm, Below.refl _ _⟩
  obtain ⟨g, off, cap, rfl, hcap, hg, hc⟩ := hv.form hz
  clear hv hl
  have hl : l.length ≤ 64 := by omega
  clear hbig
  obtain ⟨n, hn⟩ : ∃ n, n = l.length := ⟨_, rfl⟩
  have Hn : Hid (n = l.length) := hn
  rw [← hn] at hl hcap ⊢
  clear hn
  go_enter Tryd.func16, Tryd.ntmps16
  go_wp2
  go_loopw [10] (fun i wr => ∃ k : Nat, k ≤ n ∧ i = .int .i64 k ∧ PreOk (l.take k) ∧ Below w.heap.size w wr) (fun i _ => n - (intOf i).toNat)
  case atStart => exact ⟨0, Nat.zero_le _, rfl, PreOk.nil, Below.refl _ _⟩
  case round =>
    obtain ⟨k, hk, rfl, hpre, hny⟩ := hrel
    have HP : Hid (PreOk (l.take k)) := hpre
    clear hpre
    by_cases hlt : k < n
    · obtain ⟨c, hck⟩ := get_some (l := l) (k := k) (by rw [← Hn.out]; exact hlt)
      have HC : Hid (l[k]? = some c) := hck
      obtain ⟨x0, x1⟩ := (hc.below hny hg) k c hck
      have htl : (l.take k).length = k := by rw [List.length_take, ← Hn.out]; omega
      have hgr : g < wr.heap.size := Nat.lt_of_lt_of_le hg hny.size
      have hrow : CRow wr (.slice (some ⟨g, off, none⟩) k cap) (l.take k) := by
        have h1 : CellsC wr g off (l.take k) := CellsC.take (hc.below hny hg) k
        exact .inr ⟨g, off, cap, by rw [htl], hgr, h1⟩
      have hrl : (l.take k).length ≤ 100000 := by omega
      have hA := At.made wr c 25
      have hBb := below_alloc wr (.cells #[.int .u32 (c.1.val : Int), .int .u32 (c.2.val : Int)] 25)
      cases hrc : rightC c
      · have HT : Hid (rightF l = false) := not_pre hck (fun h => by rw [h.1] at hrc; exact absurd hrc (by simp))
        clear hck hrow htl hrl
        go_wp2
        generalize wr.alloc (.cells #[.int .u32 (c.1.val : Int), .int .u32 (c.2.val : Int)] 25) = wb at hA hBb ⊢
        obtain ⟨A0, A1⟩ := hA.regrown
        refine wp_region_quiet_below (by kernel_rfl) (by kernel_rfl) ?_
        repeat (first | go_big_quiet_step ((refine cright_qf _ _ _ _ ?_; with_reducible assumption)) | quiet_step ((refine cright_qf _ _ _ _ ?_; with_reducible assumption)))
        refine wpQuiet_nil ?_
        intro _ hw'
        obtain ⟨⟨dq, osq⟩, hw''⟩ := hw'
        subst hw''
        go_wp2
        go_ret
        exact ⟨ret_bool HT.out.symm, chain (chain hny hBb) (below_regrown _ dq osq)⟩
      · replace hrow := hrow.below hBb
        rcases Nat.eq_zero_or_pos k with rfl | h0
        · simp only [Nat.zero_mul, Nat.add_zero] at x0 x1
          have hany : (l.take 0).any (fun b => belC c b) = false := rfl
          have HT : Hid (PreOk (l.take (0 + 1))) := pre_step HP.out hck hrc (fun d h _ => absurd h (by omega)) hany
          clear hck htl
          go_wp2
          generalize wr.alloc (.cells #[.int .u32 (c.1.val : Int), .int .u32 (c.2.val : Int)] 25) = wb at hA hBb hrow ⊢
          obtain ⟨A0, A1⟩ := hA.regrown
          refine wp_region_quiet_below (by kernel_rfl) (by kernel_rfl) ?_
          repeat (first | go_big_quiet_step (first | (refine cright_qt _ _ _ _ ?_; with_reducible assumption) | (refine fb_qf _ _ _ _ _ _ hrow hrl ?_; with_reducible assumption)) | quiet_step (first | (refine cright_qt _ _ _ _ ?_; with_reducible assumption) | (refine fb_qf _ _ _ _ _ _ hrow hrl ?_; with_reducible assumption)))
          refine wpQuiet_nil ?_
          intro _ hw'
          obtain ⟨⟨dq, osq⟩, hw''⟩ := hw'
          subst hw''
          go_wp2
          go_roundw
          case rel => exact ⟨0 + 1, by omega, by go_num, HT.out, chain (chain hny hBb) (below_regrown _ dq osq)⟩
          case measure => simp [intOf]; omega
        · obtain ⟨j, rfl⟩ : ∃ j, k = j + 1 := ⟨k - 1, by omega⟩
          have hj1 : wrap64 ((j : Int) + 1 - 1) = (j : Int) := by unfold wrap64; omega
          have hj2 : ((j : Int) + 1) > 0 := by omega
          obtain ⟨d, hdk⟩ := get_some (l := l) (k := j) (by rw [← Hn.out]; omega)
          have hpv := (CellsC.below (hc.below hny hg) hBb hgr)
          have HD : Hid (l[j + 1 - 1]? = some d) := hdk
          rcases cmpC_cases d c with ⟨hlt2, hcm⟩ | ⟨hlt2, hcm⟩ | ⟨hlt2, hcm⟩
          · cases hany : (l.take (j + 1)).any (fun b => belC c b)
            · have HT : Hid (PreOk (l.take (j + 1 + 1))) := pre_step HP.out hck hrc (fun d2 _ h2 => by rw [HD.out] at h2; rw [← Option.some.inj h2]; exact hlt2) hany
              go_wp2
              generalize wr.alloc (.cells #[.int .u32 (c.1.val : Int), .int .u32 (c.2.val : Int)] 25) = wb at hA hBb hrow hpv ⊢
              obtain ⟨A0, A1⟩ := hA.regrown
              obtain ⟨D0, D1⟩ := hpv.regrown hdk
              clear hdk hck hpv htl
              refine wp_region_quiet_below (by kernel_rfl) (by kernel_rfl) ?_
              repeat (first | go_big_quiet_step (first | (refine cright_qt _ _ _ _ ?_; with_reducible assumption) | (refine cmp_qm _ _ _ _ _ ?_; with_reducible assumption) | (refine fb_qf _ _ _ _ _ _ hrow hrl ?_; with_reducible assumption)) | quiet_step (first | (refine cright_qt _ _ _ _ ?_; with_reducible assumption) | (refine cmp_qm _ _ _ _ _ ?_; with_reducible assumption) | (refine fb_qf _ _ _ _ _ _ hrow hrl ?_; with_reducible assumption)))
              refine wpQuiet_nil ?_
              intro _ hw'
              obtain ⟨⟨dq, osq⟩, hw''⟩ := hw'
              subst hw''
              go_wp2
              go_roundw
              case rel => exact ⟨j + 1 + 1, by omega, by go_num, HT.out, chain (chain hny hBb) (below_regrown _ dq osq)⟩
              case measure => simp [intOf]; omega
            · have HT : Hid (rightF l = false) := not_pre hck (fun h => by rw [h.2.2] at hany; exact absurd hany (by simp))
              go_wp2
              generalize wr.alloc (.cells #[.int .u32 (c.1.val : Int), .int .u32 (c.2.val : Int)] 25) = wb at hA hBb hrow hpv ⊢
              obtain ⟨A0, A1⟩ := hA.regrown
              obtain ⟨D0, D1⟩ := hpv.regrown hdk
              clear hdk hck hpv htl
              refine wp_region_quiet_below (by kernel_rfl) (by kernel_rfl) ?_
              repeat (first | go_big_quiet_step (first | (refine cright_qt _ _ _ _ ?_; with_reducible assumption) | (refine cmp_qm _ _ _ _ _ ?_; with_reducible assumption) | (refine fb_qt _ _ _ _ _ _ hrow hrl ?_; with_reducible assumption)) | quiet_step (first | (refine cright_qt _ _ _ _ ?_; with_reducible assumption) | (refine cmp_qm _ _ _ _ _ ?_; with_reducible assumption) | (refine fb_qt _ _ _ _ _ _ hrow hrl ?_; with_reducible assumption)))
              refine wpQuiet_nil ?_
              intro _ hw'
              obtain ⟨⟨dq, osq⟩, hw''⟩ := hw'
              subst hw''
              go_wp2
              go_ret
              exact ⟨ret_bool HT.out.symm, chain (chain hny hBb) (below_regrown _ dq osq)⟩
          · have HT : Hid (rightF l = false) := not_pre hck (fun h => by have := h.2.1 d (by omega) HD.out; rw [ltC_asymm hlt2] at this; exact absurd this (by simp))
            go_wp2
            generalize wr.alloc (.cells #[.int .u32 (c.1.val : Int), .int .u32 (c.2.val : Int)] 25) = wb at hA hBb hrow hpv ⊢
            obtain ⟨A0, A1⟩ := hA.regrown
            obtain ⟨D0, D1⟩ := hpv.regrown hdk
            clear hdk hck hpv htl
            refine wp_region_quiet_below (by kernel_rfl) (by kernel_rfl) ?_
            repeat (first | go_big_quiet_step (first | (refine cright_qt _ _ _ _ ?_; with_reducible assumption) | (refine cmp_qp _ _ _ _ _ ?_; with_reducible assumption)) | quiet_step (first | (refine cright_qt _ _ _ _ ?_; with_reducible assumption) | (refine cmp_qp _ _ _ _ _ ?_; with_reducible assumption)))
            refine wpQuiet_nil ?_
            intro _ hw'
            obtain ⟨⟨dq, osq⟩, hw''⟩ := hw'
            subst hw''
            go_wp2
            go_ret
            exact ⟨ret_bool HT.out.symm, chain (chain hny hBb) (below_regrown _ dq osq)⟩
          · have HT : Hid (rightF l = false) := not_pre hck (fun h => by have := h.2.1 d (by omega) HD.out; rw [hlt2, ltC_irrefl] at this; exact absurd this (by simp))
            clear hlt2
            go_wp2
            generalize wr.alloc (.cells #[.int .u32 (c.1.val : Int), .int .u32 (c.2.val : Int)] 25) = wb at hA hBb hrow hpv ⊢
            obtain ⟨A0, A1⟩ := hA.regrown
            obtain ⟨D0, D1⟩ := hpv.regrown hdk
            clear hdk hck hpv htl
            refine wp_region_quiet_below (by kernel_rfl) (by kernel_rfl) ?_
            repeat (first | go_big_quiet_step (first | (refine cright_qt _ _ _ _ ?_; with_reducible assumption) | (refine cmp_qz _ _ _ _ _ ?_; with_reducible assumption)) | quiet_step (first | (refine cright_qt _ _ _ _ ?_; with_reducible assumption) | (refine cmp_qz _ _ _ _ _ ?_; with_reducible assumption)))
            refine wpQuiet_nil ?_
            intro _ hw'
            obtain ⟨⟨dq, osq⟩, hw''⟩ := hw'
            subst hw''
            go_wp2
            go_ret
            exact ⟨ret_bool HT.out.symm, chain (chain hny hBb) (below_regrown _ dq osq)⟩
    · obtain rfl : k = n := by omega
      have HT : Hid (rightF l = true) := by
        have h := HP.out
        rw [List.take_of_length_le (by rw [← Hn.out]; exact Nat.le_refl _)] at h
        exact rightF_iff.2 ⟨h, by rw [← Hn.out]; exact hl⟩
      go_wp2
      go_ret
      exact ⟨ret_bool HT.out.symm, hny⟩
end Go.Proofs.YtdikaomebbpmhabDoor
