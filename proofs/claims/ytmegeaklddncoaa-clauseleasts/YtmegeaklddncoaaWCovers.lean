/- The walk of the law ClauseCovers: the call returns true; nothing that lay before it turns. -/
import Derived.BigQuiet
import Derived.Test.YtmegeaklddncoaaCBox
namespace Go.Proofs.Ytmegeaklddncoaa
open Go.RowKit Go.Sort
set_option linter.unusedVariables false
set_option linter.unusedSimpArgs false

theorem bel_qv (a b : C) (w : World) (d : Nat) (os : Array Obj) {x : Bool} (h : belC a b = x) : Calls Try.prog 17 #[clV a, clV b] (grow (redrawn w d) os) fun e w'' => e = .returned (.bool x) ∧ ∃ p : Regrown, w'' = grow (redrawn w p.d) p.os := h ▸ bel_q a b w d os
/-- Elements j of a row, in every world of the class. -/
theorem CellsC.regrown {w : World} {g off : Nat} {l : List C} (h : CellsC w g off l) {j : Nat} {c : C} (hj : l[j]? = some c) : (∀ d os, (grow (redrawn w d) os).cell? ⟨g, off + j * 2, none⟩ = some (.int .u32 (c.1.val : Int))) ∧ ∀ d os, (grow (redrawn w d) os).cell? ⟨g, off + j * 2 + 1, none⟩ = some (.int .u32 (c.2.val : Int)) :=
  ⟨fun d os => cell_regrown (h j c hj).1 d os, fun d os => cell_regrown (h j c hj).2 d os⟩
def meas (c : C) : Nat := c.1.val * 4294967296 + c.2.val
theorem meas_nat {x1 x2 y1 y2 : Nat} (h2 : x2 < 4294967296) (h : x1 < y1 ∨ x1 = y1 ∧ x2 < y2) : x1 * 4294967296 + x2 < y1 * 4294967296 + y2 := by omega
theorem meas_lt {a b : C} (h : ltC a b = true) : meas a < meas b := by
  refine meas_nat a.2.isLt ?_
  simpa only [ltC, Bool.or_eq_true, Bool.and_eq_true, decide_eq_true_eq] using h
theorem covers {l N : List C} (hr : ∀ c ∈ l, rightC c = true) (hN : IsLeast l N) (n : Nat) : ∀ c : C, meas c < n → c ∈ l → ∃ d ∈ N, belC c d = true := by
  induction n with
  | zero => intro c h; exact absurd h (Nat.not_lt_zero _)
  | succ n ih =>
    intro c hm hc
    by_cases hn : neededB l c = true
    · exact ⟨c, (hN.mem c).2 ⟨hc, hn⟩, belC_refl c⟩
    · have h1 : ∃ d ∈ l, belC c d = true ∧ d ≠ c := by
        rw [needed_iff] at hn
        simp only [Classical.not_forall] at hn
        obtain ⟨d, hd, hb, he⟩ := hn
        exact ⟨d, hd, hb, he⟩
      obtain ⟨d, hd, hb, he⟩ := h1
      have hlt := meas_lt (bel_lt (hr d hd) hb (fun h => he h.symm))
      obtain ⟨e, h1, h2⟩ := ih d (Nat.lt_of_lt_of_le hlt (Nat.le_of_lt_succ hm)) hd
      exact ⟨e, h1, belC_trans hb h2⟩
theorem cover_mem {l M : List C} {er : Int} (h : LeastIs l M er) (he : er = 0) : (∀ c ∈ M, c ∈ l) ∧ (∀ c ∈ M, ∀ d ∈ M, belC c d = true → c = d) ∧ (∀ c ∈ l, ∃ d ∈ M, belC c d = true) ∧ M.Nodup := by
  subst he
  rcases h with ⟨_, _, h⟩ | ⟨ha, N, hN, ⟨_, rfl, _⟩ | ⟨_, _, h⟩⟩
  · omega
  · refine ⟨fun c hc => ((hN.mem c).1 hc).1, fun c hc d hd hb => ?_, fun c hc => ?_, ?_⟩
    · have := needed_iff.1 ((hN.mem c).1 hc).2 d ((hN.mem d).1 hd).1 hb
      exact this.symm
    · exact covers (fun c hc => List.all_eq_true.1 ha c hc) hN (meas c + 1) c (Nat.lt_succ_self _) hc
    · exact hN.rises.imp (fun h => ltC_ne h)
  · omega
theorem er_cases {l M : List C} {er : Int} (h : LeastIs l M er) : er = 0 ∨ (M = [] ∧ er ≠ 0) := by
  rcases h with ⟨_, h, h2⟩ | ⟨ha, N, hN, ⟨_, _, h⟩ | ⟨_, h, h2⟩⟩
  · exact .inr ⟨h, by omega⟩
  · exact .inl h
  · exact .inr ⟨h, by omega⟩
theorem take_contains_step {l : List C} {j : Nat} {c d : C} (h : l[j]? = some d) : (l.take (j + 1)).contains c = ((l.take j).contains c || decide (d = c)) := by
  have e : l.take (j + 1) = l.take j ++ [d] := by rw [List.take_add_one, h]; rfl
  rw [e, Bool.eq_iff_iff]
  simp only [List.contains_iff_mem, List.mem_append, List.mem_singleton, Bool.or_eq_true, decide_eq_true_eq]
  exact or_congr Iff.rfl eq_comm
theorem take_any_step {M : List C} {j : Nat} {c d : C} (h : M[j]? = some d) : (M.take (j + 1)).any (fun b => belC c b) = ((M.take j).any (fun b => belC c b) || belC c d) := by
  have e : M.take (j + 1) = M.take j ++ [d] := by rw [List.take_add_one, h]; rfl
  rw [e, List.any_append]
  simp
theorem nodup_ne {M : List C} (h : M.Nodup) {i j : Nat} {c d : C} (hi : M[i]? = some c) (hj : M[j]? = some d) (hne : i ≠ j) : c ≠ d := by
  obtain ⟨h1, rfl⟩ := List.getElem?_eq_some_iff.1 hi
  obtain ⟨h2, rfl⟩ := List.getElem?_eq_some_iff.1 hj
  rcases Nat.lt_or_gt_of_ne hne with h3 | h3
  · exact (List.pairwise_iff_getElem.1 h) i j h1 h2 h3
  · exact ((List.pairwise_iff_getElem.1 h) j i h2 h1 h3).symm

set_option maxRecDepth 100000 in
set_option maxHeartbeats 8000000 in
theorem walk_ClauseCovers (l : List C) (v : Value) (w : World) (hv : CRow w v l) :
    Calls Try.prog 6 #[v] w fun e w' => e = .returned (.bool true) ∧ Below w.heap.size w w' := by
  obtain ⟨a0, cap, hv1⟩ := hv.len
  by_cases hbig : 300 < l.length
  · subst hv1
    clear hv
    generalize l.length = n at hbig ⊢
    go_enter Try.func6, Try.ntmps6
    go_wp2_with (go_at_call 11; refine (works_any _).mono ?_; rintro e w1 ⟨rfl, hB1⟩)
    go_ret
    exact ⟨rfl, hB1⟩
  have cL := fun W (hb : Below w.heap.size w W) => least_any l v W (hv.below hb) (by omega)
  have hcell : l ≠ [] → ∃ g off, a0 = some ⟨g, off, none⟩ ∧ g < w.heap.size ∧ CellsC w g off l := fun hz => by
    obtain ⟨g, off, cap2, e, hg, hc⟩ := hv.cons hz
    rw [hv1] at e
    have e2 : a0 = some ⟨g, off, none⟩ := by injection e
    exact ⟨g, off, e2, hg, hc⟩
  subst hv1
  clear hv
  obtain ⟨n, hn⟩ : ∃ n, n = l.length := ⟨_, rfl⟩
  have Hn : Hid (n = l.length) := hn
  rw [← hn] at hbig cL ⊢
  clear hn
  have h300 : decide ((300 : Int) < (n : Int)) = false := by simp; omega
  go_enter Try.func6, Try.ntmps6
  go_wp2_with (go_at_call 11; refine (works_any _).mono ?_; rintro e w1 ⟨rfl, hB1⟩)
  refine (cL _ hB1).mono ?_
  rintro e w7 ⟨v7, M, er, rfl, hL, hO, hB7⟩
  clear cL h300
  have hBw : Below w.heap.size w w7 := chain hB1 hB7
  have h64 := hL.length_le
  rcases er_cases hL with rfl | ⟨rfl, hne⟩
  · obtain ⟨p1, p2, p3, p4⟩ := cover_mem hL rfl
    have P1 : Hid (∀ c ∈ M, c ∈ l) := p1
    have P2 : Hid (∀ c ∈ M, ∀ d ∈ M, belC c d = true → c = d) := p2
    have P3 : Hid (∀ c ∈ l, ∃ d ∈ M, belC c d = true) := p3
    have P4 : Hid M.Nodup := p4
    clear p1 p2 p3 p4 hL
    by_cases hz : M = []
    · subst hz
      have hl0 : l = [] := by
        cases l with
        | nil => rfl
        | cons c l => obtain ⟨d, hd, _⟩ := P3.out c (by simp); cases hd
      subst hl0
      obtain rfl : n = 0 := Hn.out
      obtain ⟨a7, cap7, rfl⟩ := (OwnsC.row hO).len
      clear hO hcell P1 P2 P3 P4
      go_wp2
      go_loop [29] (fun i => i = .int .i64 0) (fun _ => 0)
      case atStart => rfl
      case round =>
        subst hrel
        go_wp2
        go_loop [75] (fun i => i = .int .i64 0) (fun _ => 0)
        case atStart => rfl
        case round =>
          subst hrel
          go_wp2
          go_ret
          exact ⟨rfl, hBw⟩
    · obtain ⟨g2, off2, cap7, rfl, hg2, hc2⟩ := (OwnsC.row hO).cons hz
      have hlz : l ≠ [] := by
        rintro rfl
        cases M with
        | nil => exact hz rfl
        | cons c M => exact absurd (P1.out c (by simp)) (by simp)
      obtain ⟨g, off, rfl, hg, hc⟩ := hcell hlz
      replace hc := hc.below hBw hg
      replace hg : g < w7.heap.size := Nat.lt_of_lt_of_le hg hBw.size
      clear hcell hO
      obtain ⟨m, hm⟩ : ∃ m, m = M.length := ⟨_, rfl⟩
      have Hm : Hid (m = M.length) := hm
      rw [← hm] at h64 ⊢
      clear hm
      go_wp2
      go_loopw [29] (fun i wr => ∃ k : Nat, k ≤ m ∧ i = .int .i64 k ∧ Below w7.heap.size w7 wr) (fun i _ => m - (intOf i).toNat)
      case atStart => exact ⟨0, Nat.zero_le _, rfl, Below.refl _ _⟩
      case round =>
        obtain ⟨k, hk, rfl, hny⟩ := hrel
        by_cases hlt : k < m
        · obtain ⟨c, hck⟩ := get_some (l := M) (k := k) (by rw [← Hm.out]; exact hlt)
          have HCK : Hid (M[k]? = some c) := hck
          have HCM : Hid (c ∈ M) := List.mem_of_getElem? hck
          clear hck
          go_wp2
          go_loopw [6, 34] (fun t i wr => ∃ j : Nat, j ≤ n ∧ i = .int .i64 j ∧ t = .bool ((l.take j).contains c) ∧ Below w7.heap.size w7 wr) (fun _ i _ => n - (intOf i).toNat)
          case atStart => exact ⟨0, Nat.zero_le _, rfl, rfl, hny⟩
          case round =>
            obtain ⟨j, hj, rfl, rfl, hnz⟩ := hrel
            by_cases hlt2 : j < n
            · obtain ⟨d, hdj⟩ := get_some (l := l) (k := j) (by rw [← Hn.out]; exact hlt2)
              have HS : Hid ((l.take (j + 1)).contains c = ((l.take j).contains c || decide (d = c))) := take_contains_step hdj
              obtain ⟨x0, x1⟩ := (hc.below hnz hg) j d hdj
              obtain ⟨y0, y1⟩ := (hc2.below hnz hg2) k c HCK.out
              clear hdj
              cases ht : (l.take j).contains c
              · by_cases e : d = c
                · have HT : Hid ((l.take (j + 1)).contains c = true) := HS.out.trans (by simp [e])
                  subst e
                  go_wp2
                  go_quiet (fail)
                  go_wp2
                  go_roundw
                  case rel => exact ⟨j + 1, by omega, by go_num, by rw [HT.out], below_drewN hnz _⟩
                  case measure => simp [intOf]; omega
                · have HT : Hid ((l.take (j + 1)).contains c = false) := HS.out.trans (by rw [ht]; simp [e])
                  by_cases f0 : d.1.val = c.1.val
                  · have f2 : ¬ d.2.val = c.2.val := fun h => e (c_ext f0 h)
                    have f1 : ((d.1.val : Int) == (c.1.val : Int)) = true := by simp [f0]
                    clear f0 e
                    go_wp2
                    go_quiet (fail)
                    go_wp2
                    go_roundw
                    case rel => exact ⟨j + 1, by omega, by go_num, by rw [HT.out], below_drewN hnz _⟩
                    case measure => simp [intOf]; omega
                  · clear e
                    go_wp2
                    go_quiet (fail)
                    go_wp2
                    go_roundw
                    case rel => exact ⟨j + 1, by omega, by go_num, by rw [HT.out], below_drewN hnz _⟩
                    case measure => simp [intOf]; omega
              · have HT : Hid ((l.take (j + 1)).contains c = true) := HS.out.trans (by rw [ht]; simp)
                go_wp2
                go_quiet (fail)
                go_wp2
                go_roundw
                case rel => exact ⟨j + 1, by omega, by go_num, by rw [HT.out], below_drewN hnz _⟩
                case measure => simp [intOf]; omega
            · obtain rfl : j = n := by omega
              have ht : (l.take j).contains c = true := by
                rw [List.take_of_length_le (by rw [← Hn.out]; exact Nat.le_refl _)]
                simpa using P1.out c HCM.out
              rw [ht]
              clear ht
              go_wp2
              go_loopw [54] (fun i wr => ∃ q : Nat, q ≤ m ∧ i = .int .i64 q ∧ Below w7.heap.size w7 wr) (fun i _ => m - (intOf i).toNat)
              case atStart => exact ⟨0, Nat.zero_le _, rfl, hnz⟩
              case round =>
                obtain ⟨q, hq, rfl, hnu⟩ := hrel
                by_cases hlt3 : q < m
                · obtain ⟨d, hdq⟩ := get_some (l := M) (k := q) (by rw [← Hm.out]; exact hlt3)
                  obtain ⟨X0, X1⟩ := (hc2.below hnu hg2).regrown hdq
                  obtain ⟨Y0, Y1⟩ := (hc2.below hnu hg2).regrown HCK.out
                  by_cases ekq : k = q
                  · subst ekq
                    have hkk : ((k : Int) != (k : Int)) = false := by simp
                    go_wp2
                    refine wp_region_quiet_below (by kernel_rfl) (by kernel_rfl) ?_
                    repeat (first | go_big_quiet_step (fail) | quiet_step (fail))
                    refine wpQuiet_nil ?_
                    intro _ hw'
                    obtain ⟨⟨dq, osq⟩, hw''⟩ := hw'
                    subst hw''
                    go_wp2
                    go_roundw
                    case rel => exact ⟨k + 1, by omega, by go_num, hnu.trans ((below_regrown _ dq osq).mono hnu.size)⟩
                    case measure => simp [intOf]; omega
                  · have hb : belC c d = false := by
                      cases h : belC c d
                      · rfl
                      · exact absurd (P2.out c HCM.out d (List.mem_of_getElem? hdq) h) (nodup_ne P4.out HCK.out hdq ekq)
                    have hkq : ((k : Int) != (q : Int)) = true := by simp; omega
                    clear hdq
                    go_wp2
                    refine wp_region_quiet_below (by kernel_rfl) (by kernel_rfl) ?_
                    repeat (first | go_big_quiet_step (first | (refine bel_qt _ _ _ _ _ ?_; with_reducible assumption) | (refine bel_qf _ _ _ _ _ ?_; with_reducible assumption)) | quiet_step (first | (refine bel_qt _ _ _ _ _ ?_; with_reducible assumption) | (refine bel_qf _ _ _ _ _ ?_; with_reducible assumption)))
                    refine wpQuiet_nil ?_
                    intro _ hw'
                    obtain ⟨⟨dq, osq⟩, hw''⟩ := hw'
                    subst hw''
                    go_wp2
                    go_roundw
                    case rel => exact ⟨q + 1, by omega, by go_num, hnu.trans ((below_regrown _ dq osq).mono hnu.size)⟩
                    case measure => simp [intOf]; omega
                · go_wp2
                  go_roundw
                  case rel => exact ⟨k + 1, by omega, by go_num, hnu⟩
                  case measure => simp [intOf]; omega
        · go_wp2
          go_loopw [75] (fun i wr => ∃ j : Nat, j ≤ n ∧ i = .int .i64 j ∧ Below w7.heap.size w7 wr) (fun i _ => n - (intOf i).toNat)
          case atStart => exact ⟨0, Nat.zero_le _, rfl, hny⟩
          case round =>
            obtain ⟨j, hj, rfl, hnz⟩ := hrel
            by_cases hlt2 : j < n
            · obtain ⟨c, hcj⟩ := get_some (l := l) (k := j) (by rw [← Hn.out]; exact hlt2)
              have HCJ : Hid (l[j]? = some c) := hcj
              have HCL : Hid (c ∈ l) := List.mem_of_getElem? hcj
              clear hcj
              go_wp2
              go_loopw [10, 80] (fun t i wr => ∃ q : Nat, q ≤ m ∧ i = .int .i64 q ∧ t = .bool ((M.take q).any (fun b => belC c b)) ∧ Below w7.heap.size w7 wr) (fun _ i _ => m - (intOf i).toNat)
              case atStart => exact ⟨0, Nat.zero_le _, rfl, rfl, hnz⟩
              case round =>
                obtain ⟨q, hq, rfl, rfl, hnu⟩ := hrel
                by_cases hlt3 : q < m
                · obtain ⟨d, hdq⟩ := get_some (l := M) (k := q) (by rw [← Hm.out]; exact hlt3)
                  have HS : Hid ((M.take (q + 1)).any (fun b => belC c b) = ((M.take q).any (fun b => belC c b) || belC c d)) := take_any_step hdq
                  obtain ⟨X0, X1⟩ := (hc2.below hnu hg2).regrown hdq
                  obtain ⟨Y0, Y1⟩ := (hc.below hnu hg).regrown HCJ.out
                  clear hdq
                  cases ht : (M.take q).any (fun b => belC c b)
                  · cases hb : belC c d
                    · have HT : Hid ((M.take (q + 1)).any (fun b => belC c b) = false) := HS.out.trans (by rw [ht, hb]; rfl)
                      go_wp2
                      refine wp_region_quiet_below (by kernel_rfl) (by kernel_rfl) ?_
                      repeat (first | go_big_quiet_step (first | (refine bel_qt _ _ _ _ _ ?_; with_reducible assumption) | (refine bel_qf _ _ _ _ _ ?_; with_reducible assumption)) | quiet_step (first | (refine bel_qt _ _ _ _ _ ?_; with_reducible assumption) | (refine bel_qf _ _ _ _ _ ?_; with_reducible assumption)))
                      refine wpQuiet_nil ?_
                      intro _ hw'
                      obtain ⟨⟨dq, osq⟩, hw''⟩ := hw'
                      subst hw''
                      go_wp2
                      go_roundw
                      case rel => exact ⟨q + 1, by omega, by go_num, by rw [HT.out], hnu.trans ((below_regrown _ dq osq).mono hnu.size)⟩
                      case measure => simp [intOf]; omega
                    · have HT : Hid ((M.take (q + 1)).any (fun b => belC c b) = true) := HS.out.trans (by rw [hb]; simp)
                      go_wp2
                      refine wp_region_quiet_below (by kernel_rfl) (by kernel_rfl) ?_
                      repeat (first | go_big_quiet_step (first | (refine bel_qt _ _ _ _ _ ?_; with_reducible assumption) | (refine bel_qf _ _ _ _ _ ?_; with_reducible assumption)) | quiet_step (first | (refine bel_qt _ _ _ _ _ ?_; with_reducible assumption) | (refine bel_qf _ _ _ _ _ ?_; with_reducible assumption)))
                      refine wpQuiet_nil ?_
                      intro _ hw'
                      obtain ⟨⟨dq, osq⟩, hw''⟩ := hw'
                      subst hw''
                      go_wp2
                      go_roundw
                      case rel => exact ⟨q + 1, by omega, by go_num, by rw [HT.out], hnu.trans ((below_regrown _ dq osq).mono hnu.size)⟩
                      case measure => simp [intOf]; omega
                  · have HT : Hid ((M.take (q + 1)).any (fun b => belC c b) = true) := HS.out.trans (by rw [ht]; rfl)
                    go_wp2
                    refine wp_region_quiet_below (by kernel_rfl) (by kernel_rfl) ?_
                    repeat (first | go_big_quiet_step (fail) | quiet_step (fail))
                    refine wpQuiet_nil ?_
                    intro _ hw'
                    obtain ⟨⟨dq, osq⟩, hw''⟩ := hw'
                    subst hw''
                    go_wp2
                    go_roundw
                    case rel => exact ⟨q + 1, by omega, by go_num, by rw [HT.out], hnu.trans ((below_regrown _ dq osq).mono hnu.size)⟩
                    case measure => simp [intOf]; omega
                · obtain rfl : q = m := by omega
                  have ht : (M.take q).any (fun b => belC c b) = true := by
                    rw [List.take_of_length_le (by rw [← Hm.out]; exact Nat.le_refl _)]
                    obtain ⟨d, hd, hb⟩ := P3.out c HCL.out
                    exact List.any_eq_true.2 ⟨d, hd, hb⟩
                  rw [ht]
                  clear ht
                  go_wp2
                  go_roundw
                  case rel => exact ⟨j + 1, by omega, by go_num, hnu⟩
                  case measure => simp [intOf]; omega
            · go_wp2
              go_ret
              exact ⟨rfl, chain hBw hnz⟩
  · obtain ⟨a7, cap7, rfl⟩ := (OwnsC.row hO).len
    have he : (er != 0) = true := by simpa using hne
    clear hO hcell hL
    go_wp2
    go_ret
    exact ⟨rfl, hBw⟩
end Go.Proofs.Ytmegeaklddncoaa
