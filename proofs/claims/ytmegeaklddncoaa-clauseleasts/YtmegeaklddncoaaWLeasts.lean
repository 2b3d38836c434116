/- The walk of the law ClauseLeasts: the call returns true; nothing that lay before it turns. -/
import Derived.Test.YtmegeaklddncoaaCRLeast
namespace Go.Proofs.Ytmegeaklddncoaa
open Go.RowKit Go.Sort
set_option linter.unusedVariables false
set_option linter.unusedSimpArgs false

theorem run_append_zero (n cap : Nat) (hn : n ≤ cap) (ad : Addr) (b : Option Addr) (cb : Nat) (ty : TypeId) (w : World) : (Builtin.append_ #[30, 30] ty #[.slice (some ad) n cap, .slice b 0 cb]).run Try.prog w = .ok (.slice (some ad) n cap) w := by
  cases b <;> simp [Builtin.append_, run_underlying Try.underlying30, Result.andThen, Builtin.lenOf, Builtin.firstCells, storeCells, loadCells, loadCellsFrom, hn]
theorem wpList_append_zero {w : World} {ops : Array Oper} {rest : List Oper} {o : Oper} {a : Act} {Q : Exit → Act → World → Prop}
    (hg : o.guard = none) (s x : Operand) (hop : o.op = Op.call { callee := Callee.builtin Builtin.append, args := #[s, x], argTypes := #[30, 30] })
    (ad : Addr) (n cap : Nat) (hn : n ≤ cap) (b : Option Addr) (cb : Nat) (hs : a.eval s = .slice (some ad) n cap) (hx : a.eval x = .slice b 0 cb)
    (hK : wpList Try.prog ops Q rest (a.put o.dst (.slice (some ad) n cap)) w) : wpList Try.prog ops Q (o :: rest) a w := by
  refine wpList_plain hg fun K hK' => ?_
  have hrun := run_append_zero n cap hn ad b cb o.type w
  unfold Oper.wp
  simp [execOp, hop, resolve, invoke, builtin, hs, hx, hrun, Result.andThen]
  exact hK' _ _ hK

set_option maxRecDepth 100000 in
set_option maxHeartbeats 8000000 in
theorem walk_ClauseLeasts (l : List C) (v : Value) (w : World) (hv : CRow w v l) :
    Calls Try.prog 4 #[v] w fun e w' => e = .returned (.bool true) ∧ Below w.heap.size w w' := by
  obtain ⟨i0, hi, hz0, hz1, hz2⟩ := info_parts Try.infoC
  by_cases hbig : 300 < l.length
  · obtain ⟨a0, cap, rfl⟩ := hv.len
    clear hv
    generalize l.length = n at hbig ⊢
    go_enter Try.func4, Try.ntmps4
    go_wp2_with (go_at_call 11; refine (works_any _).mono ?_; rintro e w1 ⟨rfl, hB1⟩)
    go_ret
    exact ⟨rfl, hB1⟩
  have hl : l.length ≤ 300 := by omega
  have hl1 : l.length ≤ 1000 := by omega
  by_cases hlz : l = []
  · obtain ⟨a0, cap, hv1⟩ := hv.len
    have hn0 : l.length = 0 := by rw [hlz]; rfl
    rw [hn0] at hv1
    subst hv1
    have hO3 : OwnsC (w.alloc (.cells #[] 24)) w.heap.size (.slice (some ⟨w.heap.size, 0, none⟩) 0 0) l := by rw [hlz]; exact empty_row w w.heap.size (Nat.le_refl _)
    have hB3 := below_alloc w (.cells #[] 24)
    go_enter Try.func4, Try.ntmps4
    go_wp2_with (at_builtin; refine wpList_append_zero rfl _ _ rfl _ 0 0 (Nat.le_refl _) _ _ rfl rfl ?_; generalize w.alloc (.cells #[] 24) = w3 at hO3 hB3 ⊢; generalize hv3e : Value.slice (some ⟨w.heap.size, 0, none⟩) 0 0 = v3 at hO3 ⊢)
    have hB3w : Below w.heap.size w w3 := hB3
    have hv3 := hv.below hB3
    have cL := least_any l v3 w3 (OwnsC.row hO3) hl1
    go_wp2_with fail
    refine cL.mono ?_
    rintro e w4 ⟨v4, M, er, rfl, hL1, hO4, hB4⟩
    clear cL
    have cR := refleast_any l _ w4 (hv3.below hB4) hl
    go_wp2_with fail
    refine cR.mono ?_
    rintro e w5 ⟨v6, M', er', rfl, hL2, hR6, hB5⟩
    clear cR
    obtain ⟨rfl, rfl⟩ := hL1.unique hL2
    have h64 := hL1.length_le
    have hO5 := OwnsC.below hO4 hB5
    have cS := same_any M M _ _ w5 (OwnsC.row hO5) hR6 (by omega)
    go_wp2_with fail
    refine cS.mono ?_
    rintro e w6 ⟨rfl, hB6⟩
    clear cS
    have hO6 := OwnsC.below hO5 hB6
    have hB36 : Below w3.heap.size w3 w6 := chain (chain hB4 hB5) hB6
    have htt : decide (M = M) = true := by simp
    by_cases hz : M = []
    · subst hz
      obtain ⟨a4, cap4, rfl⟩ := (OwnsC.row hO6).len
      have cO := same_any l l _ _ w6 ((OwnsC.row hO3).below hB36) (hv3.below hB36) hl1
      clear hO6 hO5 hO4
      go_wp2
      go_loop [37] (fun i => i = .int .i64 0) (fun _ => 0)
      case atStart => rfl
      case round =>
        subst hrel
        go_wp2_with fail
        refine cO.mono ?_
        rintro e w8 ⟨rfl, hB8⟩
        have htl : decide (l = l) = true := by simp
        go_wp2_with (go_at_call 11; refine (works_any _).mono ?_; rintro e w9 ⟨rfl, hB9⟩)
        go_ret
        exact ⟨rfl, chain (chain (chain hB3w hB36) hB8) hB9⟩
    · rcases hO6.form with ⟨_, h⟩ | ⟨g4, cap4, rfl, hg4, hg4', _⟩
      · exact absurd h hz
      obtain ⟨m, hm⟩ : ∃ m, m = M.length := ⟨_, rfl⟩
      have Hm : Hid (m = M.length) := hm
      have hrow6 : w6.ownsRow w3.heap.size 24 2 (.slice (some ⟨g4, 0, none⟩) m cap4) m (flat M) := by rw [hm]; exact hO6
      rw [← hm] at h64 ⊢
      clear hm hO6 hO5 hO4
      go_wp2
      go_loopw [37] (fun i wr => ∃ (j : Nat) (xs : List Value), j ≤ m ∧ i = .int .i64 j ∧ wr.ownsRow w3.heap.size 24 2 (.slice (some ⟨g4, 0, none⟩) m cap4) m xs ∧ (∀ q, j * 2 ≤ q → xs[q]? = (flat M)[q]?) ∧ Below w3.heap.size w3 wr) (fun i _ => m - (intOf i).toNat)
      case atStart => exact ⟨0, flat M, Nat.zero_le _, rfl, hrow6, fun _ _ => rfl, hB36⟩
      case round =>
        obtain ⟨j, xs, hj, rfl, hrow, hxs, hny⟩ := hrel
        have HX : Hid (∀ q, j * 2 ≤ q → xs[q]? = (flat M)[q]?) := hxs
        clear hxs
        by_cases hlt : j < m
        · obtain ⟨c, hcj⟩ := get_some (l := M) (k := j) (by rw [← Hm.out]; exact hlt)
          have x0 : wr.cell? ⟨g4, j * 2, none⟩ = some (.int .u32 (c.1.val : Int)) := by
            rw [World.ownsRow.cellAt hrow (j * 2) (by omega), HX.out (j * 2) (Nat.le_refl _), flat_get0, hcj]; rfl
          have f0 := World.ownsRow.frozenAt hrow (j * 2)
          have hst := fun u => World.ownsRow.stored hrow (j * 2) u
          clear hcj
          go_wp2
          go_roundw
          case rel => exact ⟨j + 1, _, by omega, by go_num, (hst _).1, fun q hq => by rw [List.getElem?_set_ne (by omega)]; exact HX.out q (by omega), hny.grown (hst _).2 hny.size (fun i h => by cases h; exact hg4)⟩
          case measure => simp [intOf]; omega
        · have cO := same_any l l _ _ wr ((OwnsC.row hO3).below hny) (hv3.below hny) hl1
          go_wp2_with fail
          refine cO.mono ?_
          rintro e w8 ⟨rfl, hB8⟩
          have htl : decide (l = l) = true := by simp
          go_wp2_with (go_at_call 11; refine (works_any _).mono ?_; rintro e w9 ⟨rfl, hB9⟩)
          go_ret
          exact ⟨rfl, chain (chain (chain hB3w hny) hB8) hB9⟩
  · obtain ⟨g, off, cap, hv1, hg, hc⟩ := hv.cons hlz
    subst hv1
    obtain ⟨n, hn⟩ : ∃ n, n = l.length := ⟨_, rfl⟩
    have Hn : Hid (n = l.length) := hn
    have h300 : decide ((300 : Int) < (n : Int)) = false := by simp; omega
    rw [← hn] at hv ⊢
    have hn2 : n ≤ 300 := by omega
    clear hn
    have hfl : (flat l).length = n * 2 := by rw [flat_length, Hn.out]
    go_enter Try.func4, Try.ntmps4
    go_wp2_with (at_builtin; refine wpList_append_own _ rfl _ _ 30 rfl w.heap.size 24 i0 (.agg #[.int .u32 0, .int .u32 0]) 2 8 Try.underlying30 hi hz0 hz1 hz2 rfl (by decide) _ _ _ rfl (empty_row w w.heap.size (Nat.le_refl _)) ⟨g, off, none⟩ n cap (flat l) rfl hfl (news_cells (hc.below (below_alloc w _) hg)) (flat_oneCell _) (by unfold maxLen; omega) (by omega) (by simp) ?_; intro v3 w3 hown3 hgrow3 hnil3)
    have hO3 : OwnsC w3 w.heap.size v3 l := by
      unfold OwnsC
      rw [← Hn.out]
      have e : 0 + n = n := by omega
      rw [e] at hown3
      exact hown3
    have hB3 : Below w.heap.size w w3 := (below_alloc w (.cells #[] 24)).grown hgrow3 (by simp) (fun i h => by cases h; exact Nat.le_refl _)
    clear hown3 hgrow3 hnil3 h300 hc
    have hB3w : Below w.heap.size w w3 := hB3
    have hv3 := hv.below hB3
    have cL := least_any l v3 w3 (OwnsC.row hO3) hl1
    go_wp2_with fail
    refine cL.mono ?_
    rintro e w4 ⟨v4, M, er, rfl, hL1, hO4, hB4⟩
    clear cL
    have cR := refleast_any l _ w4 (hv3.below hB4) hl
    go_wp2_with fail
    refine cR.mono ?_
    rintro e w5 ⟨v6, M', er', rfl, hL2, hR6, hB5⟩
    clear cR
    obtain ⟨rfl, rfl⟩ := hL1.unique hL2
    have h64 := hL1.length_le
    have hO5 := OwnsC.below hO4 hB5
    have cS := same_any M M _ _ w5 (OwnsC.row hO5) hR6 (by omega)
    go_wp2_with fail
    refine cS.mono ?_
    rintro e w6 ⟨rfl, hB6⟩
    clear cS
    have hO6 := OwnsC.below hO5 hB6
    have hB36 : Below w3.heap.size w3 w6 := chain (chain hB4 hB5) hB6
    have htt : decide (M = M) = true := by simp
    by_cases hz : M = []
    · subst hz
      obtain ⟨a4, cap4, rfl⟩ := (OwnsC.row hO6).len
      have cO := same_any l l _ _ w6 ((OwnsC.row hO3).below hB36) (hv3.below hB36) hl1
      clear hO6 hO5 hO4
      go_wp2
      go_loop [37] (fun i => i = .int .i64 0) (fun _ => 0)
      case atStart => rfl
      case round =>
        subst hrel
        go_wp2_with fail
        refine cO.mono ?_
        rintro e w8 ⟨rfl, hB8⟩
        have htl : decide (l = l) = true := by simp
        go_wp2_with (go_at_call 11; refine (works_any _).mono ?_; rintro e w9 ⟨rfl, hB9⟩)
        go_ret
        exact ⟨rfl, chain (chain (chain hB3w hB36) hB8) hB9⟩
    · rcases hO6.form with ⟨_, h⟩ | ⟨g4, cap4, rfl, hg4, hg4', _⟩
      · exact absurd h hz
      obtain ⟨m, hm⟩ : ∃ m, m = M.length := ⟨_, rfl⟩
      have Hm : Hid (m = M.length) := hm
      have hrow6 : w6.ownsRow w3.heap.size 24 2 (.slice (some ⟨g4, 0, none⟩) m cap4) m (flat M) := by rw [hm]; exact hO6
      rw [← hm] at h64 ⊢
      clear hm hO6 hO5 hO4
      go_wp2
      go_loopw [37] (fun i wr => ∃ (j : Nat) (xs : List Value), j ≤ m ∧ i = .int .i64 j ∧ wr.ownsRow w3.heap.size 24 2 (.slice (some ⟨g4, 0, none⟩) m cap4) m xs ∧ (∀ q, j * 2 ≤ q → xs[q]? = (flat M)[q]?) ∧ Below w3.heap.size w3 wr) (fun i _ => m - (intOf i).toNat)
      case atStart => exact ⟨0, flat M, Nat.zero_le _, rfl, hrow6, fun _ _ => rfl, hB36⟩
      case round =>
        obtain ⟨j, xs, hj, rfl, hrow, hxs, hny⟩ := hrel
        have HX : Hid (∀ q, j * 2 ≤ q → xs[q]? = (flat M)[q]?) := hxs
        clear hxs
        by_cases hlt : j < m
        · obtain ⟨c, hcj⟩ := get_some (l := M) (k := j) (by rw [← Hm.out]; exact hlt)
          have x0 : wr.cell? ⟨g4, j * 2, none⟩ = some (.int .u32 (c.1.val : Int)) := by
            rw [World.ownsRow.cellAt hrow (j * 2) (by omega), HX.out (j * 2) (Nat.le_refl _), flat_get0, hcj]; rfl
          have f0 := World.ownsRow.frozenAt hrow (j * 2)
          have hst := fun u => World.ownsRow.stored hrow (j * 2) u
          clear hcj
          go_wp2
          go_roundw
          case rel => exact ⟨j + 1, _, by omega, by go_num, (hst _).1, fun q hq => by rw [List.getElem?_set_ne (by omega)]; exact HX.out q (by omega), hny.grown (hst _).2 hny.size (fun i h => by cases h; exact hg4)⟩
          case measure => simp [intOf]; omega
        · have cO := same_any l l _ _ wr ((OwnsC.row hO3).below hny) (hv3.below hny) hl1
          go_wp2_with fail
          refine cO.mono ?_
          rintro e w8 ⟨rfl, hB8⟩
          have htl : decide (l = l) = true := by simp
          go_wp2_with (go_at_call 11; refine (works_any _).mono ?_; rintro e w9 ⟨rfl, hB9⟩)
          go_ret
          exact ⟨rfl, chain (chain (chain hB3w hny) hB8) hB9⟩
end Go.Proofs.Ytmegeaklddncoaa
