/- same and great of the statements of the layer face. -/
import Derived.Test.YtdikaomebbpmhaaGreatFApp
namespace Go.Proofs.YtdikaomebbpmhaaGreat
open Go.RowKit
set_option linter.unusedVariables false
set_option linter.unusedSimpArgs false

theorem below_grownBy {w w' : World} (h : Below w.heap.size w w') (row : Option Nat) : w.grownBy w' row := ⟨h.os, h.tape, h.output, h.size, fun k hk _ => h.block k hk⟩
theorem grownBy_trans {a b c : World} {row : Option Nat} (h1 : a.grownBy b row) (h2 : b.grownBy c row) : a.grownBy c row :=
  ⟨h2.os.trans h1.os, h2.tape.trans h1.tape, h2.output.trans h1.output, Nat.le_trans h1.size h2.size, fun k hk hne => (h2.block k (Nat.lt_of_lt_of_le hk h1.size) hne).trans (h1.block k hk hne)⟩
theorem CRow.kept {w w' : World} {v : Value} {l : List C} {row : Option Nat} (h : CRow w v l) (hg : w.grownBy w' row) (hne : v.ownBlock = none ∨ v.ownBlock ≠ row) : CRow w' v l := by
  rcases h with h | ⟨g, off, cap, rfl, hgl, hc⟩
  · exact .inl h
  · have hne2 : some g ≠ row := by
      rcases hne with h | h
      · simp [Value.ownBlock] at h
      · exact h
    exact .inr ⟨g, off, cap, rfl, Nat.lt_of_lt_of_le hgl hg.size, fun j c hj => ⟨(hg.cell_far ⟨g, off + j * 2, none⟩ hgl hne2).trans (hc j c hj).1, (hg.cell_far ⟨g, off + j * 2 + 1, none⟩ hgl hne2).trans (hc j c hj).2⟩⟩

set_option maxRecDepth 100000 in
set_option maxHeartbeats 2000000 in
theorem lsame_any (M : List C) (er : Int) (va vb : Value) (base : Nat) (w : World) (hO : OwnsC w base va M) (hb : CRow w vb M) (hM : M.length ≤ 1000) :
    Calls Tryz.prog 12 #[va, .int .i64 er, vb, .int .i64 er] w fun e w' => e = .returned (.bool true) ∧ w.grownBy w' va.ownBlock := by
  have c1 := same_any M M va vb w (OwnsC.row hO) hb (by omega)
  rw [decide_eq_true rfl] at c1
  obtain ⟨pb, cb, rfl⟩ := hb.len
  by_cases hz : M = []
  · subst hz
    obtain ⟨pa, ca, rfl⟩ := OwnsC.len hO
    clear hO hb
    go_enter Tryz.func12, Tryz.ntmps12
    go_wp2_with fail
    refine c1.mono ?_
    rintro e w1 ⟨rfl, hB1⟩
    clear c1
    go_wp2
    go_loop [21] (fun i => i = .int .i64 0) (fun _ => 0)
    case atStart => rfl
    case round =>
      subst hrel
      go_wp2
      go_ret
      exact ⟨rfl, below_grownBy hB1 _⟩
  · rcases hO.form with ⟨_, h⟩ | ⟨g4, cap4, rfl, hg4, hg4', _⟩
    · exact absurd h hz
    obtain ⟨m, hm⟩ : ∃ m, m = M.length := ⟨_, rfl⟩
    have Hm : Hid (m = M.length) := hm
    have HOw : Hid (∀ w1, Below w.heap.size w w1 → w1.ownsRow base 25 2 (.slice (some ⟨g4, 0, none⟩) m cap4) m (flat M)) := fun w1 h1 => by rw [hm]; exact OwnsC.below hO h1
    rw [← hm] at hM c1 ⊢
    clear hm hO hb
    go_enter Tryz.func12, Tryz.ntmps12
    go_wp2_with fail
    refine c1.mono ?_
    rintro e w1 ⟨rfl, hB1⟩
    clear c1
    have hrow1 := HOw.out w1 hB1
    have hG1 : w.grownBy w1 (some g4) := below_grownBy hB1 _
    clear HOw
    go_wp2
    go_loopw [21] (fun i wr => ∃ (j : Nat) (xs : List Value), j ≤ m ∧ i = .int .i64 j ∧ wr.ownsRow base 25 2 (.slice (some ⟨g4, 0, none⟩) m cap4) m xs ∧ (∀ q, j * 2 ≤ q → xs[q]? = (flat M)[q]?) ∧ w.grownBy wr (some g4)) (fun i _ => m - (intOf i).toNat)
    case atStart => exact ⟨0, flat M, Nat.zero_le _, rfl, hrow1, fun _ _ => rfl, hG1⟩
    case round =>
      obtain ⟨j, xs, hj, rfl, hrow, hxs, hny⟩ := hrel
      have HX : Hid (∀ q, j * 2 ≤ q → xs[q]? = (flat M)[q]?) := hxs
      clear hxs
      by_cases hlt : j < m
      · obtain ⟨c, hcj⟩ := get_some (l := M) (k := j) (by rw [← Hm.out]; exact hlt)
        have x0 : wr.cell? ⟨g4, j * 2 + 1, none⟩ = some (.int .u32 (c.2.val : Int)) := by
          rw [World.ownsRow.cellAt hrow (j * 2 + 1) (by omega), HX.out (j * 2 + 1) (by omega), flat_get1, hcj]; rfl
        have f0 := World.ownsRow.frozenAt hrow (j * 2 + 1)
        have hst := fun u => World.ownsRow.stored hrow (j * 2 + 1) u
        clear hcj
        go_wp2
        go_roundw
        case rel => exact ⟨j + 1, _, by omega, by go_num, (hst _).1, fun q hq => by rw [List.getElem?_set_ne (by omega)]; exact HX.out q (by omega), grownBy_trans hny (hst _).2⟩
        case measure => simp [intOf]; omega
      · go_wp2
        go_ret
        exact ⟨rfl, hny⟩

set_option maxHeartbeats 1000000 in
theorem great_any (pa pb : Option Addr) (n m ca cb : Nat) (w : World) : Calls Tryz.prog 4 #[.slice pa n ca, .slice pb m cb] w fun e w' => e = .returned (.bool (decide (24 < n) || decide (24 < m))) ∧ w' = w := by
  by_cases h : 24 < n
  · have h1 : (24 : Int) < (n : Int) := by omega
    go_enter Tryz.func4, Tryz.ntmps4
    go_wp2
    go_ret
    exact ⟨ret_bool (by simp [h]), rfl⟩
  · have h1 : ¬ ((24 : Int) < (n : Int)) := by omega
    by_cases h' : 24 < m
    · have h2 : (24 : Int) < (m : Int) := by omega
      go_enter Tryz.func4, Tryz.ntmps4
      go_wp2
      go_ret
      exact ⟨ret_bool (by simp [h, h']), rfl⟩
    · have h2 : ¬ ((24 : Int) < (m : Int)) := by omega
      go_enter Tryz.func4, Tryz.ntmps4
      go_wp2
      go_ret
      exact ⟨ret_bool (by simp [h, h']), rfl⟩
end Go.Proofs.YtdikaomebbpmhaaGreat
