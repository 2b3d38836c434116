/- What the condition on the package's variables gives the walks: the three tables, cell by cell; and the door's own heap meets it. -/
import Derived.Test.YtdikaomebbpmhabDoorRows
import Derived.Test.YtdikaomebbpmhabDoorTVal
import Derived.Test.YtdikaomebbpmhabDoorCSame
import Derived.ProofKit
import Derived.LaidMore
import Derived.OpenShut
import Derived.Lib.LaidTab
import Derived.Stop.Joined
namespace Go.Proofs.YtdikaomebbpmhabDoor
open Go.ChangeShapes Go.WideShapes Go.ChangeAt Go.RowKit
set_option linter.unusedVariables false
set_option linter.unusedSimpArgs false

def laid3 : List (String × DataW Unit) := [("hypercube/truth.meets", Rows.laid_hypercube_truth_meets), ("hypercube/truth.joins", Rows.laid_hypercube_truth_joins), ("hypercube/truth.nots", Rows.laid_hypercube_truth_nots)]
set_option maxRecDepth 100000
theorem gMeets : Tryd.prog.globalNamed "hypercube/truth.meets" = some 1 := by kernel_rfl
theorem gJoins : Tryd.prog.globalNamed "hypercube/truth.joins" = some 0 := by kernel_rfl
theorem gNots : Tryd.prog.globalNamed "hypercube/truth.nots" = some 2 := by kernel_rfl
theorem tMeets : (Tryd.prog.globals[1]?).map (·.type) = some 65 := by kernel_rfl
theorem tJoins : (Tryd.prog.globals[0]?).map (·.type) = some 65 := by kernel_rfl
theorem tNots : (Tryd.prog.globals[2]?).map (·.type) = some 64 := by kernel_rfl
theorem cells_int : Tryd.prog.cellsOf 3 = 1 := by kernel_rfl
theorem cells_arr4 : Tryd.prog.cellsOf 64 = 4 := by kernel_rfl
theorem cells_arr44 : Tryd.prog.cellsOf 65 = 16 := by kernel_rfl

theorem tab44 {W : World} {fuel : Nat} {cs : List Value} {p : List MemPlace} {z : List (List Int)} (hz : z.length = 4)
    (h : DataW.trod (fun _ => ()) Tryd.prog W 0 (fun _ => true) false fuel 65 cs = some (.agg (z.map (fun r => Lib.tabData .i64 r)), p)) :
    ∀ x y : Nat, x < 4 → y < 4 → cs[x * 4 + y]? = (z[x]?.bind fun r => r[y]?).map (fun k => Value.int .i64 k) := by
  intro x y hx hy
  obtain ⟨xs, m, _, ex, hlen, hl, hel⟩ := DataW.trod_array Tryd.underlying65 h
  simp only [Prod.mk.injEq, DataW.agg.injEq] at ex
  have h1 := hel x hx
  rw [cells_arr4] at h1
  obtain ⟨q, hq⟩ := get_some (l := xs) (k := x) (by omega)
  obtain ⟨r, hr⟩ := get_some (l := z) (k := x) (by omega)
  rw [hq] at h1
  have hq1 : q.1 = Lib.tabData .i64 r := by
    have := congrArg (fun l => l[x]?) ex.1
    simp only [List.getElem?_map, hq, hr, Option.map_some, Option.some.injEq] at this
    exact this.symm
  obtain ⟨q1, q2⟩ := q
  simp only at hq1
  subst hq1
  have h2 := Lib.cells_of_tab Tryd.underlying64 Tryd.underlying3 cells_int cells_arr4 h1
  have h3 := congrArg (fun l => l[y]?) h2
  simp only [List.getElem?_map] at h3
  rw [List.getElem?_take_of_lt hy, List.getElem?_drop] at h3
  rw [h3, hr]
  rfl

theorem lt_of_cell {W : World} {g i : Nat} {v : Value} (h : W.cell? ⟨g, i, none⟩ = some v) : g < W.heap.size := by
  apply Nat.lt_of_not_le
  intro hle
  have e : W.heap[g]? = none := Array.getElem?_eq_none hle
  simp [World.cell?, e] at h
theorem mt_tab : ∀ x y : Fin 4, (([[0, 0, 0, 0], [0, 1, 2, 3], [0, 2, 2, 0], [0, 3, 0, 3]] : List (List Int))[x.val]?.bind fun r => r[y.val]?) = some (mtV (x.val : Int) (y.val : Int)) := by decide
theorem jn_tab : ∀ x y : Fin 4, (([[0, 1, 2, 3], [1, 1, 1, 1], [2, 1, 2, 1], [3, 1, 1, 3]] : List (List Int))[x.val]?.bind fun r => r[y.val]?) = some (jnV (x.val : Int) (y.val : Int)) := by decide
theorem nt_tab : ∀ x : Fin 4, ([1, 0, 2, 3] : List Int)[x.val]? = some (ntV (x.val : Int)) := by decide
theorem of_laid {W : World} (h : laidMetH Tryd.prog laid3 W) : Tabs W := by
  rw [MakeChecks.laidMetH_plain _ _ _ (by kernel_rfl)] at h
  obtain ⟨ps, ⟨g0, t0, cs0, f0, p0, q0, hg0, ht0, hv0, hd0, ⟨g1, t1, cs1, f1, p1, q1, hg1, ht1, hv1, hd1, ⟨g2, t2, cs2, f2, p2, q2, hg2, ht2, hv2, hd2, _, _⟩, _⟩, _⟩, _, _⟩ := h
  obtain rfl := Option.some.inj (gMeets.symm.trans hg0)
  obtain rfl := Option.some.inj (gJoins.symm.trans hg1)
  obtain rfl := Option.some.inj (gNots.symm.trans hg2)
  obtain rfl := Option.some.inj (tMeets.symm.trans ht0)
  obtain rfl := Option.some.inj (tJoins.symm.trans ht1)
  obtain rfl := Option.some.inj (tNots.symm.trans ht2)
  have m := tab44 (z := [[0, 0, 0, 0], [0, 1, 2, 3], [0, 2, 2, 0], [0, 3, 0, 3]]) rfl hd0
  have j := tab44 (z := [[0, 1, 2, 3], [1, 1, 1, 1], [2, 1, 2, 1], [3, 1, 1, 3]]) rfl hd1
  have n := Lib.cells_of_tab (zs := [1, 0, 2, 3]) Tryd.underlying64 Tryd.underlying3 cells_int cells_arr4 hd2
  have hm : ∀ x y : Nat, x < 4 → y < 4 → W.cell? ⟨1, x * 4 + y, none⟩ = some (.int .i64 (mtV x y)) := fun x y hx hy => by
    rw [World.var?_cell hg0 hv0 (x * 4 + y), ← Array.getElem?_toList, m x y hx hy, mt_tab ⟨x, hx⟩ ⟨y, hy⟩]
    rfl
  have hj : ∀ x y : Nat, x < 4 → y < 4 → W.cell? ⟨0, x * 4 + y, none⟩ = some (.int .i64 (jnV x y)) := fun x y hx hy => by
    rw [World.var?_cell hg1 hv1 (x * 4 + y), ← Array.getElem?_toList, j x y hx hy, jn_tab ⟨x, hx⟩ ⟨y, hy⟩]
    rfl
  have hn : ∀ x : Nat, x < 4 → W.cell? ⟨2, x, none⟩ = some (.int .i64 (ntV x)) := fun x hx => by
    rw [World.var?_cell hg2 hv2 x, ← Array.getElem?_toList, n, List.getElem?_map, nt_tab ⟨x, hx⟩]
    rfl
  exact ⟨⟨lt_of_cell (hm 0 0 (by decide) (by decide)), lt_of_cell (hj 0 0 (by decide) (by decide)), lt_of_cell (hn 0 (by decide))⟩, hm, hj, hn⟩
theorem door_met (os : Os) (args : Array Value) : laidMetH Tryd.prog laid3 ((World.doorLaid Tryd.prog 400 os).forCall (fun _ _ => 0) ⟨#[], args, []⟩).memory :=
  laidMetH_of_parts3 (fuel := 8) (laidMet_of_run' 8 (by kernel_rfl) (by kernel_rfl)) (by kernel_rfl) (by kernel_rfl)
end Go.Proofs.YtdikaomebbpmhabDoor
