/- How a clause, and a row of clauses, that came in lie in memory; what came in reads as it did where nothing old has turned. -/
import Derived.ProofKit
import Derived.OpenShut
import Derived.Lib.SmallJoins
import Derived.Deep.SlicePairs
import Derived.Test.YtdikaomebbpmhabDoorCOrder
namespace Go.Proofs.YtdikaomebbpmhabDoor
open Go.ChangeShapes Go.WideShapes Go.ChangeAt Go.RowKit
set_option linter.unusedVariables false
set_option linter.unusedSimpArgs false

section
variable {H : Type} {enc : TypeId × Value → H}

set_option maxRecDepth 100000 in
theorem shutB {W W' : World} {t : TypeId} {v : Value} {d : DataW H} {ps : List MemPlace} (hr : Tryd.prog.readableRec t = true) (hrow : t < Tryd.prog.types.size) (h : DataW.Trod enc Tryd.prog W 0 (fun _ => true) true t v d ps) (hb : Below W.heap.size W W') :
    DataW.Trod enc Tryd.prog W' 0 (fun b => decide (b < W.heap.size)) true t v d ps :=
  Below.trod Tryd.laidOut hr hrow h hb (fun x hx => by obtain ⟨n, hn⟩ := h; exact DataW.trod_lt n _ _ _ hn x hx)

theorem bounds_wf {n : Int} (h : (Lit.int .u32 n).wf = true) : ∃ x : Fin 4294967296, n = (x.val : Int) := by
  have h2 : 0 ≤ n ∧ n ≤ 4294967295 := by
    simp [Lit.wf, IntKind.min, IntKind.max, IntKind.bits, IntKind.signed] at h
    omega
  exact ⟨⟨n.toNat, by omega⟩, by show n = ((n.toNat : Nat) : Int); omega⟩

set_option maxRecDepth 100000 in
theorem open_clause {W : World} {base : Nat} {v : Value} {d : DataW H} {p : List MemPlace} (hv : Value.okWide Tryd.prog W .any base 25 v) (h : DataW.Trod enc Tryd.prog W 0 (fun _ => true) true 25 v d p) : ∃ c : C, v = clV c := by
  obtain ⟨v0, v1, y0, y1, n, rfl, _, _, h0, h1⟩ := Go.Joins.open_agg2 Tryd.underlying25 (by kernel_rfl) Tryd.cellsC hv h
  obtain ⟨a, e0, _, w0⟩ := DataW.trod_int Tryd.underlying23 h0
  obtain ⟨b, e1, _, w1⟩ := DataW.trod_int Tryd.underlying23 h1
  obtain ⟨x, rfl⟩ := bounds_wf w0
  obtain ⟨y, rfl⟩ := bounds_wf w1
  simp at e0 e1
  subst e0 e1
  exact ⟨(x, y), rfl⟩

set_option maxRecDepth 100000 in
theorem open_clauses {W : World} {base : Nat} {v : Value} {d : DataW H} {p : List MemPlace} (hv : Value.okWide Tryd.prog W .any base 22 v) (h : DataW.Trod enc Tryd.prog W 0 (fun _ => true) true 22 v d p) : ∃ l : List C, CRow W v l := by
  obtain ⟨a0, len, cap, rfl⟩ := okWide_slice Tryd.underlying22 hv
  obtain ⟨fuel, hf⟩ := h
  rcases Go.Deep.open_slice_pairs Tryd.underlying22 Tryd.underlying25 Tryd.cellsC rfl rfl Tryd.cellsU Tryd.cellsU hf with ⟨hcs, _⟩ | ⟨a, len', cap', m, n, V0, V1, D0, D1, P0, P1, hcs, _, hl, _, hm, _, hcell⟩
  · simp [Value.cells] at hcs
    obtain ⟨rfl, rfl, rfl⟩ := hcs
    exact ⟨[], .inl ⟨_, _, rfl, rfl⟩⟩
  · simp [Value.cells] at hcs
    obtain ⟨rfl, rfl, rfl⟩ := hcs
    simp only [if_true] at hm
    subst hm
    by_cases hz : len = 0
    · subst hz
      exact ⟨[], .inl ⟨_, _, rfl, rfl⟩⟩
    obtain ⟨b, off, spot⟩ := a
    have hspot : spot = none := by simpa [Addr.add] using World.cell?_spot (hcell 0 (by omega)).1
    subst hspot
    have hb : b < W.heap.size := World.block_lt_of_cell? _ _ (hcell 0 (by omega)).1
    have each : ∀ i, i < len → ∃ c : C, W.cell? ⟨b, off + i * 2, none⟩ = some (.int .u32 (c.1.val : Int)) ∧ W.cell? ⟨b, off + i * 2 + 1, none⟩ = some (.int .u32 (c.2.val : Int)) := fun i hi => by
      obtain ⟨h0, h1, t0, t1⟩ := hcell i (by omega)
      obtain ⟨x, e0, _, w0⟩ := DataW.trod_int Tryd.underlying23 t0
      obtain ⟨y, e1, _, w1⟩ := DataW.trod_int Tryd.underlying23 t1
      obtain ⟨x, rfl⟩ := bounds_wf w0
      obtain ⟨y, rfl⟩ := bounds_wf w1
      simp at e0 e1
      rw [e0, Addr.add_lit] at h0
      rw [e1, Addr.add_lit] at h1
      exact ⟨(x, y), h0, h1⟩
    obtain ⟨f, hf2⟩ : ∃ f : Nat → C, ∀ i, i < len → W.cell? ⟨b, off + i * 2, none⟩ = some (.int .u32 ((f i).1.val : Int)) ∧ W.cell? ⟨b, off + i * 2 + 1, none⟩ = some (.int .u32 ((f i).2.val : Int)) := by
      refine ⟨fun i => if h : i < len then Classical.choose (each i h) else (0, 0), fun i hi => ?_⟩
      simp only [hi, dif_pos]
      exact Classical.choose_spec (each i hi)
    refine ⟨(List.range len).map f, .inr ⟨b, off, m, by simp, hb, fun j c hj => ?_⟩⟩
    have hlt : j < len := by
      rcases Nat.lt_or_ge j len with h1 | h1
      · exact h1
      · rw [List.getElem?_eq_none (by simpa using h1)] at hj; exact absurd hj (by simp)
    have e : f j = c := by simpa [hlt] using hj
    rw [← e]
    exact hf2 j hlt
end
end Go.Proofs.YtdikaomebbpmhabDoor
