/- mask.Free, Lift and Drop: what they hand back; nothing that lay before the call turns. -/
import Derived.Test.YtkklmioejgpknaaLoops
namespace Go.Proofs.Ytkklmioejgpknaa
open Go.RowKit Go.Shelf
attribute [local go_sem] Oper.semAt_some

theorem inS_mem {s : Nat} {pre : List Dim} {k : Nat} (h : k ∈ inS s pre) : k ∈ dimsOf s :=
  mem_dimsOf.2 ⟨inS_lt s pre k h, by simpa using (List.mem_filter.1 h).2⟩
theorem free_stop {s k : Nat} {p : List Dim} {x : Dim} (hk : k ≤ 24) (hv : (p ++ [x]).map Fin.val = List.range k) (hp : ∀ y ∈ p, s.testBit y.1 = true) (hx : s.testBit x.1 = false) : freeI s = ((x.1 : Nat) : Int) := by
  have hk0 : k ≠ 0 := by rintro rfl; simp at hv
  obtain ⟨j, rfl⟩ : ∃ j, k = j + 1 := ⟨k - 1, by omega⟩
  rw [List.range_succ, List.map_append] at hv
  have h2 := List.append_inj' hv rfl
  have hxj : x.1 = j := by simpa using h2.2
  refine freeI_at (fun i hi => ?_) x.2 hx
  have hm : i ∈ p.map Fin.val := by rw [h2.1]; simp; omega
  obtain ⟨y, hy, rfl⟩ := List.mem_map.1 hm
  exact hp y hy

end Go.Proofs.Ytkklmioejgpknaa
