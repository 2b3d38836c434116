/- mask.dimensions hands out 0 .. 23, rising, whatever the loop's body does; mask.Count, List, Free over it. -/
import Derived.RangeFuncNested
import Derived.RangeFuncBound
import Derived.RangeFuncCalls
import Derived.RangeFuncLeaves
import Derived.RangeFuncFrom
import Derived.RangeFuncBox
import Derived.Maps.AppendAt
import Derived.Shelf.Abstract
import Derived.Shelf.RegionOpen
import Derived.WalkKit
import Derived.OwnWalkIn
import Derived.TacticsInMore
import Derived.LoopNIn
import Derived.LoopIn
import Derived.Test.YtmegeaklddncoaaInts
import Derived.Test.YtmegeaklddncoaaMathB
namespace Go.Proofs.Ytmegeaklddncoaa
open Go.RowKit Go.Shelf
attribute [local go_sem] Oper.semAt_some

abbrev Dim := Fin 24
abbrev encD (x : Dim) : Array Value := #[.int .i64 ((x.1 : Nat) : Int)]
/-- The first k dimensions. -/
def firstD (k : Nat) : List Dim := (List.range k).filterMap (fun j => if h : j < 24 then some ⟨j, h⟩ else none)
theorem firstD_succ {k : Nat} (h : k < 24) : firstD (k + 1) = firstD k ++ [⟨k, h⟩] := by simp [firstD, List.range_succ, h]
theorem firstD_vals {k : Nat} (h : k ≤ 24) : (firstD k).map Fin.val = List.range k := by
  induction k with
  | zero => rfl
  | succ k ih => rw [firstD_succ (by omega), List.map_append, ih (by omega), List.range_succ]; rfl
theorem firstD_length {k : Nat} (h : k ≤ 24) : (firstD k).length = k := by
  have := congrArg List.length (firstD_vals h)
  simpa using this

set_option maxRecDepth 100000 in
set_option maxHeartbeats 1000000 in
theorem dims_stops (n : Nat) (hn : 1 ≤ n) (n₀ : Nat) (w : World) :
    SeqStopsK Fence.wide n Try.prog 43 #[] encD (Below n₀) (fun xs => xs.map Fin.val = List.range 24) (fun pre => ∃ k, k ≤ 24 ∧ pre.map Fin.val = List.range k) 24 w := fun l J Jx W _ _ _ hY h0 => by
  refine callsIn_of_wp Try.func43 rfl trivial ?_ rfl
  simp only [Try.ntmps43, List.size_toArray, List.length_cons, List.length_nil, Nat.reduceAdd, Nat.reduceSub, Array.replicate_succ, Array.replicate_zero, List.push_toArray, List.append_toArray, List.nil_append, List.cons_append]
  gi_wp2
  gi_loopw [2] (fun i wr => ∃ k : Nat, k ≤ 24 ∧ i = .int .i64 k ∧ J (firstD k) wr) (fun i _ => 24 - (intOf i).toNat)
  case atStart => exact ⟨0, by omega, rfl, h0⟩
  case round =>
    obtain ⟨k, hk, rfl, hJs⟩ := hrel
    by_cases hlt : k < 24
    · obtain ⟨fn, tmps, assign, body, hy, hR⟩ := hY _ ⟨k, hlt⟩ wr hJs (by rw [firstD_length hk]; exact hlt)
      rw [← firstD_succ hlt] at hR
      dsimp only [encD] at hy
      have hv := firstD_vals (k := k + 1) (by omega)
      have HV : Hid ((firstD (k + 1)).map Fin.val = List.range (k + 1)) := hv
      clear hv
      gi_wp2
      refine hR.mono ?_
      rintro e W3 (⟨rfl, hJ3, hk3⟩ | ⟨rfl, hJx3⟩)
      · gi_wp2
        go_roundw
        case rel => exact ⟨k + 1, by omega, by simp, hJ3⟩
        case measure => simp [intOf]; omega
      · gi_wp2
        refine bodyPost_ret (results_none rfl _ _ _) rfl ?_
        exact ⟨⟨_, rfl⟩, .inr ⟨_, ⟨k + 1, by omega, HV.out⟩, hJx3⟩⟩
    · obtain rfl : k = 24 := by omega
      gi_wp2
      go_end0
      exact ⟨⟨_, rfl⟩, .inl ⟨_, firstD_vals (by omega), hJs⟩⟩

/-- Those of a list of dimensions that a set has. -/
def inS (s : Nat) (pre : List Dim) : List Nat := (pre.map Fin.val).filter (fun k => s.testBit k)
theorem inS_all {s : Nat} {xs : List Dim} (h : xs.map Fin.val = List.range 24) : inS s xs = dimsOf s := by rw [inS, h]; rfl
theorem inS_hit {s : Nat} {pre : List Dim} {x : Dim} (h : s.testBit x.1 = true) : inS s (pre ++ [x]) = inS s pre ++ [x.1] := by simp [inS, h]
theorem inS_miss {s : Nat} {pre : List Dim} {x : Dim} (h : s.testBit x.1 = false) : inS s (pre ++ [x]) = inS s pre := by simp [inS, h]
theorem inS_length_le (s : Nat) (pre : List Dim) : (inS s pre).length ≤ pre.length := by
  have := List.length_filter_le (fun k => s.testBit k) (pre.map Fin.val)
  simpa [inS] using this
theorem inS_lt (s : Nat) (pre : List Dim) : ∀ k ∈ inS s pre, k < 24 := fun k hk => by
  obtain ⟨x, _, rfl⟩ := List.mem_map.1 (List.mem_filter.1 hk).1
  exact x.2

end Go.Proofs.Ytmegeaklddncoaa
