/- mask.dimensions hands out 0 .. 23, rising, whatever the loop's body does; mask.Count, List, Free over it. -/
import Derived.RangeFuncNested
import Derived.RangeFuncBound
import Derived.RangeFuncCalls
import Derived.RangeFuncLeaves
import Derived.RangeFuncFrom
import Derived.RangeFuncBox
import Derived.Maps.AppendAt
import Derived.Shelf.Abstract
import Derived.Shelf.RegionOpen
import Derived.WalkKit
import Derived.OwnWalkIn
import Derived.TacticsInMore
import Derived.LoopNIn
import Derived.LoopIn
import Derived.Test.YtdikaomebbpmhabDoorInts
import Derived.Test.YtdikaomebbpmhabDoorMathAll
namespace Go.Proofs.YtdikaomebbpmhabDoor
open Go.RowKit Go.Shelf
attribute [local go_sem] Oper.semAt_some

abbrev Dim := Fin 24
abbrev encD (x : Dim) : Array Value := #[.int .i64 ((x.1 : Nat) : Int)]
/-- The first k dimensions. -/
def firstD (k : Nat) : List Dim := (List.range k).filterMap (fun j => if h : j < 24 then some ⟨j, h⟩ else none)
theorem firstD_succ {k : Nat} (h : k < 24) : firstD (k + 1) = firstD k ++ [⟨k, h⟩] := by simp [firstD, List.range_succ, h]
theorem firstD_vals {k : Nat} (h : k ≤ 24) : (firstD k).map Fin.val = List.range k := by
  induction k with
  | zero => rfl
  | succ k ih => rw [firstD_succ (by omega), List.map_append, ih (by omega), List.range_succ]; rfl
theorem firstD_length {k : Nat} (h : k ≤ 24) : (firstD k).length = k := by
  have := congrArg List.length (firstD_vals h)
  simpa using this

set_option maxRecDepth 100000 in
set_option maxHeartbeats 1000000 in
theorem dims_stops (n : Nat) (hn : 1 ≤ n) (n₀ : Nat) (w : World) :
    SeqStopsK Fence.wide n Tryd.prog 36 #[] encD (Below n₀) (fun xs => xs.map Fin.val = List.range 24) (fun pre => ∃ k, k ≤ 24 ∧ pre.map Fin.val = List.range k) 24 w := fun l J Jx W _ _ _ hY h0 => by
  refine callsIn_of_wp Tryd.func36 rfl trivial ?_ rfl
  simp only [Tryd.ntmps36, List.size_toArray, List.length_cons, List.length_nil, Nat.reduceAdd, Nat.reduceSub, Array.replicate_succ, Array.replicate_zero, List.push_toArray, List.append_toArray, List.nil_append, List.cons_append]
  gi_wp2
  gi_loopw [2] (fun i wr => ∃ k : Nat, k ≤ 24 ∧ i = .int .i64 k ∧ J (firstD k) wr) (fun i _ => 24 - (intOf i).toNat)
  case atStart => exact ⟨0, by omega, rfl, h0⟩
  case round =>
    obtain ⟨k, hk, rfl, hJs⟩ := hrel
    by_cases hlt : k < 24
    · obtain ⟨fn, tmps, assign, body, hy, hR⟩ := hY _ ⟨k, hlt⟩ wr hJs (by rw [firstD_length hk]; exact hlt)
      rw [← firstD_succ hlt] at hR
      dsimp only [encD] at hy
      have hv := firstD_vals (k := k + 1) (by omega)
      have HV : Hid ((firstD (k + 1)).map Fin.val = List.range (k + 1)) := hv
      clear hv
      gi_wp2
      refine hR.mono ?_
      rintro e W3 (⟨rfl, hJ3, hk3⟩ | ⟨rfl, hJx3⟩)
      · gi_wp2
        go_roundw
        case rel => exact ⟨k + 1, by omega, by simp, hJ3⟩
        case measure => simp [intOf]; omega
      · gi_wp2
        refine bodyPost_ret (results_none rfl _ _ _) rfl ?_
        exact ⟨⟨_, rfl⟩, .inr ⟨_, ⟨k + 1, by omega, HV.out⟩, hJx3⟩⟩
    · obtain rfl : k = 24 := by omega
      gi_wp2
      go_end0
      exact ⟨⟨_, rfl⟩, .inl ⟨_, firstD_vals (by omega), hJs⟩⟩

/-- Those of a list of dimensions that a set has. -/
def inS (s : Nat) (pre : List Dim) : List Nat := (pre.map Fin.val).filter (fun k => s.testBit k)
theorem inS_all {s : Nat} {xs : List Dim} (h : xs.map Fin.val = List.range 24) : inS s xs = dimsOf s := by rw [inS, h]; rfl
theorem inS_hit {s : Nat} {pre : List Dim} {x : Dim} (h : s.testBit x.1 = true) : inS s (pre ++ [x]) = inS s pre ++ [x.1] := by simp [inS, h]
theorem inS_miss {s : Nat} {pre : List Dim} {x : Dim} (h : s.testBit x.1 = false) : inS s (pre ++ [x]) = inS s pre := by simp [inS, h]
theorem inS_length_le (s : Nat) (pre : List Dim) : (inS s pre).length ≤ pre.length := by
  have := List.length_filter_le (fun k => s.testBit k) (pre.map Fin.val)
  simpa [inS] using this
theorem inS_lt (s : Nat) (pre : List Dim) : ∀ k ∈ inS s pre, k < 24 := fun k hk => by
  obtain ⟨x, _, rfl⟩ := List.mem_map.1 (List.mem_filter.1 hk).1
  exact x.2

set_option maxRecDepth 100000 in
set_option maxHeartbeats 2000000 in
theorem list_any (s : Nat) (w : World) (hs : s < 4294967296) :
    Calls Tryd.prog 18 #[.int .u32 s] w fun e W' => ∃ v, e = .returned v ∧ OwnsL W' w.heap.size v (dimsOf s) ∧ Below w.heap.size w W' := by
  obtain ⟨i0, hi, hz0, hz1, hz2⟩ := info_parts Tryd.infoInt
  refine (callsIn_wide (n := 4)).1 ?_
  refine callsIn_of_wp_marks Tryd.func18 rfl trivial ?_ rfl
  simp only [Tryd.ntmps18, List.size_toArray, List.length_cons, List.length_nil, Nat.reduceAdd, Nat.reduceSub, Array.replicate_succ, Array.replicate_zero, List.push_toArray, List.append_toArray, List.nil_append, List.cons_append]
  gi_wp2
  have b0 := Boxed.new w 23 (.int .u32 s)
  have b1 := Boxed.new (w.alloc (.cells #[.int .u32 s] 23)) 29 (.slice none 0 0)
  rw [World.size_alloc] at b1
  have hB0 : Below w.heap.size w ((w.alloc (.cells #[.int .u32 s] 23)).alloc (.cells #[.slice none 0 0] 29)) := ((Below.refl _ w).alloc (Nat.le_refl _) _).alloc (by simp) _
  refine wpIn_rangeFunc_ownG rfl (by omega) (gf := 36) (lb := #[]) rfl trivial (enters_of Tryd.func36 (by kernel_rfl) rfl)
    (dims_stops 3 (by omega) w.heap.size _) belowK_t (belowK_b (by simp; omega)) (Below.refl _ _) (fun _ => rfl)
    (fun pre W => (Boxed W w.heap.size 23 (.int .u32 s) ∧ ∃ v, Boxed W (w.heap.size + 1) 29 v ∧ W.ownsRow w.heap.size 3 1 v (inS s pre).length ((inS s pre).map encI) ∧ True) ∧ Below w.heap.size w W)
    (fun _ _ _ => False)
    (OwnFrom.and (OwnFrom.and (Own.from (boxed_own _ _ _) _) (Own.from (holdsRow_own w.heap.size (w.heap.size + 1) 29 3 1 (fun pre => (inS s pre).length) (fun pre => (inS s pre).map encI) (fun _ _ => True)) _)) (ownFrom_below (Nat.le_refl _) (by simp; omega)))
    (fun _ _ _ _ _ hs _ _ => hs)
    ⟨⟨b0.alloc _, _, b1, World.ownsRow_nil _ _ _ _, trivial⟩, hB0⟩
    (fun x => { tmps := #[.int .u32 s, .pointer (some ⟨w.heap.size, 0, none⟩), .slice none 0 0, .pointer (some ⟨w.heap.size + 1, 0, none⟩), .int .i64 ((x.1 : Nat) : Int), .int .i64 ((x.1 : Nat) : Int), undef, undef, undef, undef, undef, undef, undef, undef], defers := [] }) ?assign ?body ?done ?stop
  case assign =>
    intro l x W K hK
    gi_wp2
    exact hK
  case body =>
    rintro l pre x W ⟨⟨hb0, v, hv, hrow, _⟩, hB⟩ hlt
    have hc0 := hb0.cell
    have hc1 := hv.cell
    have hx := x.2
    have hul := inS_length_le s pre
    by_cases hb : s.testBit x.1 = true
    · have hh : hasB s ((x.1 : Nat) : Int) = true := by rw [hasB_nat hx]; exact hb
      have HU : Hid (inS s (pre ++ [x]) = inS s pre ++ [x.1]) := inS_hit hb
      clear hb
      gi_wp2_with (first
        | (refine ⟨trivial, ?_⟩; gi_at_call 31; refine (CallsIn.inRound l (callsIn_wide.2 (has_any _ _ _ hs))).mono ?_; rintro e w' ⟨rfl, rfl⟩; rw [hh])
        | (gi_at_builtin; refine wpListIn_append_own _ rfl _ _ 29 rfl w.heap.size 3 i0 (.int .i64 0) 1 8 Tryd.underlying29 hi hz0 hz1 hz2 rfl (by decide) _ _ _ rfl (hrow.alloc _) ⟨_, 0, none⟩ 1 1 [.int .i64 ((x.1 : Nat) : Int)] rfl rfl (cell_one_new _ _ _) (by simp [Value.oneCell']) (by unfold maxLen; omega) (by omega) (by have := hB.size; simp; omega) ?_; intro v' w1 hown' hgrow _; obtain ⟨g', cap', rfl⟩ := ownsRow_succ hown'; obtain ⟨hv1, hv2, hr2, hk2, hb2⟩ := hv.appended (by decide) hrow hB.size (by omega) hown' hgrow; have hb01 := (hb0.alloc (.cells #[.int .i64 ((x.1 : Nat) : Int)] 3)).kept hgrow (hb0.not_row (by decide) hrow); have hc1' := hv1.cell; have hf1 := hv1.frozen))
      exact ⟨hk2.from _, hb2, ⟨hb01.other (by omega) _, _, hv2, by rw [HU.out]; simpa [encI] using hr2, trivial⟩, hB.trans hb2⟩
    · have hb : s.testBit x.1 = false := by simpa using hb
      have hh : hasB s ((x.1 : Nat) : Int) = false := by rw [hasB_nat hx]; exact hb
      have HU : Hid (inS s (pre ++ [x]) = inS s pre) := inS_miss hb
      clear hb
      gi_wp2_with (refine ⟨trivial, ?_⟩; gi_at_call 31; refine (CallsIn.inRound l (callsIn_wide.2 (has_any _ _ _ hs))).mono ?_; rintro e w' ⟨rfl, rfl⟩; rw [hh])
      exact ⟨KeepsFrom.refl _ _, Below.refl _ _, ⟨hb0, _, hv, by rw [HU.out]; exact hrow, trivial⟩, hB⟩
  case done =>
    rintro D ys W hD hys ⟨⟨hb0, v, hv, hrow, _⟩, hB⟩ hK
    rw [inS_all hys] at hrow
    have hc := hv.cell
    gi_wp2
    refine ⟨by simp, .inl ⟨_, _, rfl, run_takeDeferred hK, ?_⟩⟩
    exact ⟨_, results_tmp rfl _ _ _, v, rfl, ownsRow_putObj hrow _ hK rfl, hB.trans (belowK_b (w := w) (Nat.le_refl _) W D _ _ (by simp at hD; omega) hK rfl rfl)⟩
  case stop =>
    rintro D c pre W _ _ h _
    exact h.elim
end Go.Proofs.YtdikaomebbpmhabDoor
