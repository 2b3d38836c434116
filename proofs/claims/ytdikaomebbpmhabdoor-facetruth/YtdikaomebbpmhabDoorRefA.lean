/- The document's answer: List, Set, Without, With, Free: what they hand back; nothing that lay before the call turns. -/
import Derived.WalkKit
import Derived.Maps.AppendAt
import Derived.RangeFuncBox
import Derived.Test.YtdikaomebbpmhabDoorProg
import Derived.Test.YtdikaomebbpmhabDoorMathAll
import Derived.Test.YtdikaomebbpmhabDoorBase
import Derived.Test.YtdikaomebbpmhabDoorBaseA
import Derived.Test.YtdikaomebbpmhabDoorSlices
namespace Go.Proofs.YtdikaomebbpmhabDoor
open Go.RowKit

def upTo (s k : Nat) : List Nat := (List.range k).filter (fun k => s.testBit k)
theorem upTo_24 (s : Nat) : upTo s 24 = dimsOf s := rfl
theorem upTo_hit {s k : Nat} (h : s.testBit k = true) : upTo s (k + 1) = upTo s k ++ [k] := by simp [upTo, List.range_succ, h]
theorem upTo_miss {s k : Nat} (h : s.testBit k = false) : upTo s (k + 1) = upTo s k := by simp [upTo, List.range_succ, h]
theorem upTo_length_le (s k : Nat) : (upTo s k).length ≤ k := by
  have := List.length_filter_le (fun k => s.testBit k) (List.range k)
  simpa [upTo] using this

theorem sumAll_take {l : List Nat} {k : Nat} (h : k < l.length) : sumAll (l.take (k + 1)) = sumAll (l.take k) + 2 ^ (l[k]?.getD 0) := by
  rw [List.take_succ_eq_append_getElem h, sumAll_snoc]; simp [h]
theorem sumAll_bd {l : List Nat} (h : ∀ k ∈ l, k < 24) (hl : l.length ≤ 64) (k : Nat) : sumAll (l.take k) ≤ 1073741824 := by
  have h1 := sumFrom_le (l.take k) (fun x hx => h x (List.mem_of_mem_take hx)) 0
  have h2 : (l.take k).length ≤ l.length := by simp; omega
  unfold sumAll; omega
theorem getD_lt {l : List Nat} (h : ∀ k ∈ l, k < 24) {k : Nat} (hk : k < l.length) : l[k]?.getD 0 < 24 := by
  have : l[k]?.getD 0 = l[k] := by simp [hk]
  rw [this]; exact h _ (List.getElem_mem hk)
def sumI (l : List Nat) (k : Nat) : Int := (sumAll (l.take k) : Int)

theorem filter_take {l : List Nat} {k : Nat} (p : Nat → Bool) (h : k < l.length) : (l.take (k + 1)).filter p = (l.take k).filter p ++ (if p (l[k]?.getD 0) then [l[k]?.getD 0] else []) := by
  rw [List.take_succ_eq_append_getElem h, List.filter_append]
  have : l[k]?.getD 0 = l[k] := by simp [h]
  rw [this]
  by_cases hp : p l[k] <;> simp [hp]
def keepUp (l : List Nat) (i : Int) (k : Nat) : List Nat := (l.take k).filter (notI i)
theorem keepUp_length_le (l : List Nat) (i : Int) (k : Nat) : (keepUp l i k).length ≤ k := by
  have := List.length_filter_le (notI i) (l.take k)
  have h2 : (l.take k).length ≤ k := List.length_take_le _ _
  unfold keepUp; omega

end Go.Proofs.YtdikaomebbpmhabDoor
