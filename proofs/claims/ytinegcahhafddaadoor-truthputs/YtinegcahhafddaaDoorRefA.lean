/- The document's answer: List, Set, Without, With, Free: what they hand back; nothing that lay before the call turns. -/
import Derived.WalkKit
import Derived.Maps.AppendAt
import Derived.RangeFuncBox
import Derived.Test.YtinegcahhafddaaDoorProg
import Derived.Test.YtinegcahhafddaaDoorMathAll
import Derived.Test.YtinegcahhafddaaDoorBase
import Derived.Test.YtinegcahhafddaaDoorBaseA
import Derived.Test.YtinegcahhafddaaDoorSlices
namespace Go.Proofs.YtinegcahhafddaaDoor
open Go.RowKit

def upTo (s k : Nat) : List Nat := (List.range k).filter (fun k => s.testBit k)
theorem upTo_24 (s : Nat) : upTo s 24 = dimsOf s := rfl
theorem upTo_hit {s k : Nat} (h : s.testBit k = true) : upTo s (k + 1) = upTo s k ++ [k] := by simp [upTo, List.range_succ, h]
theorem upTo_miss {s k : Nat} (h : s.testBit k = false) : upTo s (k + 1) = upTo s k := by simp [upTo, List.range_succ, h]
theorem upTo_length_le (s k : Nat) : (upTo s k).length ≤ k := by
  have := List.length_filter_le (fun k => s.testBit k) (List.range k)
  simpa [upTo] using this

set_option maxRecDepth 100000 in
set_option maxHeartbeats 1000000 in
theorem refList_any (s : Nat) (w : World) (hs : s < 4294967296) :
    Calls Tryd.prog 40 #[.int .u32 s] w fun e w' => ∃ v, e = .returned v ∧ OwnsL w' w.heap.size v (dimsOf s) ∧ Below w.heap.size w w' := by
  obtain ⟨i0, hi, hz0, hz1, hz2⟩ := info_parts Tryd.infoInt
  go_enter Tryd.func40, Tryd.ntmps40
  go_wp2
  go_loopw [3, 4] (fun v i wr => ∃ k : Nat, k ≤ 24 ∧ i = .int .i64 k ∧ wr.ownsRow w.heap.size 3 1 v (upTo s k).length ((upTo s k).map encI) ∧ Below w.heap.size w wr) (fun _ i _ => 24 - (intOf i).toNat)
  case atStart => exact ⟨0, by omega, rfl, World.ownsRow_nil _ _ _ _, Below.refl _ _⟩
  case round =>
    obtain ⟨k, hk, rfl, hown, hB⟩ := hrel
    have hul := upTo_length_le s k
    by_cases hlt : k < 24
    · by_cases hb : s.testBit k = true
      · have hh : hasB s (k : Int) = true := by rw [hasB_nat hlt]; exact hb
        have HU : Hid (upTo s (k + 1) = upTo s k ++ [k]) := upTo_hit hb
        clear hb
        go_wp2_with (first
          | (go_at_call 60; refine (refHas_any _ _ _ hs).mono ?_; rintro e w' ⟨rfl, rfl⟩; rw [hh])
          | (at_builtin; refine wpList_append_own _ rfl _ _ 27 rfl w.heap.size 3 i0 (.int .i64 0) 1 8 Tryd.underlying27 hi hz0 hz1 hz2 rfl (by decide) _ _ _ rfl (hown.alloc _) ⟨_, 0, none⟩ 1 1 [.int .i64 k] rfl rfl (cell_one_new _ _ _) (by simp [Value.oneCell']) (by unfold maxLen; omega) (by omega) (by have := hB.size; simp; omega) ?_; intro v' w1 hown' hgrow _))
        go_roundw
        case rel => exact ⟨k + 1, by omega, by go_num, by rw [HU.out]; simpa [encI] using hown', (hB.alloc hB.size _).grown hgrow (by have := hB.size; simp; omega) (fun k' e => (World.ownsRow.lt hown k' e).1)⟩
        case measure => simp [intOf]; omega
      · have hb : s.testBit k = false := by simpa using hb
        have hh : hasB s (k : Int) = false := by rw [hasB_nat hlt]; exact hb
        have HU : Hid (upTo s (k + 1) = upTo s k) := upTo_miss hb
        clear hb
        go_wp2_with (go_at_call 60; refine (refHas_any _ _ _ hs).mono ?_; rintro e w' ⟨rfl, rfl⟩; rw [hh])
        go_roundw
        case rel => exact ⟨k + 1, by omega, by go_num, by rw [HU.out]; exact hown, hB⟩
        case measure => simp [intOf]; omega
    · obtain rfl : k = 24 := by omega
      go_wp2
      go_ret
      exact ⟨_, rfl, hown, hB⟩

theorem sumAll_take {l : List Nat} {k : Nat} (h : k < l.length) : sumAll (l.take (k + 1)) = sumAll (l.take k) + 2 ^ (l[k]?.getD 0) := by
  rw [List.take_succ_eq_append_getElem h, sumAll_snoc]; simp [h]
theorem sumAll_bd {l : List Nat} (h : ∀ k ∈ l, k < 24) (hl : l.length ≤ 64) (k : Nat) : sumAll (l.take k) ≤ 1073741824 := by
  have h1 := sumFrom_le (l.take k) (fun x hx => h x (List.mem_of_mem_take hx)) 0
  have h2 : (l.take k).length ≤ l.length := by simp; omega
  unfold sumAll; omega
theorem getD_lt {l : List Nat} (h : ∀ k ∈ l, k < 24) {k : Nat} (hk : k < l.length) : l[k]?.getD 0 < 24 := by
  have : l[k]?.getD 0 = l[k] := by simp [hk]
  rw [this]; exact h _ (List.getElem_mem hk)
def sumI (l : List Nat) (k : Nat) : Int := (sumAll (l.take k) : Int)

set_option maxRecDepth 100000 in
set_option maxHeartbeats 1000000 in
theorem refSet_any (l : List Nat) (v : Value) (w : World) (hr : RowAt w v l) (h24 : ∀ k ∈ l, k < 24) (hl : l.length ≤ 64) :
    Calls Tryd.prog 62 #[v] w fun e w' => e = .returned (.int .u32 (sumAll l : Nat)) ∧ w' = w := by
  rcases hr with ⟨rfl, rfl⟩ | ⟨g, cap, rfl, hg, hc⟩
  · go_enter Tryd.func62, Tryd.ntmps62
    go_wp2
    go_loop [3, 4] (fun n i => i = .int .i64 0 ∧ n = .int .i64 0) (fun _ _ => 0)
    case atStart => exact ⟨rfl, rfl⟩
    case round =>
      obtain ⟨rfl, rfl⟩ := hrel
      go_wp2
      go_ret
      exact ⟨rfl, rfl⟩
  · obtain ⟨n, hn⟩ : ∃ n, n = l.length := ⟨_, rfl⟩
    rw [← hn] at hc hl ⊢
    have HN : Hid (n = l.length) := hn
    clear hn
    go_enter Tryd.func62, Tryd.ntmps62
    go_wp2
    go_loop [3, 4] (fun m i => ∃ k : Nat, k ≤ n ∧ i = .int .i64 k ∧ m = .int .i64 (sumI l k)) (fun _ i => n - (intOf i).toNat)
    case atStart => exact ⟨0, Nat.zero_le _, rfl, rfl⟩
    case round =>
      obtain ⟨k, hk, rfl, rfl⟩ := hrel
      have hsb : 0 ≤ sumI l k ∧ sumI l k ≤ 1073741824 := by
        have := sumAll_bd h24 (by rw [← HN.out]; exact hl) k
        unfold sumI; omega
      by_cases hlt : k < n
      · have hck := hc k hlt
        have hx : l[k]?.getD 0 < 24 := getD_lt h24 (by rw [← HN.out]; exact hlt)
        have hp := powI_bd (n := l[k]?.getD 0) (by omega)
        have HS : Hid (sumI l (k + 1) = sumI l k + powI (l[k]?.getD 0)) := by
          have := sumAll_take (l := l) (k := k) (by rw [← HN.out]; exact hlt)
          show sumI l (k + 1) = _
          unfold sumI powI; rw [this]; exact Int.natCast_add _ _
        clear hc h24
        go_wp2_with (go_at_call 81; refine (power_any _ _ (by omega)).mono ?_; rintro e w' ⟨rfl, rfl⟩)
        go_round
        case rel => exact ⟨k + 1, by omega, by go_num, by rw [HS.out]⟩
        case measure => simp [intOf]; omega
      · obtain rfl : k = n := by omega
        have HE : Hid (sumI l k = ((sumAll l : Nat) : Int)) := by
          show sumI l k = _
          unfold sumI; rw [HN.out, List.take_length]
        go_wp2
        go_ret
        exact ⟨ret_int (by rw [HE.out]), rfl⟩

theorem filter_take {l : List Nat} {k : Nat} (p : Nat → Bool) (h : k < l.length) : (l.take (k + 1)).filter p = (l.take k).filter p ++ (if p (l[k]?.getD 0) then [l[k]?.getD 0] else []) := by
  rw [List.take_succ_eq_append_getElem h, List.filter_append]
  have : l[k]?.getD 0 = l[k] := by simp [h]
  rw [this]
  by_cases hp : p l[k] <;> simp [hp]
def keepUp (l : List Nat) (i : Int) (k : Nat) : List Nat := (l.take k).filter (notI i)
theorem keepUp_length_le (l : List Nat) (i : Int) (k : Nat) : (keepUp l i k).length ≤ k := by
  have := List.length_filter_le (notI i) (l.take k)
  have h2 : (l.take k).length ≤ k := List.length_take_le _ _
  unfold keepUp; omega

end Go.Proofs.YtinegcahhafddaaDoor
