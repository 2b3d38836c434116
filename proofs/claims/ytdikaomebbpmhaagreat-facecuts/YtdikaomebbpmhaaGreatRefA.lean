/- The document's answer: List, Set, Without, With, Free: what they hand back; nothing that lay before the call turns. -/
import Derived.WalkKit
import Derived.Maps.AppendAt
import Derived.RangeFuncBox
import Derived.Test.YtdikaomebbpmhaaGreatProg
import Derived.Test.YtdikaomebbpmhaaGreatMathAll
import Derived.Test.YtdikaomebbpmhaaGreatBase
import Derived.Test.YtdikaomebbpmhaaGreatBaseA
import Derived.Test.YtdikaomebbpmhaaGreatSlices
namespace Go.Proofs.YtdikaomebbpmhaaGreat
open Go.RowKit

def upTo (s k : Nat) : List Nat := (List.range k).filter (fun k => s.testBit k)
theorem upTo_24 (s : Nat) : upTo s 24 = dimsOf s := rfl
theorem upTo_hit {s k : Nat} (h : s.testBit k = true) : upTo s (k + 1) = upTo s k ++ [k] := by simp [upTo, List.range_succ, h]
theorem upTo_miss {s k : Nat} (h : s.testBit k = false) : upTo s (k + 1) = upTo s k := by simp [upTo, List.range_succ, h]
theorem upTo_length_le (s k : Nat) : (upTo s k).length ≤ k := by
  have := List.length_filter_le (fun k => s.testBit k) (List.range k)
  simpa [upTo] using this

set_option maxRecDepth 100000 in
set_option maxHeartbeats 1000000 in
theorem refList_any (s : Nat) (w : World) (hs : s < 4294967296) :
    Calls Tryz.prog 50 #[.int .u32 s] w fun e w' => ∃ v, e = .returned v ∧ OwnsL w' w.heap.size v (dimsOf s) ∧ Below w.heap.size w w' := by
  obtain ⟨i0, hi, hz0, hz1, hz2⟩ := info_parts Tryz.infoInt
  go_enter Tryz.func50, Tryz.ntmps50
  go_wp2
  go_loopw [3, 4] (fun v i wr => ∃ k : Nat, k ≤ 24 ∧ i = .int .i64 k ∧ wr.ownsRow w.heap.size 3 1 v (upTo s k).length ((upTo s k).map encI) ∧ Below w.heap.size w wr) (fun _ i _ => 24 - (intOf i).toNat)
  case atStart => exact ⟨0, by omega, rfl, World.ownsRow_nil _ _ _ _, Below.refl _ _⟩
  case round =>
    obtain ⟨k, hk, rfl, hown, hB⟩ := hrel
    have hul := upTo_length_le s k
    by_cases hlt : k < 24
    · by_cases hb : s.testBit k = true
      · have hh : hasB s (k : Int) = true := by rw [hasB_nat hlt]; exact hb
        have HU : Hid (upTo s (k + 1) = upTo s k ++ [k]) := upTo_hit hb
        clear hb
        go_wp2_with (first
          | (go_at_call 31; refine (refHas_any _ _ _ hs).mono ?_; rintro e w' ⟨rfl, rfl⟩; rw [hh])
          | (at_builtin; refine wpList_append_own _ rfl _ _ 55 rfl w.heap.size 3 i0 (.int .i64 0) 1 8 Tryz.underlying55 hi hz0 hz1 hz2 rfl (by decide) _ _ _ rfl (hown.alloc _) ⟨_, 0, none⟩ 1 1 [.int .i64 k] rfl rfl (cell_one_new _ _ _) (by simp [Value.oneCell']) (by unfold maxLen; omega) (by omega) (by have := hB.size; simp; omega) ?_; intro v' w1 hown' hgrow _))
        go_roundw
        case rel => exact ⟨k + 1, by omega, by go_num, by rw [HU.out]; simpa [encI] using hown', (hB.alloc hB.size _).grown hgrow (by have := hB.size; simp; omega) (fun k' e => (World.ownsRow.lt hown k' e).1)⟩
        case measure => simp [intOf]; omega
      · have hb : s.testBit k = false := by simpa using hb
        have hh : hasB s (k : Int) = false := by rw [hasB_nat hlt]; exact hb
        have HU : Hid (upTo s (k + 1) = upTo s k) := upTo_miss hb
        clear hb
        go_wp2_with (go_at_call 31; refine (refHas_any _ _ _ hs).mono ?_; rintro e w' ⟨rfl, rfl⟩; rw [hh])
        go_roundw
        case rel => exact ⟨k + 1, by omega, by go_num, by rw [HU.out]; exact hown, hB⟩
        case measure => simp [intOf]; omega
    · obtain rfl : k = 24 := by omega
      go_wp2
      go_ret
      exact ⟨_, rfl, hown, hB⟩

theorem sumAll_take {l : List Nat} {k : Nat} (h : k < l.length) : sumAll (l.take (k + 1)) = sumAll (l.take k) + 2 ^ (l[k]?.getD 0) := by
  rw [List.take_succ_eq_append_getElem h, sumAll_snoc]; simp [h]
theorem sumAll_bd {l : List Nat} (h : ∀ k ∈ l, k < 24) (hl : l.length ≤ 64) (k : Nat) : sumAll (l.take k) ≤ 1073741824 := by
  have h1 := sumFrom_le (l.take k) (fun x hx => h x (List.mem_of_mem_take hx)) 0
  have h2 : (l.take k).length ≤ l.length := by simp; omega
  unfold sumAll; omega
theorem getD_lt {l : List Nat} (h : ∀ k ∈ l, k < 24) {k : Nat} (hk : k < l.length) : l[k]?.getD 0 < 24 := by
  have : l[k]?.getD 0 = l[k] := by simp [hk]
  rw [this]; exact h _ (List.getElem_mem hk)
def sumI (l : List Nat) (k : Nat) : Int := (sumAll (l.take k) : Int)

set_option maxRecDepth 100000 in
set_option maxHeartbeats 1000000 in
theorem refSet_any (l : List Nat) (v : Value) (w : World) (hr : RowAt w v l) (h24 : ∀ k ∈ l, k < 24) (hl : l.length ≤ 64) :
    Calls Tryz.prog 61 #[v] w fun e w' => e = .returned (.int .u32 (sumAll l : Nat)) ∧ w' = w := by
  rcases hr with ⟨rfl, rfl⟩ | ⟨g, cap, rfl, hg, hc⟩
  · go_enter Tryz.func61, Tryz.ntmps61
    go_wp2
    go_loop [3, 4] (fun n i => i = .int .i64 0 ∧ n = .int .i64 0) (fun _ _ => 0)
    case atStart => exact ⟨rfl, rfl⟩
    case round =>
      obtain ⟨rfl, rfl⟩ := hrel
      go_wp2
      go_ret
      exact ⟨rfl, rfl⟩
  · obtain ⟨n, hn⟩ : ∃ n, n = l.length := ⟨_, rfl⟩
    rw [← hn] at hc hl ⊢
    have HN : Hid (n = l.length) := hn
    clear hn
    go_enter Tryz.func61, Tryz.ntmps61
    go_wp2
    go_loop [3, 4] (fun m i => ∃ k : Nat, k ≤ n ∧ i = .int .i64 k ∧ m = .int .i64 (sumI l k)) (fun _ i => n - (intOf i).toNat)
    case atStart => exact ⟨0, Nat.zero_le _, rfl, rfl⟩
    case round =>
      obtain ⟨k, hk, rfl, rfl⟩ := hrel
      have hsb : 0 ≤ sumI l k ∧ sumI l k ≤ 1073741824 := by
        have := sumAll_bd h24 (by rw [← HN.out]; exact hl) k
        unfold sumI; omega
      by_cases hlt : k < n
      · have hck := hc k hlt
        have hx : l[k]?.getD 0 < 24 := getD_lt h24 (by rw [← HN.out]; exact hlt)
        have hp := powI_bd (n := l[k]?.getD 0) (by omega)
        have HS : Hid (sumI l (k + 1) = sumI l k + powI (l[k]?.getD 0)) := by
          have := sumAll_take (l := l) (k := k) (by rw [← HN.out]; exact hlt)
          show sumI l (k + 1) = _
          unfold sumI powI; rw [this]; exact Int.natCast_add _ _
        clear hc h24
        go_wp2_with (go_at_call 55; refine (power_any _ _ (by omega)).mono ?_; rintro e w' ⟨rfl, rfl⟩)
        go_round
        case rel => exact ⟨k + 1, by omega, by go_num, by rw [HS.out]⟩
        case measure => simp [intOf]; omega
      · obtain rfl : k = n := by omega
        have HE : Hid (sumI l k = ((sumAll l : Nat) : Int)) := by
          show sumI l k = _
          unfold sumI; rw [HN.out, List.take_length]
        go_wp2
        go_ret
        exact ⟨ret_int (by rw [HE.out]), rfl⟩

theorem filter_take {l : List Nat} {k : Nat} (p : Nat → Bool) (h : k < l.length) : (l.take (k + 1)).filter p = (l.take k).filter p ++ (if p (l[k]?.getD 0) then [l[k]?.getD 0] else []) := by
  rw [List.take_succ_eq_append_getElem h, List.filter_append]
  have : l[k]?.getD 0 = l[k] := by simp [h]
  rw [this]
  by_cases hp : p l[k] <;> simp [hp]
def keepUp (l : List Nat) (i : Int) (k : Nat) : List Nat := (l.take k).filter (notI i)
theorem keepUp_length_le (l : List Nat) (i : Int) (k : Nat) : (keepUp l i k).length ≤ k := by
  have := List.length_filter_le (notI i) (l.take k)
  have h2 : (l.take k).length ≤ k := List.length_take_le _ _
  unfold keepUp; omega

set_option maxRecDepth 100000 in
set_option maxHeartbeats 1000000 in
theorem refWithout_any (s : Nat) (i : Int) (w : World) (hs : s < 4294967296) :
    Calls Tryz.prog 38 #[.int .u32 s, .int .i64 i] w fun e w' => e = .returned (.int .u32 (withoutN s i : Nat)) ∧ Below w.heap.size w w' := by
  obtain ⟨i0, hi, hz0, hz1, hz2⟩ := info_parts Tryz.infoInt
  have h24 : ∀ k ∈ keepUp (dimsOf s) i (dimsOf s).length, k < 24 := fun k hk => dimsOf_lt k (List.mem_of_mem_take (List.mem_filter.1 hk).1)
  have hEnd : sumAll (keepUp (dimsOf s) i (dimsOf s).length) = withoutN s i := by
    unfold keepUp
    rw [List.take_length, sumAll_eq (sorted_nodup (List.Pairwise.filter _ (dimsOf_sorted s))), orAll_dims_withoutN]
  have hkl := keepUp_length_le (dimsOf s) i (dimsOf s).length
  have hdl := dimsOf_length_le s
  have H24 : Hid (∀ k ∈ keepUp (dimsOf s) i (dimsOf s).length, k < 24) := h24
  have HE : Hid (sumAll (keepUp (dimsOf s) i (dimsOf s).length) = withoutN s i) := hEnd
  clear h24 hEnd
  go_enter Tryz.func38, Tryz.ntmps38
  go_wp2_with (go_at_call 50; refine (refList_any _ _ hs).mono ?_; rintro e w1 ⟨v, rfl, hL, hB1⟩)
  rcases hL.rowAt with ⟨rfl, hnil⟩ | ⟨g, cap, rfl, hg, hc⟩
  · go_loopw [6, 7] (fun v i wr => i = .int .i64 0 ∧ v = .slice none 0 0 ∧ wr = w1) (fun _ _ _ => 0)
    case atStart => exact ⟨rfl, rfl, rfl⟩
    case round =>
      obtain ⟨rfl, rfl, rfl⟩ := hrel
      have hW0 : withoutN s i = 0 := by rw [← HE.out, hnil]; rfl
      have HW : Hid (withoutN s i = 0) := hW0
      clear hW0 hnil
      go_wp2_with (go_at_call 61; refine (refSet_any [] _ _ (.inl ⟨rfl, rfl⟩) (by simp) (by simp)).mono ?_; rintro e w' ⟨rfl, rfl⟩)
      go_ret
      exact ⟨ret_int (by rw [HW.out]; rfl), hB1⟩
  · obtain ⟨l, hl⟩ : ∃ l, l = dimsOf s := ⟨_, rfl⟩
    rw [← hl] at hc H24 HE hL hkl hdl ⊢
    obtain ⟨n, hn⟩ : ∃ n, n = l.length := ⟨_, rfl⟩
    rw [← hn] at hc H24 HE hkl hdl ⊢
    have HN : Hid (n = l.length) := hn
    clear hn hl hL
    go_loopw [6, 7] (fun v i' wr => ∃ k : Nat, k ≤ n ∧ i' = .int .i64 k ∧ wr.ownsRow w1.heap.size 3 1 v (keepUp l i k).length ((keepUp l i k).map encI) ∧ Below w1.heap.size w1 wr) (fun _ i _ => n - (intOf i).toNat)
    case atStart => exact ⟨0, by omega, rfl, World.ownsRow_nil _ _ _ _, Below.refl _ _⟩
    case round =>
      obtain ⟨k, hk, rfl, hown, hB⟩ := hrel
      have hul := keepUp_length_le l i k
      by_cases hlt : k < n
      · have hck : wr.cell? ⟨g, k, none⟩ = some (.int .i64 ((l[k]?.getD 0 : Nat) : Int)) := (hB.cell (p := ⟨g, k, none⟩) hg).trans (hc k hlt)
        have hft := filter_take (l := l) (k := k) (notI i) (by rw [← HN.out]; exact hlt)
        obtain ⟨x, hx⟩ : ∃ x, x = l[k]?.getD 0 := ⟨_, rfl⟩
        rw [← hx] at hck hft
        by_cases hne : ((x : Int) != i) = true
        · have hp : notI i x = true := by
            have : (x : Int) ≠ i := by simpa using hne
            simpa [notI] using fun h => this h.symm
          have HU : Hid (keepUp l i (k + 1) = keepUp l i k ++ [x]) := by show keepUp l i (k + 1) = _; unfold keepUp; rw [hft, hp]; rfl
          clear hft hc hx hp
          go_wp2_with (at_builtin; refine wpList_append_own _ rfl _ _ 55 rfl w1.heap.size 3 i0 (.int .i64 0) 1 8 Tryz.underlying55 hi hz0 hz1 hz2 rfl (by decide) _ _ _ rfl (hown.alloc _) ⟨_, 0, none⟩ 1 1 [.int .i64 x] rfl rfl (cell_one_new _ _ _) (by simp [Value.oneCell']) (by unfold maxLen; omega) (by omega) (by have := hB.size; simp; omega) ?_; intro v' w2 hown' hgrow _)
          go_roundw
          case rel => exact ⟨k + 1, by omega, by go_num, by rw [HU.out]; simpa [encI] using hown', (hB.alloc hB.size _).grown hgrow (by have := hB.size; simp; omega) (fun k' e => (World.ownsRow.lt hown k' e).1)⟩
          case measure => simp [intOf]; omega
        · have hne : ((x : Int) != i) = false := by simpa using hne
          have hp : notI i x = false := by
            have : (x : Int) = i := by simpa using hne
            simp [notI, this]
          have HU : Hid (keepUp l i (k + 1) = keepUp l i k) := by show keepUp l i (k + 1) = _; unfold keepUp; rw [hft, hp]; simp
          clear hft hc hx hp
          go_wp2
          go_roundw
          case rel => exact ⟨k + 1, by omega, by go_num, by rw [HU.out]; exact hown, hB⟩
          case measure => simp [intOf]; omega
      · obtain rfl : k = n := by omega
        have hL : OwnsL wr w1.heap.size _ (keepUp l i k) := hown
        have hR := hL.rowAt
        clear hL hown
        go_wp2_with (go_at_call 61; refine (refSet_any _ _ _ hR H24.out (by omega)).mono ?_; rintro e w' ⟨rfl, rfl⟩)
        go_ret
        exact ⟨ret_int (by rw [HE.out]), hB1.trans (hB.mono hB1.size)⟩
end Go.Proofs.YtdikaomebbpmhaaGreat
