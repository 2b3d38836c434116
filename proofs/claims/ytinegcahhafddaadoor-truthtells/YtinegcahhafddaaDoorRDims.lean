/- The document's answers of the layer formula: Dims. -/
import Derived.Test.YtinegcahhafddaaDoorRForm
import Derived.Test.YtinegcahhafddaaDoorFDims
namespace Go.Proofs.YtinegcahhafddaaDoor
open Go.RowKit
set_option linter.unusedVariables false
set_option linter.unusedSimpArgs false

def dimsTo (l : List C) (k : Nat) : List Nat := (List.range k).filter (fun j => inF l j)
theorem dimsTo_hit {l : List C} {k : Nat} (h : inF l k = true) : dimsTo l (k + 1) = dimsTo l k ++ [k] := by simp [dimsTo, List.range_succ, h]
theorem dimsTo_miss {l : List C} {k : Nat} (h : inF l k = false) : dimsTo l (k + 1) = dimsTo l k := by simp [dimsTo, List.range_succ, h]
theorem dimsTo_length (l : List C) (k : Nat) : (dimsTo l k).length ≤ k := by
  have := List.length_filter_le (fun j => inF l j) (List.range k)
  simpa [dimsTo] using this
theorem dimsTo_sum (l : List C) : sumAll (dimsTo l 24) = dimsN l := by
  unfold dimsTo
  rw [sumAll_eq (List.Nodup.sublist List.filter_sublist List.nodup_range)]
  exact dimsN_orAll l
theorem inF_take_step {l : List C} {q k : Nat} {c : C} (h : l[q]? = some c) : inF (l.take (q + 1)) k = (inF (l.take q) k || (c.1.val.testBit k || c.2.val.testBit k)) := by
  have e : l.take (q + 1) = l.take q ++ [c] := by rw [List.take_add_one, h]; rfl
  rw [e, inF_snoc]

set_option maxRecDepth 100000 in
set_option maxHeartbeats 4000000 in
theorem rDims_any (l : List C) (a : Value) (w : World) (ha : CRow w a l) (hl : l.length ≤ 40000) :
    Calls Tryd.prog 41 #[a] w fun e w' => e = .returned (.int .u32 ((dimsN l : Nat) : Int)) ∧ Below w.heap.size w w' := by
  obtain ⟨i0, hi, hz0, hz1, hz2⟩ := info_parts Tryd.infoInt
  have Ha : Hid (∀ w1, Below w.heap.size w w1 → CRow w1 a l) := fun w1 h => ha.below h
  obtain ⟨pa, ca, rfl⟩ := ha.len
  clear ha
  obtain ⟨n, hn⟩ : ∃ n, n = l.length := ⟨_, rfl⟩
  have Hn : Hid (n = l.length) := hn
  rw [← hn] at hl Ha ⊢
  clear hn
  go_enter Tryd.func41, Tryd.ntmps41
  go_wp2
  go_loopw [3, 4] (fun v i wr => ∃ k : Nat, k ≤ 24 ∧ i = .int .i64 k ∧ wr.ownsRow w.heap.size 3 1 v (dimsTo l k).length ((dimsTo l k).map encI) ∧ Below w.heap.size w wr) (fun _ i _ => 24 - (intOf i).toNat)
  case atStart => exact ⟨0, by omega, rfl, World.ownsRow_nil _ _ _ _, Below.refl _ _⟩
  case round =>
    obtain ⟨k, hk, rfl, hown, hB⟩ := hrel
    have hul := dimsTo_length l k
    by_cases hlt : k < 24
    · have hlt' : (k : Int) < 24 := by omega
      go_wp2
      go_loopw [5, 6] (fun b j wr2 => ∃ q : Nat, q ≤ n ∧ j = .int .i64 q ∧ b = .bool (inF (l.take q) k) ∧ wr2 = wr) (fun _ j _ => n - (intOf j).toNat)
      case atStart => exact ⟨0, Nat.zero_le _, rfl, rfl, rfl⟩
      case round =>
        obtain ⟨q, hq, rfl, rfl, hwr⟩ := hrel
        subst hwr
        by_cases hlq : q < n
        · obtain ⟨c, hcq⟩ := get_some (l := l) (k := q) (by rw [← Hn.out]; exact hlq)
          obtain ⟨g, off, rfl, hg, x0, x1⟩ := (Ha.out _ hB).at hcq
          have HS : Hid (inF (l.take (q + 1)) k = (inF (l.take q) k || (c.1.val.testBit k || c.2.val.testBit k))) := inF_take_step hcq
          have hP : hasB c.1.val (k : Int) = c.1.val.testBit k := hasB_nat hlt
          have hQ : hasB c.2.val (k : Int) = c.2.val.testBit k := hasB_nat hlt
          have hc1 := c.1.isLt
          have hc2 := c.2.isLt
          clear hcq
          generalize inF (l.take q) k = b at HS ⊢
          cases b
          · cases hp : c.1.val.testBit k
            · cases hr : c.2.val.testBit k
              · rw [hp] at hP HS
                rw [hr] at hQ HS
                go_wp2_with (go_at_call 60; refine (refHas_any _ _ _ (by assumption)).mono ?_; rintro e w0 ⟨rfl, hw0⟩; replace hw0 := hw0.symm; subst hw0; first | rw [hP] | rw [hQ])
                go_roundw
                case rel => exact ⟨q + 1, by omega, by go_num, by rw [HS.out]; rfl, by first | trivial | rfl⟩
                case measure => simp [intOf]; omega
              · rw [hp] at hP HS
                rw [hr] at hQ HS
                go_wp2_with (go_at_call 60; refine (refHas_any _ _ _ (by assumption)).mono ?_; rintro e w0 ⟨rfl, hw0⟩; replace hw0 := hw0.symm; subst hw0; first | rw [hP] | rw [hQ])
                go_roundw
                case rel => exact ⟨q + 1, by omega, by go_num, by rw [HS.out]; rfl, by first | trivial | rfl⟩
                case measure => simp [intOf]; omega
            · rw [hp] at hP HS
              go_wp2_with (go_at_call 60; refine (refHas_any _ _ _ (by assumption)).mono ?_; rintro e w0 ⟨rfl, hw0⟩; replace hw0 := hw0.symm; subst hw0; rw [hP])
              go_roundw
              case rel => exact ⟨q + 1, by omega, by go_num, by rw [HS.out]; rfl, by first | trivial | rfl⟩
              case measure => simp [intOf]; omega
          · go_wp2
            go_roundw
            case rel => exact ⟨q + 1, by omega, by go_num, by rw [HS.out]; rfl, by first | trivial | rfl⟩
            case measure => simp [intOf]; omega
        · obtain rfl : q = n := by omega
          have e : l.take q = l := List.take_of_length_le (by rw [← Hn.out]; exact Nat.le_refl _)
          rw [e]
          cases hb : inF l k
          · have HU : Hid (dimsTo l (k + 1) = dimsTo l k) := dimsTo_miss hb
            go_wp2
            go_roundw
            case rel => exact ⟨k + 1, by omega, by go_num, by rw [HU.out]; exact hown, hB⟩
            case measure => simp [intOf]; omega
          · have HU : Hid (dimsTo l (k + 1) = dimsTo l k ++ [k]) := dimsTo_hit hb
            go_wp2_with (at_builtin; refine wpList_append_own _ rfl _ _ 27 rfl w.heap.size 3 i0 (.int .i64 0) 1 8 Tryd.underlying27 hi hz0 hz1 hz2 rfl (by decide) _ _ _ rfl (hown.alloc _) ⟨_, 0, none⟩ 1 1 [.int .i64 k] rfl rfl (cell_one_new _ _ _) (by simp [Value.oneCell']) (by unfold maxLen; omega) (by omega) (by have := hB.size; simp; omega) ?_; intro v' w1 hown' hgrow _)
            go_roundw
            case rel => exact ⟨k + 1, by omega, by go_num, by rw [HU.out]; simpa [encI] using hown', (hB.alloc hB.size _).grown hgrow (by have := hB.size; simp; omega) (fun k' e => (World.ownsRow.lt hown k' e).1)⟩
            case measure => simp [intOf]; omega
    · obtain rfl : k = 24 := by omega
      have hrow : RowAt wr _ (dimsTo l 24) := OwnsL.rowAt hown
      have cS := refSet_any (dimsTo l 24) _ wr hrow (fun j hj => by have := (List.mem_filter.1 hj).1; simpa using this) (by omega)
      rw [dimsTo_sum] at cS
      have hlen := World.ownsRow.lt hown
      go_wp2_with fail
      refine cS.mono ?_
      rintro e w1 ⟨rfl, hw1⟩
      have hB1 : Below w.heap.size w w1 := by rw [hw1]; exact hB
      clear cS hw1
      go_wp2
      go_ret
      exact ⟨rfl, hB1⟩
end Go.Proofs.YtinegcahhafddaaDoor
