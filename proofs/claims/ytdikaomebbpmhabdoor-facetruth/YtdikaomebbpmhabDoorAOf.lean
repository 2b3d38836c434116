/- The layer face: Of, OfZero, Join, Meet: each answer in new memory; nothing that lay before the call turns. -/
import Derived.Test.YtdikaomebbpmhabDoorABase
namespace Go.Proofs.YtdikaomebbpmhabDoor
open Go.RowKit
set_option linter.unusedVariables false
set_option linter.unusedSimpArgs false

set_option maxHeartbeats 1000000 in
theorem Of_any (l : List C) (v : Value) (w : World) (hv : FRow w v l) (hl : l.length ≤ 40000) :
    Calls Tryd.prog 9 #[v] w fun e w' => ∃ v', e = .returned (.tuple #[v', .int .i64 (ofF l).2]) ∧ OwnsC w' w.heap.size v' (ofF l).1 ∧ Below w.heap.size w w' := by
  have c1 := fright_any l v w hv (by omega)
  have c2 := fun w1 (h : Below w.heap.size w w1) => kept_any 22 #[] can_eg l v okC w1 (hv.row.below h) (by omega) (can_pred w1)
  have hcl : (calmC l).length ≤ 100000 := Nat.le_trans (calm_len _) (by omega)
  have HM : Hid (ofF l = if rightF l then leastF (calmC l) else ([], 2)) := rfl
  have hK : l.filter okC = calmC l := rfl
  rw [hK] at c2
  clear hK
  generalize calmC l = K at c2 hcl HM
  obtain ⟨pa, ca, rfl⟩ := hv.len
  clear hv
  generalize l.length = n at *
  cases hf : rightF l
  · rw [hf] at c1 HM
    go_enter Tryd.func9, Tryd.ntmps9
    go_wp2_with fail
    refine c1.mono ?_
    rintro e w1 ⟨rfl, hB1⟩
    clear c1
    go_wp2
    go_ret2
    rw [HM.out]
    exact ⟨_, rfl, World.ownsRow_nil _ _ _ _, hB1⟩
  · rw [hf] at c1 HM
    go_enter Tryd.func9, Tryd.ntmps9
    go_wp2_with fail
    refine c1.mono ?_
    rintro e w1 ⟨rfl, hB1⟩
    clear c1
    replace c2 := c2 w1 hB1
    go_wp2_with fail
    refine c2.mono ?_
    rintro e w2 ⟨v2, rfl, hO2, hB2⟩
    clear c2
    have cL := leastC K v2 w2 (OwnsC.row hO2) hcl
    obtain ⟨p8, q8, rfl⟩ := OwnsC.len hO2
    go_wp2_with fail
    refine cL.mono ?_
    rintro e w3 ⟨v3, rfl, hO3, hB3⟩
    clear cL
    have hB := chain (chain hB1 hB2) hB3
    go_wp2
    go_ret2
    rw [HM.out]
    exact ⟨_, rfl, OwnsC.mono hO3 (chain hB1 hB2).size, hB⟩
theorem ofZ_ok {l : List C} (h : (notF l).2 = 0) : ofZ l = ofF (notF l).1 := by simp [ofZ, h, ofF, notF_right l]
theorem ofZ_no {l : List C} (h : (notF l).2 ≠ 0) : ofZ l = ([], (notF l).2) := by simp [ofZ, h]
set_option maxHeartbeats 1000000 in
theorem OfZero_any (l : List C) (v : Value) (w : World) (hv : FRow w v l) (hl : l.length ≤ 40000) :
    Calls Tryd.prog 11 #[v] w fun e w' => ∃ v', e = .returned (.tuple #[v', .int .i64 (ofZ l).2]) ∧ OwnsC w' w.heap.size v' (ofZ l).1 ∧ Below w.heap.size w w' := by
  have c1 := Not_any l v w hv hl
  have hLen := notF_len l
  have HY : Hid ((notF l).2 = 0 → ofZ l = ofF (notF l).1) := ofZ_ok
  have HN : Hid ((notF l).2 ≠ 0 → ofZ l = ([], (notF l).2)) := ofZ_no
  obtain ⟨pa, ca, rfl⟩ := hv.len
  clear hv
  generalize notF l = P at c1 hLen HY HN
  obtain ⟨M, er⟩ := P
  dsimp only at c1 hLen HY HN
  generalize l.length = n at *
  by_cases h0 : er = 0
  · subst h0
    have HE : Hid (ofZ l = ofF M) := HY.out rfl
    clear HY HN
    go_enter Tryd.func11, Tryd.ntmps11
    go_wp2_with fail
    refine c1.mono ?_
    rintro e w1 ⟨v1, rfl, hO1, hB1⟩
    clear c1
    have c2 := Of_any M v1 w1 (OwnsC.frow hO1) (by omega)
    obtain ⟨p8, q8, rfl⟩ := OwnsC.len hO1
    go_wp2_with fail
    refine c2.mono ?_
    rintro e w2 ⟨v2, rfl, hO2, hB2⟩
    clear c2
    go_wp2
    go_ret2
    rw [HE.out]
    exact ⟨_, rfl, OwnsC.mono hO2 hB1.size, chain hB1 hB2⟩
  · have HE : Hid (ofZ l = ([], er)) := HN.out h0
    clear HY HN
    have h1 : (er == 0) = false := by simpa using h0
    go_enter Tryd.func11, Tryd.ntmps11
    go_wp2_with fail
    refine c1.mono ?_
    rintro e w1 ⟨v1, rfl, hO1, hB1⟩
    clear c1
    obtain ⟨p8, q8, rfl⟩ := OwnsC.len hO1
    go_wp2
    go_ret2
    rw [HE.out]
    exact ⟨_, rfl, World.ownsRow_nil _ _ _ _, hB1⟩

/-! ### joined, met -/
end Go.Proofs.YtdikaomebbpmhabDoor
