/- The document's answers of the layer formula: Right, Dim, Join; each answer in new memory; nothing that lay before the call turns. -/
import Derived.Test.YtdikaomebbpmhaaGreatFNot
namespace Go.Proofs.YtdikaomebbpmhaaGreat
open Go.RowKit
set_option linter.unusedVariables false
set_option linter.unusedSimpArgs false

set_option maxHeartbeats 1000000 in
theorem rfright_any (l : List C) (v : Value) (w : World) (hv : CRow w v l) (hl : l.length ≤ 100000) :
    Calls Tryz.prog 37 #[v] w fun e w' => e = .returned (.bool (rightF l)) ∧ Below w.heap.size w w' := by
  have c1 := refleastC l v w hv hl
  have hLen := leastF_len l
  have HR : Hid (rightF l = decide (leastF l = (l, 0))) := rfl
  have Hv : Hid (CRow w v l) := hv
  obtain ⟨pa, ca, rfl⟩ := hv.len
  clear hv
  generalize hP : leastF l = P at c1 hLen HR
  have HP : Hid (leastF l = P) := hP
  clear hP
  obtain ⟨M, er⟩ := P
  dsimp only at c1 hLen
  by_cases h0 : er = 0
  · subst h0
    have HE : Hid (rightF l = decide (M = l)) := HR.out.trans (by rw [Bool.eq_iff_iff]; simp)
    go_enter Tryz.func37, Tryz.ntmps37
    go_wp2_with fail
    refine c1.mono ?_
    rintro e w1 ⟨v1, rfl, hO1, hB1⟩
    clear c1
    have c2 := same_any M l v1 _ w1 (OwnsC.row hO1) (Hv.out.below hB1) (by omega)
    obtain ⟨p1, q1, rfl⟩ := OwnsC.len hO1
    go_wp2_with fail
    refine c2.mono ?_
    rintro e w2 ⟨rfl, hB2⟩
    clear c2
    go_wp2
    go_ret
    exact ⟨ret_bool HE.out.symm, chain hB1 hB2⟩
  · have HE : Hid (rightF l = false) := HR.out.trans (by rw [decide_eq_false_iff_not]; intro h; injection h with _ h2; exact h0 h2)
    go_enter Tryz.func37, Tryz.ntmps37
    go_wp2_with fail
    refine c1.mono ?_
    rintro e w1 ⟨v1, rfl, hO1, hB1⟩
    clear c1
    obtain ⟨p1, q1, rfl⟩ := OwnsC.len hO1
    go_wp2
    go_ret
    exact ⟨ret_bool HE.out.symm, hB1⟩

theorem refset1 (k : Nat) (hk : k < 24) (w : World) : Calls Tryz.prog 61 #[.slice (some ⟨w.heap.size, 0, none⟩) 1 1] (w.alloc (.cells #[.int .i64 (k : Int)] 3)) fun e w' => e = .returned (.int .u32 ((bitF k).val : Int)) ∧ w' = w.alloc (.cells #[.int .i64 (k : Int)] 3) := by
  have h := refSet_any [k] (.slice (some ⟨w.heap.size, 0, none⟩) 1 1) (w.alloc (.cells #[.int .i64 (k : Int)] 3)) (.inr ⟨w.heap.size, 1, rfl, by simp, fun j hj => by
    have : j = 0 := by simpa using hj
    subst this
    simp [go_sem]⟩) (by simpa using hk) (by simp)
  have e : sumAll [k] = (bitF k).val := by rw [bitF_val hk]; simp [sumAll, sumFrom]
  rw [e] at h
  exact h
end Go.Proofs.YtdikaomebbpmhaaGreat
