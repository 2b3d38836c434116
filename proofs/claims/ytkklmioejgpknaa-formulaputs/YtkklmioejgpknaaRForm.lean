/- The document's answers of the layer formula: Right, Dim, Join; each answer in new memory; nothing that lay before the call turns. -/
import Derived.Test.YtkklmioejgpknaaFNot
import Derived.Test.YtkklmioejgpknaaCRef
namespace Go.Proofs.Ytkklmioejgpknaa
open Go.RowKit
set_option linter.unusedVariables false
set_option linter.unusedSimpArgs false

set_option maxHeartbeats 1000000 in
theorem rfright_any (l : List C) (v : Value) (w : World) (hv : CRow w v l) (hl : l.length ≤ 100000) :
    Calls Try.prog 19 #[v] w fun e w' => e = .returned (.bool (rightF l)) ∧ Below w.heap.size w w' := by
  have c1 := refleastC l v w hv hl
  have hLen := leastF_len l
  have HR : Hid (rightF l = decide (leastF l = (l, 0))) := rfl
  have Hv : Hid (CRow w v l) := hv
  obtain ⟨pa, ca, rfl⟩ := hv.len
  clear hv
  generalize hP : leastF l = P at c1 hLen HR
  have HP : Hid (leastF l = P) := hP
  clear hP
  obtain ⟨M, er⟩ := P
  dsimp only at c1 hLen
  by_cases h0 : er = 0
  · subst h0
    have HE : Hid (rightF l = decide (M = l)) := HR.out.trans (by rw [Bool.eq_iff_iff]; simp)
    go_enter Try.func19, Try.ntmps19
    go_wp2_with fail
    refine c1.mono ?_
    rintro e w1 ⟨v1, rfl, hO1, hB1⟩
    clear c1
    have c2 := same_any M l v1 _ w1 (OwnsC.row hO1) (Hv.out.below hB1) (by omega)
    obtain ⟨p1, q1, rfl⟩ := OwnsC.len hO1
    go_wp2_with fail
    refine c2.mono ?_
    rintro e w2 ⟨rfl, hB2⟩
    clear c2
    go_wp2
    go_ret
    exact ⟨ret_bool HE.out.symm, chain hB1 hB2⟩
  · have HE : Hid (rightF l = false) := HR.out.trans (by rw [decide_eq_false_iff_not]; intro h; injection h with _ h2; exact h0 h2)
    go_enter Try.func19, Try.ntmps19
    go_wp2_with fail
    refine c1.mono ?_
    rintro e w1 ⟨v1, rfl, hO1, hB1⟩
    clear c1
    obtain ⟨p1, q1, rfl⟩ := OwnsC.len hO1
    go_wp2
    go_ret
    exact ⟨ret_bool HE.out.symm, hB1⟩

theorem refset1 (k : Nat) (hk : k < 24) (w : World) : Calls Try.prog 38 #[.slice (some ⟨w.heap.size, 0, none⟩) 1 1] (w.alloc (.cells #[.int .i64 (k : Int)] 3)) fun e w' => e = .returned (.int .u32 ((bitF k).val : Int)) ∧ w' = w.alloc (.cells #[.int .i64 (k : Int)] 3) := by
  have h := refSet_any [k] (.slice (some ⟨w.heap.size, 0, none⟩) 1 1) (w.alloc (.cells #[.int .i64 (k : Int)] 3)) (.inr ⟨w.heap.size, 1, rfl, by simp, fun j hj => by
    have : j = 0 := by simpa using hj
    subst this
    simp [go_sem]⟩) (by simpa using hk) (by simp)
  have e : sumAll [k] = (bitF k).val := by rw [bitF_val hk]; simp [sumAll, sumFrom]
  rw [e] at h
  exact h
set_option maxHeartbeats 1000000 in
theorem rDim_any (i : Int) (w : World) : Calls Try.prog 16 #[.int .i64 i] w fun e w' => ∃ v, e = .returned (.tuple #[v, .int .i64 (dimF i).2]) ∧ OwnsC w' w.heap.size v (dimF i).1 ∧ Below w.heap.size w w' := by
  by_cases h1 : i < 0
  · have H : Hid (dimF i = ([], 2)) := by unfold dimF; exact if_neg (by rw [isDimB_lo h1]; simp)
    go_enter Try.func16, Try.ntmps16
    go_wp2
    go_ret2
    rw [H.out]
    exact ⟨_, rfl, World.ownsRow_nil _ _ _ _, Below.refl _ _⟩
  · by_cases h2 : 24 ≤ i
    · have H : Hid (dimF i = ([], 2)) := by unfold dimF; exact if_neg (by rw [isDimB_hi h2]; simp)
      go_enter Try.func16, Try.ntmps16
      go_wp2
      go_ret2
      rw [H.out]
      exact ⟨_, rfl, World.ownsRow_nil _ _ _ _, Below.refl _ _⟩
    · obtain ⟨k, rfl⟩ : ∃ k : Nat, i = (k : Int) := ⟨i.toNat, by omega⟩
      have hk : k < 24 := by omega
      have H : Hid (dimF (k : Int) = ([posB k], 0)) := by unfold dimF; rw [isDimB_nat hk]; rfl
      have cS := refset1 k hk w
      go_enter Try.func16, Try.ntmps16
      go_wp2_with fail
      refine cS.mono ?_
      rintro e w1 ⟨rfl, hw1⟩
      have hB1 : Below w.heap.size w w1 := by rw [hw1]; exact below_alloc _ _
      clear hw1 cS
      go_wp2
      go_ret2
      rw [H.out]
      exact ⟨_, rfl, own_one1 w1 (posB k) _ hB1.size, chain hB1 (below_alloc _ _)⟩

set_option maxHeartbeats 1000000 in
theorem rJoin_any (l m : List C) (a b : Value) (w : World) (ha : CRow w a l) (hb : CRow w b m) (hl : l.length ≤ 40000) (hm : m.length ≤ 40000) :
    Calls Try.prog 12 #[a, b] w fun e w' => ∃ v, e = .returned (.tuple #[v, .int .i64 (joinF l m).2]) ∧ OwnsC w' w.heap.size v (joinF l m).1 ∧ Below w.heap.size w w' := by
  have c1 := rfright_any l a w ha (by omega)
  have c2 := fun w1 (h : Below w.heap.size w w1) => rfright_any m b w1 (hb.below h) (by omega)
  have Ha : Hid (∀ w1, Below w.heap.size w w1 → CRow w1 a l) := fun w1 h => ha.below h
  have Hb : Hid (∀ w1, Below w.heap.size w w1 → CRow w1 b m) := fun w1 h => hb.below h
  have Hl : Hid (l.length ≤ 40000) := hl
  have Hm : Hid (m.length ≤ 40000) := hm
  obtain ⟨pa, ca, rfl⟩ := ha.len
  obtain ⟨pb, cb, rfl⟩ := hb.len
  have HJ : Hid (joinF l m = if rightF l && rightF m then joinR l m else ([], 2)) := rfl
  clear ha hb hl hm
  generalize l.length = n1 at c1 Ha ⊢
  generalize m.length = n2 at c2 Hb ⊢
  cases hf : rightF l
  · rw [hf] at c1 HJ
    go_enter Try.func12, Try.ntmps12
    go_wp2_with fail
    refine c1.mono ?_
    rintro e w1 ⟨rfl, hB1⟩
    clear c1
    go_wp2
    go_ret2
    rw [HJ.out]
    exact ⟨_, rfl, World.ownsRow_nil _ _ _ _, hB1⟩
  · cases hg : rightF m
    · rw [hf] at c1 HJ
      rw [hg] at HJ
      simp only [hg] at c2
      go_enter Try.func12, Try.ntmps12
      go_wp2_with fail
      refine c1.mono ?_
      rintro e w1 ⟨rfl, hB1⟩
      clear c1
      replace c2 := c2 w1 hB1
      go_wp2_with fail
      refine c2.mono ?_
      rintro e w2 ⟨rfl, hB2⟩
      clear c2
      go_wp2
      go_ret2
      rw [HJ.out]
      exact ⟨_, rfl, World.ownsRow_nil _ _ _ _, chain hB1 hB2⟩
    · rw [hf] at c1 HJ
      rw [hg] at HJ
      simp only [hg] at c2
      go_enter Try.func12, Try.ntmps12
      go_wp2_with fail
      refine c1.mono ?_
      rintro e w1 ⟨rfl, hB1⟩
      clear c1
      replace c2 := c2 w1 hB1
      go_wp2_with fail
      refine c2.mono ?_
      rintro e w2 ⟨rfl, hB2⟩
      clear c2
      have hB := chain hB1 hB2
      have hE : OwnsC (w2.alloc (.cells #[] 52)) w.heap.size (.slice (some ⟨w2.heap.size, 0, none⟩) 0 0) [] := empty_row w2 _ hB.size
      have hB3 := chain hB (below_alloc w2 (.cells #[] 52))
      go_wp2_with (first
        | (at_builtin; refine wpList_append_row rfl _ _ rfl w.heap.size _ _ [] l rfl rfl hE (Ha.out _ hB3) (by have := Hl.out; simp; omega) hB3.size ?_; intro v4 w4 hO4 hg4 hv4; have hB4 := hB3.trans (own_grown hE hg4 hB3.size))
        | (at_builtin; refine wpList_append_row rfl _ _ rfl w.heap.size _ _ _ m rfl rfl hO4 (Hb.out _ hB4) (by have := Hl.out; have := Hm.out; simp; omega) hB4.size ?_; intro v5 w5 hO5 hg5 hv5; have hB5 := hB4.trans (own_grown hO4 hg5 hB4.size))
        | (go_at_call 33; refine (refleastC _ _ _ (OwnsC.row hO5) (by have := Hl.out; have := Hm.out; simp; omega)).mono ?_; rintro e w6 ⟨v6, rfl, hO6, hB6⟩))
      go_ret2
      rw [HJ.out]
      exact ⟨_, rfl, OwnsC.mono hO6 hB5.size, chain hB5 hB6⟩
end Go.Proofs.Ytkklmioejgpknaa
