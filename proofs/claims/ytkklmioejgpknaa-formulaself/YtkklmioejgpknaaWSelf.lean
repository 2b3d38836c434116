/- The walk of the law FormulaSelf: the call returns true; nothing that lay before it turns. -/
import Derived.Test.YtkklmioejgpknaaFWorks
import Derived.Test.YtkklmioejgpknaaFDims
namespace Go.Proofs.Ytkklmioejgpknaa
open Go.RowKit
set_option linter.unusedVariables false
set_option linter.unusedSimpArgs false

theorem and_bit (s k : Nat) (hs : s < 4294967296) (hk : k < 24) : bits BinOp.and IntKind.u32 (s : Int) (2 ^ k % 4294967296) = ((s &&& 2 ^ k : Nat) : Int) := by
  rw [pow_mod32 k hk, bits_and32 s (2 ^ k) hs (pow_lt k hk)]
theorem and_bit_t (f : List C) (k : Nat) (hk : k < 24) (h : freeL k f) : bits BinOp.and IntKind.u32 ((dimsN f : Nat) : Int) (2 ^ k % 4294967296) = 0 := by
  rw [and_bit _ _ (dimsN_lt32 f) hk, (free_iff hk).2 h]; rfl
theorem and_bit_f (f : List C) (k : Nat) (hk : k < 24) (h : ¬ freeL k f) : bits BinOp.and IntKind.u32 ((dimsN f : Nat) : Int) (2 ^ k % 4294967296) ≠ 0 := by
  rw [and_bit _ _ (dimsN_lt32 f) hk]
  intro e
  exact h ((free_iff hk).1 (by omega))

set_option maxRecDepth 100000 in
set_option maxHeartbeats 2000000 in
theorem self_big0 (l r : List C) (i : Int) (vl vr : Value) (w : World) (Rf : FRow w vl l) (Rr : FRow w vr r) (h : 20 < l.length) :
    Calls Try.prog 8 #[vl, .int .i64 i, vr] w fun e w' => e = .returned (.bool true) ∧ Below w.heap.size w w' := by
  obtain ⟨pl, cl, rfl⟩ := Rf.len
  obtain ⟨pr, cr, rfl⟩ := Rr.len
  clear Rf Rr
  generalize l.length = n1 at *
  generalize r.length = n2 at *
  go_enter Try.func8, Try.ntmps8
  go_wp2_with (go_at_call 10; refine (fworks_any _).mono ?_; rintro e w1 ⟨rfl, hB1⟩)
  go_ret
  exact ⟨rfl, hB1⟩
set_option maxRecDepth 100000 in
set_option maxHeartbeats 2000000 in
theorem self_big1 (l r : List C) (i : Int) (vl vr : Value) (w : World) (Rf : FRow w vl l) (Rr : FRow w vr r) (h0 : ¬ 20 < l.length) (h : 20 < r.length) :
    Calls Try.prog 8 #[vl, .int .i64 i, vr] w fun e w' => e = .returned (.bool true) ∧ Below w.heap.size w w' := by
  obtain ⟨pl, cl, rfl⟩ := Rf.len
  obtain ⟨pr, cr, rfl⟩ := Rr.len
  clear Rf Rr
  generalize l.length = n1 at *
  generalize r.length = n2 at *
  go_enter Try.func8, Try.ntmps8
  go_wp2_with (go_at_call 10; refine (fworks_any _).mono ?_; rintro e w1 ⟨rfl, hB1⟩)
  go_ret
  exact ⟨rfl, hB1⟩
set_option maxRecDepth 100000 in
set_option maxHeartbeats 2000000 in
theorem self_wf (l r : List C) (i : Int) (vl vr : Value) (w : World) (Rf : FRow w vl l) (Rr : FRow w vr r) (h0 : ¬ 20 < l.length) (h1 : ¬ 20 < r.length) (hf : rightF l = false) :
    Calls Try.prog 8 #[vl, .int .i64 i, vr] w fun e w' => e = .returned (.bool true) ∧ Below w.heap.size w w' := by
  have hl2 : ¬ (20 < (l.length : Int)) := by omega
  have hr2 : ¬ (20 < (r.length : Int)) := by omega
  obtain ⟨pl, cl, rfl⟩ := Rf.len
  obtain ⟨pr, cr, rfl⟩ := Rr.len
  go_enter Try.func8, Try.ntmps8
  go_wp2_with fail
  refine (fworks_any w).mono ?_
  rintro e w1 ⟨rfl, hB1⟩
  have c1 := fright_any l _ w1 (Rf.below hB1) (by omega)
  rw [hf] at c1
  go_wp2_with fail
  refine c1.mono ?_
  rintro e w2 ⟨rfl, hB2⟩
  clear c1
  have hB := chain hB1 hB2
  go_wp2
  go_ret
  exact ⟨rfl, hB⟩
set_option maxRecDepth 100000 in
set_option maxHeartbeats 2000000 in
theorem self_wr (l r : List C) (i : Int) (vl vr : Value) (w : World) (Rf : FRow w vl l) (Rr : FRow w vr r) (h0 : ¬ 20 < l.length) (h1 : ¬ 20 < r.length) (hf : rightF l = true) (hg : rightF r = false) :
    Calls Try.prog 8 #[vl, .int .i64 i, vr] w fun e w' => e = .returned (.bool true) ∧ Below w.heap.size w w' := by
  have hl2 : ¬ (20 < (l.length : Int)) := by omega
  have hr2 : ¬ (20 < (r.length : Int)) := by omega
  obtain ⟨pl, cl, rfl⟩ := Rf.len
  obtain ⟨pr, cr, rfl⟩ := Rr.len
  go_enter Try.func8, Try.ntmps8
  go_wp2_with fail
  refine (fworks_any w).mono ?_
  rintro e w1 ⟨rfl, hB1⟩
  have c1 := fright_any l _ w1 (Rf.below hB1) (by omega)
  rw [hf] at c1
  go_wp2_with fail
  refine c1.mono ?_
  rintro e w2 ⟨rfl, hB2⟩
  clear c1
  have hB := chain hB1 hB2
  have c2 := fright_any r _ w2 (Rr.below hB) (by omega)
  rw [hg] at c2
  go_wp2_with fail
  refine c2.mono ?_
  rintro e w3 ⟨rfl, hB3⟩
  clear c2
  replace hB := chain hB hB3
  go_wp2
  go_ret
  exact ⟨rfl, hB⟩
set_option maxRecDepth 100000 in
set_option maxHeartbeats 2000000 in
theorem self_wi0 (l r : List C) (i : Int) (vl vr : Value) (w : World) (Rf : FRow w vl l) (Rr : FRow w vr r) (h0 : ¬ 20 < l.length) (h1 : ¬ 20 < r.length) (hf : rightF l = true) (hg : rightF r = true) (hi : i < 0) :
    Calls Try.prog 8 #[vl, .int .i64 i, vr] w fun e w' => e = .returned (.bool true) ∧ Below w.heap.size w w' := by
  have hl2 : ¬ (20 < (l.length : Int)) := by omega
  have hr2 : ¬ (20 < (r.length : Int)) := by omega
  obtain ⟨pl, cl, rfl⟩ := Rf.len
  obtain ⟨pr, cr, rfl⟩ := Rr.len
  go_enter Try.func8, Try.ntmps8
  go_wp2_with fail
  refine (fworks_any w).mono ?_
  rintro e w1 ⟨rfl, hB1⟩
  have c1 := fright_any l _ w1 (Rf.below hB1) (by omega)
  rw [hf] at c1
  go_wp2_with fail
  refine c1.mono ?_
  rintro e w2 ⟨rfl, hB2⟩
  clear c1
  have hB := chain hB1 hB2
  have c2 := fright_any r _ w2 (Rr.below hB) (by omega)
  rw [hg] at c2
  go_wp2_with fail
  refine c2.mono ?_
  rintro e w3 ⟨rfl, hB3⟩
  clear c2
  replace hB := chain hB hB3
  go_wp2
  go_ret
  exact ⟨rfl, hB⟩
set_option maxRecDepth 100000 in
set_option maxHeartbeats 2000000 in
theorem self_wi1 (l r : List C) (i : Int) (vl vr : Value) (w : World) (Rf : FRow w vl l) (Rr : FRow w vr r) (h0 : ¬ 20 < l.length) (h1 : ¬ 20 < r.length) (hf : rightF l = true) (hg : rightF r = true) (hi0 : ¬ i < 0) (hi : 24 ≤ i) :
    Calls Try.prog 8 #[vl, .int .i64 i, vr] w fun e w' => e = .returned (.bool true) ∧ Below w.heap.size w w' := by
  have hl2 : ¬ (20 < (l.length : Int)) := by omega
  have hr2 : ¬ (20 < (r.length : Int)) := by omega
  obtain ⟨pl, cl, rfl⟩ := Rf.len
  obtain ⟨pr, cr, rfl⟩ := Rr.len
  go_enter Try.func8, Try.ntmps8
  go_wp2_with fail
  refine (fworks_any w).mono ?_
  rintro e w1 ⟨rfl, hB1⟩
  have c1 := fright_any l _ w1 (Rf.below hB1) (by omega)
  rw [hf] at c1
  go_wp2_with fail
  refine c1.mono ?_
  rintro e w2 ⟨rfl, hB2⟩
  clear c1
  have hB := chain hB1 hB2
  have c2 := fright_any r _ w2 (Rr.below hB) (by omega)
  rw [hg] at c2
  go_wp2_with fail
  refine c2.mono ?_
  rintro e w3 ⟨rfl, hB3⟩
  clear c2
  replace hB := chain hB hB3
  go_wp2
  go_ret
  exact ⟨rfl, hB⟩
set_option maxRecDepth 100000 in
set_option maxHeartbeats 8000000 in
theorem self_main (l r : List C) (k : Nat) (vl vr : Value) (w : World) (Rf : FRow w vl l) (Rr : FRow w vr r) (h0 : ¬ 20 < l.length) (h1 : ¬ 20 < r.length) (hf : rightF l = true) (hg : rightF r = true) (hk : k < 24) :
    Calls Try.prog 8 #[vl, .int .i64 (k : Int), vr] w fun e w' => e = .returned (.bool true) ∧ Below w.heap.size w w' := by
  have hk2 : ¬ ((k : Int) < 0) := by omega
  have hk3 : ¬ (24 ≤ (k : Int)) := by omega
  have HD : Hid (dimF (k : Int) = ([posB k], 0)) := by unfold dimF; rw [isDimB_nat hk]; rfl
  have HS : Hid (putF l (k : Int) [posB k] = (l, 0)) := put_self hk hf
  have HT : Hid (Told (putF l (k : Int) r)) := by rw [putF_ok hf hg (isDimB_nat hk)]; exact Told.putR l k r
  have HFree : Hid (freeL k r → freeL k (putF l (k : Int) r).1) := fun h => put_free hk h
  have HSame : Hid (freeL k l → putF l (k : Int) r = (l, 0)) := fun h => put_same hk hf hg h
  have HBt : Hid (∀ f : List C, freeL k f → bits BinOp.and IntKind.u32 ((dimsN f : Nat) : Int) (2 ^ k % 4294967296) = 0) := fun f h => and_bit_t f k hk h
  have HBf : Hid (∀ f : List C, ¬ freeL k f → bits BinOp.and IntKind.u32 ((dimsN f : Nat) : Int) (2 ^ k % 4294967296) ≠ 0) := fun f h => and_bit_f f k hk h
  have hPl := putF_len l (k : Int) r
  have hl2 : ¬ (20 < (l.length : Int)) := by omega
  have hr2 : ¬ (20 < (r.length : Int)) := by omega
  obtain ⟨pl, cl, rfl⟩ := Rf.len
  obtain ⟨pr, cr, rfl⟩ := Rr.len
  go_enter Try.func8, Try.ntmps8
  go_wp2_with fail
  refine (fworks_any w).mono ?_
  rintro e w1 ⟨rfl, hB1⟩
  have c1 := fright_any l _ w1 (Rf.below hB1) (by omega)
  rw [hf] at c1
  go_wp2_with fail
  refine c1.mono ?_
  rintro e w2 ⟨rfl, hB2⟩
  clear c1
  have hB := chain hB1 hB2
  have c2 := fright_any r _ w2 (Rr.below hB) (by omega)
  rw [hg] at c2
  go_wp2_with fail
  refine c2.mono ?_
  rintro e w3 ⟨rfl, hB3⟩
  clear c2
  replace hB := chain hB hB3
  have c3 := dim_any (k : Int) w3
  rw [HD.out] at c3
  dsimp only at c3
  go_wp2_with fail
  refine c3.mono ?_
  rintro e w4 ⟨v4, rfl, hO4, hB4⟩
  clear c3
  replace hB := chain hB hB4
  have c4 := Put_any l [posB k] (k : Int) _ v4 w4 (Rf.below hB) (OwnsC.frow hO4) (by omega) (by simp)
  rw [HS.out] at c4
  dsimp only at c4
  obtain ⟨p4, q4, rfl⟩ := OwnsC.len hO4
  go_wp2_with fail
  refine c4.mono ?_
  rintro e w5 ⟨v5, rfl, hO5, hB5⟩
  clear c4
  replace hB := chain hB hB5
  have c5 := same_any l l v5 _ w5 (OwnsC.row hO5) (Rf.below hB).row (by omega)
  rw [decide_eq_true rfl] at c5
  obtain ⟨p5, q5, rfl⟩ := OwnsC.len hO5
  go_wp2_with fail
  refine c5.mono ?_
  rintro e w6 ⟨rfl, hB6⟩
  clear c5 hO4 hO5
  replace hB := chain hB hB6
  have c6 := Put_any l r (k : Int) _ _ w6 (Rf.below hB) (Rr.below hB) (by omega) (by omega)
  generalize putF l (k : Int) r = P at c6 HT HFree HSame hPl
  obtain ⟨Y, er⟩ := P
  dsimp only at c6 HT HFree HSame hPl
  by_cases h0 : er = 0
  · subst h0
    go_wp2_with fail
    refine c6.mono ?_
    rintro e w7 ⟨v7, rfl, hO7, hB7⟩
    clear c6
    replace hB := chain hB hB7
    obtain ⟨p7, q7, rfl⟩ := OwnsC.len hO7
    have RY := OwnsC.row hO7
    have c7 := Dims_any r _ w7 (Rr.below hB).row (by omega)
    by_cases fr : freeL k r
    · have e1 := HBt.out r fr
      have e2 := HBt.out Y (HFree.out fr)
      generalize dimsN r = dr at c7 e1
      go_wp2_with fail
      refine c7.mono ?_
      rintro e w8 ⟨rfl, hB8⟩
      clear c7
      replace hB := chain hB hB8
      replace RY := RY.below hB8
      have c8 := Dims_any Y _ w8 RY (by omega)
      generalize dimsN Y = dy at c8 e2
      go_wp2_with fail
      refine c8.mono ?_
      rintro e w9 ⟨rfl, hB9⟩
      clear c8
      replace hB := chain hB hB9
      replace RY := RY.below hB9
      have c9 := Dims_any l _ w9 (Rf.below hB).row (by omega)
      by_cases fl : freeL k l
      · have e3 := HBt.out l fl
        have hYl : Hid (Y = l) := by
          have := HSame.out fl
          injection this
        generalize dimsN l = dl at c9 e3
        go_wp2_with fail
        refine c9.mono ?_
        rintro e w10 ⟨rfl, hB10⟩
        clear c9
        replace hB := chain hB hB10
        replace RY := RY.below hB10
        have c10 := same_any Y l _ _ w10 RY (Rf.below hB).row (by omega)
        rw [decide_eq_true hYl.out] at c10
        go_wp2_with fail
        refine c10.mono ?_
        rintro e w11 ⟨rfl, hB11⟩
        clear c10
        replace hB := chain hB hB11
        go_wp2
        go_ret
        exact ⟨rfl, hB⟩
      · have e3 := HBf.out l fl
        generalize dimsN l = dl at c9 e3
        go_wp2_with fail
        refine c9.mono ?_
        rintro e w10 ⟨rfl, hB10⟩
        clear c9
        replace hB := chain hB hB10
        go_wp2
        go_ret
        exact ⟨rfl, hB⟩
    · have e1 := HBf.out r fr
      generalize dimsN r = dr at c7 e1
      go_wp2_with fail
      refine c7.mono ?_
      rintro e w9 ⟨rfl, hB9⟩
      clear c7
      replace hB := chain hB hB9
      replace RY := RY.below hB9
      have c9 := Dims_any l _ w9 (Rf.below hB).row (by omega)
      by_cases fl : freeL k l
      · have e3 := HBt.out l fl
        have hYl : Hid (Y = l) := by
          have := HSame.out fl
          injection this
        generalize dimsN l = dl at c9 e3
        go_wp2_with fail
        refine c9.mono ?_
        rintro e w10 ⟨rfl, hB10⟩
        clear c9
        replace hB := chain hB hB10
        replace RY := RY.below hB10
        have c10 := same_any Y l _ _ w10 RY (Rf.below hB).row (by omega)
        rw [decide_eq_true hYl.out] at c10
        go_wp2_with fail
        refine c10.mono ?_
        rintro e w11 ⟨rfl, hB11⟩
        clear c10
        replace hB := chain hB hB11
        go_wp2
        go_ret
        exact ⟨rfl, hB⟩
      · have e3 := HBf.out l fl
        generalize dimsN l = dl at c9 e3
        go_wp2_with fail
        refine c9.mono ?_
        rintro e w10 ⟨rfl, hB10⟩
        clear c9
        replace hB := chain hB hB10
        go_wp2
        go_ret
        exact ⟨rfl, hB⟩
  · have hE : er = 3 ∧ Y = [] := by
      have := HT.out.no h0
      injection this with h1 h2
      exact ⟨h2, h1⟩
    obtain ⟨rfl, rfl⟩ := hE
    go_wp2_with fail
    refine c6.mono ?_
    rintro e w7 ⟨v7, rfl, hO7, hB7⟩
    clear c6
    replace hB := chain hB hB7
    obtain ⟨p7, q7, rfl⟩ := OwnsC.len hO7
    go_wp2
    go_ret
    exact ⟨rfl, hB⟩

theorem walk_FormulaSelf (l : List C) (vl : Value) (i : Int) (hi : (Lit.int .i64 i).wf = true) (r : List C) (vr : Value) (w : World) (Rf : FRow w vl l) (Rr : FRow w vr r) :
    Calls Try.prog 8 #[vl, .int .i64 i, vr] w fun e w' => e = .returned (.bool true) ∧ Below w.heap.size w w' := by
  by_cases h0 : 20 < l.length
  · exact self_big0 l r i vl vr w Rf Rr h0
  by_cases h1 : 20 < r.length
  · exact self_big1 l r i vl vr w Rf Rr h0 h1
  cases hf : rightF l
  · exact self_wf l r i vl vr w Rf Rr h0 h1 hf
  cases hg : rightF r
  · exact self_wr l r i vl vr w Rf Rr h0 h1 hf hg
  by_cases h2 : i < 0
  · exact self_wi0 l r i vl vr w Rf Rr h0 h1 hf hg h2
  by_cases h3 : 24 ≤ i
  · exact self_wi1 l r i vl vr w Rf Rr h0 h1 hf hg h2 h3
  obtain ⟨k, rfl⟩ : ∃ k : Nat, i = (k : Int) := ⟨i.toNat, by omega⟩
  exact self_main l r k vl vr w Rf Rr h0 h1 hf hg (by omega)
end Go.Proofs.Ytkklmioejgpknaa
