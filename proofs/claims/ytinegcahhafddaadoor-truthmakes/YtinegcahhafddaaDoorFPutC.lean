/- Put, whole. -/
import Derived.Test.YtinegcahhafddaaDoorFPutB
namespace Go.Proofs.YtinegcahhafddaaDoor
open Go.RowKit Go.Shelf
set_option linter.unusedVariables false
set_option linter.unusedSimpArgs false

theorem OwnsC.set {W : World} {base : Nat} {v : Value} {u : List C} (h : OwnsC W base v u) {b : Nat} (hne : v.ownBlock ≠ some b) (x : Value) : OwnsC (W.setCell ⟨b, 0, none⟩ x) base v u :=
  World.ownsRow.kept h (grownBy_setCell' W b x) (.inr hne)
set_option maxRecDepth 100000 in
set_option maxHeartbeats 2000000 in
theorem Put_any (l r : List C) (i : Int) (vl vr : Value) (w : World) (hl : FRow w vl l) (hr : FRow w vr r) (hll : l.length ≤ 40000) (hrl : r.length ≤ 40000) :
    Calls Tryd.prog 26 #[vl, .int .i64 i, vr] w fun e w' => ∃ v, e = .returned (.tuple #[v, .int .i64 (putF l i r).2]) ∧ OwnsC w' w.heap.size v (putF l i r).1 ∧ Below w.heap.size w w' := by
  have HJ : Hid (putF l i r = if rightF l && rightF r && isDimB i then putR l i r else ([], 2)) := rfl
  have HLen : Hid (rightF r = true → r.length ≤ 64) := fun h => rightF_len h
  have eg : ∀ args w, (callFunc 47 args).run Tryd.prog w = .ok (.enter 47 args) w := enters_of Tryd.func47 (by kernel_rfl) rfl
  have hB : Below w.heap.size w ((w.alloc (.cells #[.int .i64 i] 3)).alloc (.cells #[vr] 26)) := (below_alloc w _).alloc (by simp) _
  have b1 : Boxed ((w.alloc (.cells #[.int .i64 i] 3)).alloc (.cells #[vr] 26)) w.heap.size 3 (.int .i64 i) := (Boxed.new w _ _).alloc _
  have b2 : Boxed ((w.alloc (.cells #[.int .i64 i] 3)).alloc (.cells #[vr] 26)) (w.heap.size + 1) 26 vr := by
    have h := Boxed.new (w.alloc (.cells #[.int .i64 i] 3)) 26 vr
    rw [World.size_alloc] at h
    exact h
  have c1 := fun W (h : Below w.heap.size w W) => fright_any l vl W (hl.below h) (by omega)
  have c2 := fun W (h : Below w.heap.size w W) => fright_any r vr W (hr.below h) (by omega)
  have c3 := has_all i
  have c4 := fun W (h : Below w.heap.size w W) (hp : PredBelow Tryd.prog 47 #[.pointer (some ⟨w.heap.size, 0, none⟩)] (fun x => .agg (encC x).toArray) (fun x => hasB x.2.val i) W) => has_row l vl W (hl.row.below h) (by omega) _ _ _ eg hp
  have c5 := fun W (h : Below w.heap.size w W) => fnot_any r vr W (hr.row.below h) (by omega)
  have c6 := fun (n : List C) (vn : Value) (B3 : Nat) W (h : Below w.heap.size w W) (b1 : Boxed W w.heap.size 3 (.int .i64 i)) (b2 : Boxed W (w.heap.size + 1) 26 vr) (b3 : Boxed W B3 26 vn) (hn : CRow W vn n) (lr : r.length ≤ 64) (rn : rightF n = true) =>
    fold_put l vl i r n vr vn w.heap.size (w.heap.size + 1) B3 W (hl.row.below h) (by omega) b1 b2 b3 (hr.row.below h) hn lr rn
  obtain ⟨pl, cl, rfl⟩ := hl.len
  obtain ⟨pr, cr, rfl⟩ := hr.len
  clear hl hr eg
  generalize l.length = n1 at *
  generalize hn2 : r.length = n2 at *
  clear hn2
  cases hf : rightF l
  · rw [hf] at HJ
    go_enter Tryd.func26, Tryd.ntmps26
    go_wp2_with fail
    generalize ((w.alloc (.cells #[.int .i64 i] 3)).alloc (.cells #[Value.slice pr n2 cr] 26)) = wb at hB b1 b2 ⊢
    refine (c1 wb hB).mono ?_
    rintro e w1 ⟨rfl, hB1⟩
    rw [hf]
    clear c1
    replace b1 := boxed_below b1 hB1
    replace b2 := boxed_below b2 hB1
    replace hB := chain hB hB1
    have y1 := b1.cell
    have y2 := b2.cell
    go_wp2
    go_ret2
    rw [HJ.out]
    exact ⟨_, rfl, World.ownsRow_nil _ _ _ _, hB⟩
  · cases hg : rightF r
    · rw [hf, hg] at HJ
      go_enter Tryd.func26, Tryd.ntmps26
      go_wp2_with fail
      generalize ((w.alloc (.cells #[.int .i64 i] 3)).alloc (.cells #[Value.slice pr n2 cr] 26)) = wb at hB b1 b2 ⊢
      refine (c1 wb hB).mono ?_
      rintro e w1 ⟨rfl, hB1⟩
      rw [hf]
      clear c1
      replace b1 := boxed_below b1 hB1
      replace b2 := boxed_below b2 hB1
      replace hB := chain hB hB1
      have y1 := b1.cell
      have y2 := b2.cell
      go_wp2_with fail
      refine (c2 w1 hB).mono ?_
      rintro e w2 ⟨rfl, hB2⟩
      rw [hg]
      clear c2 y1 y2
      replace b1 := boxed_below b1 hB2
      replace b2 := boxed_below b2 hB2
      replace hB := chain hB hB2
      have y1 := b1.cell
      have y2 := b2.cell
      go_wp2
      go_ret2
      rw [HJ.out]
      exact ⟨_, rfl, World.ownsRow_nil _ _ _ _, hB⟩
    · cases hd : isDimB i
      · rw [hf, hg, hd] at HJ
        go_enter Tryd.func26, Tryd.ntmps26
        go_wp2_with fail
        generalize ((w.alloc (.cells #[.int .i64 i] 3)).alloc (.cells #[Value.slice pr n2 cr] 26)) = wb at hB b1 b2 ⊢
        refine (c1 wb hB).mono ?_
        rintro e w1 ⟨rfl, hB1⟩
        rw [hf]
        clear c1
        replace b1 := boxed_below b1 hB1
        replace b2 := boxed_below b2 hB1
        replace hB := chain hB hB1
        have y1 := b1.cell
        have y2 := b2.cell
        go_wp2_with fail
        refine (c2 w1 hB).mono ?_
        rintro e w2 ⟨rfl, hB2⟩
        rw [hg]
        clear c2 y1 y2
        replace b1 := boxed_below b1 hB2
        replace b2 := boxed_below b2 hB2
        replace hB := chain hB hB2
        have y1 := b1.cell
        have y2 := b2.cell
        go_wp2_with fail
        refine (c3 w2).mono ?_
        rintro e w0 ⟨rfl, hw0⟩
        replace hw0 := hw0.symm
        subst hw0
        rw [hd]
        clear c3
        go_wp2
        go_ret2
        rw [HJ.out]
        exact ⟨_, rfl, World.ownsRow_nil _ _ _ _, hB⟩
      · have lr := HLen.out hg
        have HJ2 : Hid (putF l i r = putR l i r) := by rw [hf, hg, hd] at HJ; exact HJ.out
        cases ha : l.any (fun x => hasB x.2.val i)
        · have HE : Hid (putF l i r = putS l i r ([], 0)) := HJ2.out.trans (putS_off ha)
          go_enter Tryd.func26, Tryd.ntmps26
          go_wp2_with fail
          generalize ((w.alloc (.cells #[.int .i64 i] 3)).alloc (.cells #[Value.slice pr n2 cr] 26)) = wb at hB b1 b2 ⊢
          refine (c1 wb hB).mono ?_
          rintro e w1 ⟨rfl, hB1⟩
          rw [hf]
          clear c1
          replace b1 := boxed_below b1 hB1
          replace b2 := boxed_below b2 hB1
          replace hB := chain hB hB1
          have y1 := b1.cell
          have y2 := b2.cell
          go_wp2_with fail
          refine (c2 w1 hB).mono ?_
          rintro e w2 ⟨rfl, hB2⟩
          rw [hg]
          clear c2 y1 y2
          replace b1 := boxed_below b1 hB2
          replace b2 := boxed_below b2 hB2
          replace hB := chain hB hB2
          have y1 := b1.cell
          have y2 := b2.cell
          go_wp2_with fail
          refine (c3 w2).mono ?_
          rintro e w0 ⟨rfl, hw0⟩
          replace hw0 := hw0.symm
          subst hw0
          rw [hd]
          clear c3
          have b2' := b2
          have hB3 := below_alloc w2 (.cells #[Value.slice none 0 0] 26)
          have b3 := Boxed.new w2 26 (.slice none 0 0)
          replace b1 := boxed_below b1 hB3
          replace b2 := boxed_below b2 hB3
          replace hB := chain hB hB3
          have hlt2 : w.heap.size + 1 < w2.heap.size := b2'.lt
          go_wp2_with fail
          generalize w2.alloc (.cells #[Value.slice none 0 0] 26) = w3 at hB3 b1 b2 b3 hB ⊢
          refine (c4 w3 hB (pred_put i _ w3 b1)).mono ?_
          rintro e w4 ⟨rfl, hB4⟩
          rw [ha]
          clear c4 y1 y2
          replace b1 := boxed_below b1 hB4
          replace b2 := boxed_below b2 hB4
          replace b3 := boxed_below b3 hB4
          replace hB := chain hB hB4
          have y1 := b1.cell
          have y2 := b2.cell
          have y3 := b3.cell
          go_wp2_with fail
          refine (zero_any w4).mono ?_
          rintro e w0 ⟨rfl, hw0⟩
          replace hw0 := hw0.symm
          subst hw0
          go_wp2_with fail
          refine (c6 [] (.slice none 0 0) _ w4 hB b1 b2 b3 (.inl ⟨_, _, rfl, rfl⟩) lr rightF_nil).mono ?_
          rintro e w7 ⟨v7, rfl, hO7, hB7⟩
          clear c6
          go_wp2
          go_ret2
          rw [HE.out]
          exact ⟨_, rfl, OwnsC.mono hO7 hB.size, chain hB hB7⟩
        · rcases notR_cases r with ⟨hz, hzr⟩ | hz
          · have HE : Hid (putF l i r = putS l i r ((notR r).1, 0)) := HJ2.out.trans (by unfold putR; rw [← hz])
            go_enter Tryd.func26, Tryd.ntmps26
            go_wp2_with fail
            generalize ((w.alloc (.cells #[.int .i64 i] 3)).alloc (.cells #[Value.slice pr n2 cr] 26)) = wb at hB b1 b2 ⊢
            refine (c1 wb hB).mono ?_
            rintro e w1 ⟨rfl, hB1⟩
            rw [hf]
            clear c1
            replace b1 := boxed_below b1 hB1
            replace b2 := boxed_below b2 hB1
            replace hB := chain hB hB1
            have y1 := b1.cell
            have y2 := b2.cell
            go_wp2_with fail
            refine (c2 w1 hB).mono ?_
            rintro e w2 ⟨rfl, hB2⟩
            rw [hg]
            clear c2 y1 y2
            replace b1 := boxed_below b1 hB2
            replace b2 := boxed_below b2 hB2
            replace hB := chain hB hB2
            have y1 := b1.cell
            have y2 := b2.cell
            go_wp2_with fail
            refine (c3 w2).mono ?_
            rintro e w0 ⟨rfl, hw0⟩
            replace hw0 := hw0.symm
            subst hw0
            rw [hd]
            clear c3
            have b2' := b2
            have hB3 := below_alloc w2 (.cells #[Value.slice none 0 0] 26)
            have b3 := Boxed.new w2 26 (.slice none 0 0)
            replace b1 := boxed_below b1 hB3
            replace b2 := boxed_below b2 hB3
            replace hB := chain hB hB3
            have hlt2 : w.heap.size + 1 < w2.heap.size := b2'.lt
            go_wp2_with fail
            generalize w2.alloc (.cells #[Value.slice none 0 0] 26) = w3 at hB3 b1 b2 b3 hB ⊢
            refine (c4 w3 hB (pred_put i _ w3 b1)).mono ?_
            rintro e w4 ⟨rfl, hB4⟩
            rw [ha]
            clear c4 y1 y2
            replace b1 := boxed_below b1 hB4
            replace b2 := boxed_below b2 hB4
            replace b3 := boxed_below b3 hB4
            replace hB := chain hB hB4
            have y1 := b1.cell
            have y2 := b2.cell
            have y3 := b3.cell
            go_wp2_with fail
            refine (c5 w4 hB).mono ?_
            rintro e w5 ⟨v5, rfl, hO5, hB5⟩
            rw [hz]
            clear c5 y1 y2 y3
            have hne5 : v5.ownBlock ≠ some w2.heap.size := fun h => by
              have h1 := (World.ownsRow.lt hO5 _ h).1
              have h2 := b3.lt
              omega
            obtain ⟨p5, c5, rfl⟩ := OwnsC.len hO5
            replace b1 := boxed_below b1 hB5
            replace b2 := boxed_below b2 hB5
            replace b3 := boxed_below b3 hB5
            replace hB := chain hB hB5
            have y1 := b1.cell
            have y2 := b2.cell
            have y3 := b3.cell
            have z3 := b3.frozen
            go_wp2_with fail
            generalize hW : w5.setCell ⟨w2.heap.size, 0, none⟩ (.slice p5 (notR r).1.length c5) = w6
            have g6 : w5.grownBy w6 (some w2.heap.size) := by rw [← hW]; exact grownBy_setCell' _ _ _
            have b3' : Boxed w6 w2.heap.size 26 (.slice p5 (notR r).1.length c5) := by rw [← hW]; exact b3.set _
            have b1' := b1.kept g6 (by simp; omega)
            have b2'' := b2.kept g6 (by simp; omega)
            have hO6 : OwnsC w6 w4.heap.size (.slice p5 (notR r).1.length c5) (notR r).1 := by rw [← hW]; exact OwnsC.set hO5 hne5 _
            have hB6 : Below w.heap.size w w6 := by rw [← hW]; exact hB.setCell (by show w.heap.size ≤ w2.heap.size; omega) _
            clear hW
            refine (zero_any w6).mono ?_
            rintro e w0 ⟨rfl, hw0⟩
            replace hw0 := hw0.symm
            subst hw0
            go_wp2_with fail
            refine (c6 _ _ _ w6 hB6 b1' b2'' b3' (OwnsC.row hO6) lr hzr).mono ?_
            rintro e w7 ⟨v7, rfl, hO7, hB7⟩
            clear c6
            go_wp2
            go_ret2
            rw [HE.out]
            exact ⟨_, rfl, OwnsC.mono hO7 hB6.size, chain hB6 hB7⟩
          · have HE : Hid (putF l i r = ([], 3)) := HJ2.out.trans (putS_no (Told.not r) (by rw [hz]; simp) ha)
            go_enter Tryd.func26, Tryd.ntmps26
            go_wp2_with fail
            generalize ((w.alloc (.cells #[.int .i64 i] 3)).alloc (.cells #[Value.slice pr n2 cr] 26)) = wb at hB b1 b2 ⊢
            refine (c1 wb hB).mono ?_
            rintro e w1 ⟨rfl, hB1⟩
            rw [hf]
            clear c1
            replace b1 := boxed_below b1 hB1
            replace b2 := boxed_below b2 hB1
            replace hB := chain hB hB1
            have y1 := b1.cell
            have y2 := b2.cell
            go_wp2_with fail
            refine (c2 w1 hB).mono ?_
            rintro e w2 ⟨rfl, hB2⟩
            rw [hg]
            clear c2 y1 y2
            replace b1 := boxed_below b1 hB2
            replace b2 := boxed_below b2 hB2
            replace hB := chain hB hB2
            have y1 := b1.cell
            have y2 := b2.cell
            go_wp2_with fail
            refine (c3 w2).mono ?_
            rintro e w0 ⟨rfl, hw0⟩
            replace hw0 := hw0.symm
            subst hw0
            rw [hd]
            clear c3
            have b2' := b2
            have hB3 := below_alloc w2 (.cells #[Value.slice none 0 0] 26)
            have b3 := Boxed.new w2 26 (.slice none 0 0)
            replace b1 := boxed_below b1 hB3
            replace b2 := boxed_below b2 hB3
            replace hB := chain hB hB3
            have hlt2 : w.heap.size + 1 < w2.heap.size := b2'.lt
            go_wp2_with fail
            generalize w2.alloc (.cells #[Value.slice none 0 0] 26) = w3 at hB3 b1 b2 b3 hB ⊢
            refine (c4 w3 hB (pred_put i _ w3 b1)).mono ?_
            rintro e w4 ⟨rfl, hB4⟩
            rw [ha]
            clear c4 y1 y2
            replace b1 := boxed_below b1 hB4
            replace b2 := boxed_below b2 hB4
            replace b3 := boxed_below b3 hB4
            replace hB := chain hB hB4
            have y1 := b1.cell
            have y2 := b2.cell
            have y3 := b3.cell
            go_wp2_with fail
            refine (c5 w4 hB).mono ?_
            rintro e w5 ⟨v5, rfl, hO5, hB5⟩
            rw [hz] at hO5 ⊢
            clear c5 y1 y2 y3
            have hne5 : v5.ownBlock ≠ some w2.heap.size := fun h => by
              have h1 := (World.ownsRow.lt hO5 _ h).1
              have h2 := b3.lt
              omega
            obtain ⟨p5, c5, rfl⟩ := OwnsC.len hO5
            replace b1 := boxed_below b1 hB5
            replace b2 := boxed_below b2 hB5
            replace b3 := boxed_below b3 hB5
            replace hB := chain hB hB5
            have y1 := b1.cell
            have y2 := b2.cell
            have y3 := b3.cell
            have z3 := b3.frozen
            go_wp2
            go_ret2
            rw [HE.out]
            exact ⟨_, rfl, World.ownsRow_nil _ _ _ _, hB.setCell (by show w.heap.size ≤ w2.heap.size; omega) _⟩
end Go.Proofs.YtinegcahhafddaaDoor
