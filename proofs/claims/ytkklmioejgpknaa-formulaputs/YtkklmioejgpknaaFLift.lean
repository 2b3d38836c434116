/- Lift of a formula: the answer in new memory; nothing that lay before the call turns. -/
import Derived.Test.YtkklmioejgpknaaFPutB
import Derived.Test.YtkklmioejgpknaaCLift
namespace Go.Proofs.Ytkklmioejgpknaa
open Go.RowKit
set_option linter.unusedVariables false
set_option linter.unusedSimpArgs false

def stepL (fr by_ : Int) (a : List C × Int) (c : C) : List C × Int := if a.2 = 0 then (if liftCE c fr by_ = 0 then (a.1 ++ [liftC c fr by_], 0) else ([], liftCE c fr by_)) else a
def liftS (l : List C) (fr by_ : Int) : List C × Int := l.foldl (stepL fr by_) ([], 0)
def liftFF (l : List C) (fr by_ : Int) : List C × Int := if rightF l then (if (liftS l fr by_).2 = 0 then leastF (liftS l fr by_).1 else ([], (liftS l fr by_).2)) else ([], 2)
theorem liftS_snoc (l : List C) (c : C) (fr by_ : Int) : liftS (l ++ [c]) fr by_ = stepL fr by_ (liftS l fr by_) c := by simp [liftS]
theorem liftS_len (l : List C) (fr by_ : Int) : (liftS l fr by_).1.length ≤ l.length := by
  induction l using snoc_ind with
  | nil => simp [liftS]
  | snoc l c ih =>
    rw [liftS_snoc]
    unfold stepL
    split
    · split
      · simp; omega
      · simp
    · simp; omega
theorem liftS_take_step {l : List C} {fr by_ : Int} {k : Nat} {c : C} (h : l[k]? = some c) (h0 : (liftS (l.take k) fr by_).2 = 0) : liftS (l.take (k + 1)) fr by_ = if liftCE c fr by_ = 0 then ((liftS (l.take k) fr by_).1 ++ [liftC c fr by_], 0) else ([], liftCE c fr by_) := by
  have e : l.take (k + 1) = l.take k ++ [c] := by rw [List.take_add_one, h]; rfl
  rw [e, liftS_snoc, stepL, if_pos h0]
theorem liftS_stuck {l : List C} {fr by_ : Int} (k : Nat) (h : (liftS (l.take k) fr by_).2 ≠ 0) : liftS l fr by_ = liftS (l.take k) fr by_ := by
  have e : liftS l fr by_ = (l.drop k).foldl (stepL fr by_) (liftS (l.take k) fr by_) := by
    unfold liftS
    rw [← List.foldl_append, List.take_append_drop]
  rw [e, foldl_stuck (stepL fr by_) (fun a c ha => by unfold stepL; rw [if_neg ha]) h]
theorem liftFF_len (l : List C) (fr by_ : Int) : (liftFF l fr by_).1.length ≤ 64 := by
  unfold liftFF
  split
  · split
    · exact leastF_len _
    · simp
  · simp

theorem row_one1 (w : World) (o : Obj) (c : C) : CRow ((w.alloc o).alloc (.cells #[.int .u32 (c.1.val : Int), .int .u32 (c.2.val : Int)] 52)) (.slice (some ⟨w.heap.size + 1, 0, none⟩) 1 1) [c] := by
  have h := row_one (w.alloc o) c
  rw [World.size_alloc] at h
  exact h
set_option maxRecDepth 100000 in
set_option maxHeartbeats 2000000 in
theorem lift1_any (M : List C) (v : Value) (c : C) (fr by_ : Int) (B1 B2 base : Nat) (w : World) (h1 : Boxed w B1 3 (.int .i64 fr)) (h2 : Boxed w B2 3 (.int .i64 by_)) (hO : OwnsC w base v M) (hb : base ≤ w.heap.size) (hM : M.length ≤ 100000) :
    Calls Try.prog 51 #[v, clV c, .pointer (some ⟨B1, 0, none⟩), .pointer (some ⟨B2, 0, none⟩)] w
      fun e w' => ∃ v', e = .returned (.tuple #[v', .int .i64 (liftCE c fr by_)]) ∧ OwnsC w' base v' (M ++ [liftC c fr by_]) ∧ Below base w w' := by
  have hB0 := below_alloc w (.cells #[.int .u32 (c.1.val : Int), .int .u32 (c.2.val : Int)] 52)
  have y1 := (boxed_below h1 hB0).cell
  have y2 := (boxed_below h2 hB0).cell
  have n1 : B1 ≠ w.heap.size := by have := h1.lt; omega
  have n2 : B2 ≠ w.heap.size := by have := h2.lt; omega
  have hO0 := OwnsC.below hO hB0
  clear h1 h2
  obtain ⟨pv, cv, rfl⟩ := OwnsC.len hO
  have HM : Hid (M.length + [liftC c fr by_].length ≤ 200000) := by show M.length + 1 ≤ 200000; omega
  go_enter Try.func51, Try.ntmps51
  go_wp2_with fail
  generalize w.alloc (.cells #[.int .u32 (c.1.val : Int), .int .u32 (c.2.val : Int)] 52) = wb at hB0 y1 y2 hO0 ⊢
  refine (clift_any c fr by_ wb).mono ?_
  rintro e w1 ⟨rfl, hB1⟩
  clear y1 y2
  have hO1 := OwnsC.below hO0 hB1
  have hb1 : base ≤ w1.heap.size := Nat.le_trans hb (chain hB0 hB1).size
  go_wp2_with (at_builtin; refine wpList_append_row rfl _ _ rfl base _ _ M [liftC c fr by_] rfl rfl (OwnsC.below (OwnsC.below hO1 (below_alloc w1 (.cells #[.int .u32 ((liftC c fr by_).1.val : Int), .int .u32 ((liftC c fr by_).2.val : Int)] 52))) (below_alloc _ _)) (row_one1 _ _ _) HM.out (Nat.le_trans hb1 (by simp; omega)) ?_; intro v4 w4 hO4 hg4 hv4)
  have bX := chain (chain hB0 hB1) (chain (below_alloc w1 (.cells #[.int .u32 ((liftC c fr by_).1.val : Int), .int .u32 ((liftC c fr by_).2.val : Int)] 52)) (below_alloc _ (.cells #[.int .u32 ((liftC c fr by_).1.val : Int), .int .u32 ((liftC c fr by_).2.val : Int)] 52)))
  have hOX := OwnsC.below (OwnsC.below hO1 (below_alloc w1 (.cells #[.int .u32 ((liftC c fr by_).1.val : Int), .int .u32 ((liftC c fr by_).2.val : Int)] 52))) (below_alloc _ (.cells #[.int .u32 ((liftC c fr by_).1.val : Int), .int .u32 ((liftC c fr by_).2.val : Int)] 52))
  have hBB := (bX.mono hb).trans (own_grown hOX hg4 (Nat.le_trans hb bX.size))
  obtain ⟨p4, q4, rfl⟩ := OwnsC.len hO4
  go_ret2
  exact ⟨_, rfl, hO4, hBB⟩
theorem fold_lift (l : List C) (vl : Value) (fr by_ : Int) (B1 B2 : Nat) (w : World) (hl : CRow w vl l) (hll : l.length ≤ 40000) (h1 : Boxed w B1 3 (.int .i64 fr)) (h2 : Boxed w B2 3 (.int .i64 by_)) :
    Calls Try.prog 46 #[vl, .slice none 0 0, .func (.func 51) #[] #[.pointer (some ⟨B1, 0, none⟩), .pointer (some ⟨B2, 0, none⟩)]] w
      fun e w' => ∃ v', e = .returned (.tuple #[v', .int .i64 (liftS l fr by_).2]) ∧ OwnsC w' w.heap.size v' (liftS l fr by_).1 ∧ Below w.heap.size w w' := by
  have eg : ∀ args w, (callFunc 51 args).run Try.prog w = .ok (.enter 51 args) w := enters_of Try.func51 (by kernel_rfl) rfl
  refine (foldCR_any 51 _ eg l vl _ w w hl (by omega) (fun k v W => OwnsC W w.heap.size v (liftS (l.take k) fr by_).1 ∧ (liftS (l.take k) fr by_).2 = 0) (fun er => liftS l fr by_ = ([], er)) (fun k v W W' h hb => ⟨OwnsC.below h.1 hb, h.2⟩) (Below.refl _ _) ⟨World.ownsRow_nil _ _ _ _, rfl⟩ (fun k c v W hk hW hI => ?_)).mono ?_
  · have hlen : (liftS (l.take k) fr by_).1.length ≤ 100000 := by
      have h1 := liftS_len (l.take k) fr by_
      have h2 : (l.take k).length ≤ l.length := by rw [List.length_take]; omega
      omega
    refine (lift1_any _ v c fr by_ B1 B2 w.heap.size W (boxed_below h1 hW) (boxed_below h2 hW) hI.1 hW.size hlen).mono ?_
    rintro e w' ⟨v', rfl, hO, hB'⟩
    refine ⟨hW.trans hB', v', _, rfl, ?_⟩
    have hst := liftS_take_step (fr := fr) (by_ := by_) hk hI.2
    by_cases h0 : liftCE c fr by_ = 0
    · rw [if_pos h0] at hst
      exact .inl ⟨h0, by rw [hst]; exact hO, by rw [hst]⟩
    · rw [if_neg h0] at hst
      refine .inr ⟨h0, ?_⟩
      rw [liftS_stuck (k + 1) (by rw [hst]; exact h0), hst]
  · rintro e w' ⟨hB', v', er, rfl, ⟨rfl, hO, hz⟩ | ⟨hne, rfl, hq⟩⟩
    · rw [List.take_length] at hO hz
      exact ⟨v', by rw [hz], hO, hB'⟩
    · rw [hq]
      exact ⟨_, rfl, World.ownsRow_nil _ _ _ _, hB'⟩

set_option maxRecDepth 100000 in
set_option maxHeartbeats 2000000 in
theorem Lift_any (l : List C) (fr by_ : Int) (vl : Value) (w : World) (hl : FRow w vl l) (hll : l.length ≤ 40000) :
    Calls Try.prog 25 #[vl, .int .i64 fr, .int .i64 by_] w fun e w' => ∃ v, e = .returned (.tuple #[v, .int .i64 (liftFF l fr by_).2]) ∧ OwnsC w' w.heap.size v (liftFF l fr by_).1 ∧ Below w.heap.size w w' := by
  have HJ : Hid (liftFF l fr by_ = if rightF l then (if (liftS l fr by_).2 = 0 then leastF (liftS l fr by_).1 else ([], (liftS l fr by_).2)) else ([], 2)) := rfl
  have hB : Below w.heap.size w ((w.alloc (.cells #[.int .i64 fr] 3)).alloc (.cells #[.int .i64 by_] 3)) := (below_alloc w _).alloc (by simp) _
  have b1 : Boxed ((w.alloc (.cells #[.int .i64 fr] 3)).alloc (.cells #[.int .i64 by_] 3)) w.heap.size 3 (.int .i64 fr) := (Boxed.new w _ _).alloc _
  have b2 : Boxed ((w.alloc (.cells #[.int .i64 fr] 3)).alloc (.cells #[.int .i64 by_] 3)) (w.heap.size + 1) 3 (.int .i64 by_) := by
    have h := Boxed.new (w.alloc (.cells #[.int .i64 fr] 3)) 3 (.int .i64 by_)
    rw [World.size_alloc] at h
    exact h
  have c1 := fun W (h : Below w.heap.size w W) => fright_any l vl W (hl.below h) (by omega)
  have c2 := fun W (h : Below w.heap.size w W) (b1 : Boxed W w.heap.size 3 (.int .i64 fr)) (b2 : Boxed W (w.heap.size + 1) 3 (.int .i64 by_)) => fold_lift l vl fr by_ w.heap.size (w.heap.size + 1) W (hl.row.below h) hll b1 b2
  have hlen := liftS_len l fr by_
  obtain ⟨pl, cl, rfl⟩ := hl.len
  clear hl
  generalize liftS l fr by_ = P at c2 HJ hlen
  obtain ⟨M, er⟩ := P
  dsimp only at c2 HJ hlen
  have HLen : Hid (M.length ≤ 100000) := by show M.length ≤ 100000; omega
  clear hlen
  cases hf : rightF l
  · rw [hf] at HJ
    go_enter Try.func25, Try.ntmps25
    go_wp2_with fail
    generalize ((w.alloc (.cells #[.int .i64 fr] 3)).alloc (.cells #[.int .i64 by_] 3)) = wb at hB b1 b2 ⊢
    refine (c1 wb hB).mono ?_
    rintro e w1 ⟨rfl, hB1⟩
    rw [hf]
    clear c1
    replace hB := chain hB hB1
    go_wp2
    go_ret2
    rw [HJ.out]
    exact ⟨_, rfl, World.ownsRow_nil _ _ _ _, hB⟩
  · rw [hf] at HJ
    go_enter Try.func25, Try.ntmps25
    go_wp2_with fail
    generalize ((w.alloc (.cells #[.int .i64 fr] 3)).alloc (.cells #[.int .i64 by_] 3)) = wb at hB b1 b2 ⊢
    refine (c1 wb hB).mono ?_
    rintro e w1 ⟨rfl, hB1⟩
    rw [hf]
    clear c1
    replace b1 := boxed_below b1 hB1
    replace b2 := boxed_below b2 hB1
    replace hB := chain hB hB1
    replace c2 := c2 w1 hB b1 b2
    clear b1 b2
    go_wp2_with fail
    refine c2.mono ?_
    rintro e w2 ⟨v2, rfl, hO2, hB2⟩
    clear c2
    by_cases h0 : er = 0
    · subst h0
      have HE : Hid (liftFF l fr by_ = leastF M) := HJ.out
      have c3 := leastC M v2 w2 (OwnsC.row hO2) HLen.out
      obtain ⟨p2, q2, rfl⟩ := OwnsC.len hO2
      go_wp2_with fail
      refine c3.mono ?_
      rintro e w3 ⟨v3, rfl, hO3, hB3⟩
      clear c3
      go_wp2
      go_ret2
      rw [HE.out]
      exact ⟨_, rfl, OwnsC.mono hO3 (chain hB hB2).size, chain (chain hB hB2) hB3⟩
    · have HE : Hid (liftFF l fr by_ = ([], er)) := HJ.out.trans (by simp [h0])
      obtain ⟨p2, q2, rfl⟩ := OwnsC.len hO2
      go_wp2
      go_ret2
      rw [HE.out]
      exact ⟨_, rfl, World.ownsRow_nil _ _ _ _, chain hB hB2⟩
end Go.Proofs.Ytkklmioejgpknaa
