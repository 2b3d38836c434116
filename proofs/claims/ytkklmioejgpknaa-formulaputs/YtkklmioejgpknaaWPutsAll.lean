/- The walk of the law FormulaPuts, with what it wants of Dims, Lift and Put, by the code and by the document: the call returns true; nothing that lay before it turns. -/
import Derived.Test.YtkklmioejgpknaaFPutC
import Derived.Test.YtkklmioejgpknaaFPutB
import Derived.Test.YtkklmioejgpknaaCLift
import Derived.Test.YtkklmioejgpknaaRTurn
import Derived.Test.YtkklmioejgpknaaWJoins
namespace Go.Proofs.Ytkklmioejgpknaa
open Go.RowKit
set_option linter.unusedVariables false
set_option linter.unusedSimpArgs false

theorem stepD_lt {s : Nat} {c : C} (hs : s < 4294967296) : stepD s c < 4294967296 := or_lt32 hs (Nat.lt_trans (low_lt _) (by decide))
set_option maxHeartbeats 1000000 in
theorem dims1_nat (s p n : Nat) (w : World) (hs : s < 4294967296) (hp : p < 4294967296) (hn : n < 4294967296) :
    Calls Try.prog 56 #[.int .u32 s, .agg #[.int .u32 p, .int .u32 n]] w fun e w' => e = .returned (.tuple #[.int .u32 ((s ||| ((p ||| n) &&& 16777215) : Nat) : Int), .int .i64 0]) ∧ Below w.heap.size w w' := by
  have h1 : Hid (bits BinOp.or IntKind.u32 (s : Int) (bits BinOp.and IntKind.u32 (bits BinOp.or IntKind.u32 (p : Int) (n : Int)) 16777215) = ((s ||| ((p ||| n) &&& 16777215) : Nat) : Int)) := by
    show _ = _
    rw [or_low p n hp hn, bits_or32 _ _ hs (Nat.lt_trans (low_lt _) (by decide))]
  go_enter Try.func56, Try.ntmps56
  go_wp2
  go_ret2
  exact ⟨by rw [h1.out]; rfl, below_alloc _ _⟩
theorem dims1_any (s : Nat) (c : C) (w : World) (hs : s < 4294967296) :
    Calls Try.prog 56 #[.int .u32 s, clV c] w fun e w' => e = .returned (.tuple #[.int .u32 ((stepD s c : Nat) : Int), .int .i64 0]) ∧ Below w.heap.size w w' :=
  dims1_nat s c.1.val c.2.val w hs c.1.isLt c.2.isLt
theorem dimsN_take_step {l : List C} {k : Nat} {c : C} (h : l[k]? = some c) : dimsN (l.take (k + 1)) = stepD (dimsN (l.take k)) c := by
  have e : l.take (k + 1) = l.take k ++ [c] := by rw [List.take_add_one, h]; rfl
  rw [e, dimsN_snoc]
theorem dimsN_lt32 (f : List C) : dimsN f < 4294967296 := Nat.lt_trans (dimsN_lt f) (by decide)

set_option maxRecDepth 100000 in
set_option maxHeartbeats 2000000 in
theorem foldD_any (l : List C) (vs : Value) (w : World) (hv : CRow w vs l) (hl : l.length ≤ 100000) :
    Calls Try.prog 55 #[vs, .int .u32 0, .func (.func 56) #[] #[]] w fun e w' => e = .returned (.tuple #[.int .u32 ((dimsN l : Nat) : Int), .int .i64 0]) ∧ Below w.heap.size w w' := by
  obtain ⟨pa, ca, rfl⟩ := hv.len
  have Ha : Hid (CRow w (.slice pa l.length ca) l) := hv
  clear hv
  obtain ⟨n, hn1⟩ : ∃ n, n = l.length := ⟨_, rfl⟩
  have Hn : Hid (n = l.length) := hn1
  rw [← hn1] at hl Ha ⊢
  clear hn1
  go_enter Try.func55, Try.ntmps55
  go_wp2
  go_loopw [8, 16] (fun v i wr => ∃ k : Nat, k ≤ n ∧ i = .int .i64 k ∧ v = .int .u32 ((dimsN (l.take k) : Nat) : Int) ∧ Below w.heap.size w wr) (fun _ i _ => n - (intOf i).toNat)
  case atStart => exact ⟨0, Nat.zero_le _, rfl, rfl, Below.refl _ _⟩
  case round =>
    obtain ⟨k, hk, rfl, rfl, hny⟩ := hrel
    by_cases hlt : k < n
    · obtain ⟨c, hck⟩ := get_some (l := l) (k := k) (by rw [← Hn.out]; exact hlt)
      obtain ⟨g, off, rfl, hg, x0, x1⟩ := (Ha.out.below hny).at hck
      have HS : Hid (dimsN (l.take (k + 1)) = stepD (dimsN (l.take k)) c) := dimsN_take_step hck
      have cD := dims1_any (dimsN (l.take k)) c (wr.alloc (.cells #[.int .u32 (c.1.val : Int), .int .u32 (c.2.val : Int)] 52)) (dimsN_lt32 _)
      clear hck
      have hb := below_alloc wr (.cells #[.int .u32 (c.1.val : Int), .int .u32 (c.2.val : Int)] 52)
      generalize dimsN (l.take k) = s at cD HS ⊢
      go_wp2_with fail
      refine cD.mono ?_
      rintro e w2 ⟨rfl, hB2⟩
      clear cD
      go_wp2
      go_roundw
      case rel => exact ⟨k + 1, by omega, by go_num, by rw [HS.out], chain (chain hny hb) hB2⟩
      case measure => simp [intOf]; omega
    · obtain rfl : k = n := by omega
      have e : l.take k = l := List.take_of_length_le (by rw [← Hn.out]; exact Nat.le_refl _)
      rw [e]
      go_wp2
      go_ret2
      exact ⟨rfl, hny⟩
theorem Dims_any (l : List C) (v : Value) (w : World) (hv : CRow w v l) (hl : l.length ≤ 100000) :
    Calls Try.prog 27 #[v] w fun e w' => e = .returned (.int .u32 ((dimsN l : Nat) : Int)) ∧ Below w.heap.size w w' := by
  have c1 := foldD_any l v w hv hl
  obtain ⟨pa, ca, rfl⟩ := hv.len
  clear hv
  go_enter Try.func27, Try.ntmps27
  go_wp2_with fail
  refine c1.mono ?_
  rintro e w1 ⟨rfl, hB1⟩
  clear c1
  go_wp2
  go_ret
  exact ⟨rfl, hB1⟩
end Go.Proofs.Ytkklmioejgpknaa

namespace Go.Proofs.Ytkklmioejgpknaa
open Go.RowKit
set_option linter.unusedVariables false
set_option linter.unusedSimpArgs false

def stepL (fr by_ : Int) (a : List C × Int) (c : C) : List C × Int := if a.2 = 0 then (if liftCE c fr by_ = 0 then (a.1 ++ [liftC c fr by_], 0) else ([], liftCE c fr by_)) else a
def liftS (l : List C) (fr by_ : Int) : List C × Int := l.foldl (stepL fr by_) ([], 0)
def liftFF (l : List C) (fr by_ : Int) : List C × Int := if rightF l then (if (liftS l fr by_).2 = 0 then leastF (liftS l fr by_).1 else ([], (liftS l fr by_).2)) else ([], 2)
theorem liftS_snoc (l : List C) (c : C) (fr by_ : Int) : liftS (l ++ [c]) fr by_ = stepL fr by_ (liftS l fr by_) c := by simp [liftS]
theorem liftS_len (l : List C) (fr by_ : Int) : (liftS l fr by_).1.length ≤ l.length := by
  induction l using snoc_ind with
  | nil => simp [liftS]
  | snoc l c ih =>
    rw [liftS_snoc]
    unfold stepL
    split
    · split
      · simp; omega
      · simp
    · simp; omega
theorem liftS_take_step {l : List C} {fr by_ : Int} {k : Nat} {c : C} (h : l[k]? = some c) (h0 : (liftS (l.take k) fr by_).2 = 0) : liftS (l.take (k + 1)) fr by_ = if liftCE c fr by_ = 0 then ((liftS (l.take k) fr by_).1 ++ [liftC c fr by_], 0) else ([], liftCE c fr by_) := by
  have e : l.take (k + 1) = l.take k ++ [c] := by rw [List.take_add_one, h]; rfl
  rw [e, liftS_snoc, stepL, if_pos h0]
theorem liftS_stuck {l : List C} {fr by_ : Int} (k : Nat) (h : (liftS (l.take k) fr by_).2 ≠ 0) : liftS l fr by_ = liftS (l.take k) fr by_ := by
  have e : liftS l fr by_ = (l.drop k).foldl (stepL fr by_) (liftS (l.take k) fr by_) := by
    unfold liftS
    rw [← List.foldl_append, List.take_append_drop]
  rw [e, foldl_stuck (stepL fr by_) (fun a c ha => by unfold stepL; rw [if_neg ha]) h]
theorem liftFF_len (l : List C) (fr by_ : Int) : (liftFF l fr by_).1.length ≤ 64 := by
  unfold liftFF
  split
  · split
    · exact leastF_len _
    · simp
  · simp

theorem row_one1 (w : World) (o : Obj) (c : C) : CRow ((w.alloc o).alloc (.cells #[.int .u32 (c.1.val : Int), .int .u32 (c.2.val : Int)] 52)) (.slice (some ⟨w.heap.size + 1, 0, none⟩) 1 1) [c] := by
  have h := row_one (w.alloc o) c
  rw [World.size_alloc] at h
  exact h
set_option maxRecDepth 100000 in
set_option maxHeartbeats 2000000 in
theorem lift1_any (M : List C) (v : Value) (c : C) (fr by_ : Int) (B1 B2 base : Nat) (w : World) (h1 : Boxed w B1 3 (.int .i64 fr)) (h2 : Boxed w B2 3 (.int .i64 by_)) (hO : OwnsC w base v M) (hb : base ≤ w.heap.size) (hM : M.length ≤ 100000) :
    Calls Try.prog 51 #[v, clV c, .pointer (some ⟨B1, 0, none⟩), .pointer (some ⟨B2, 0, none⟩)] w
      fun e w' => ∃ v', e = .returned (.tuple #[v', .int .i64 (liftCE c fr by_)]) ∧ OwnsC w' base v' (M ++ [liftC c fr by_]) ∧ Below base w w' := by
  have hB0 := below_alloc w (.cells #[.int .u32 (c.1.val : Int), .int .u32 (c.2.val : Int)] 52)
  have y1 := (boxed_below h1 hB0).cell
  have y2 := (boxed_below h2 hB0).cell
  have n1 : B1 ≠ w.heap.size := by have := h1.lt; omega
  have n2 : B2 ≠ w.heap.size := by have := h2.lt; omega
  have hO0 := OwnsC.below hO hB0
  clear h1 h2
  obtain ⟨pv, cv, rfl⟩ := OwnsC.len hO
  have HM : Hid (M.length + [liftC c fr by_].length ≤ 200000) := by show M.length + 1 ≤ 200000; omega
  go_enter Try.func51, Try.ntmps51
  go_wp2_with fail
  generalize w.alloc (.cells #[.int .u32 (c.1.val : Int), .int .u32 (c.2.val : Int)] 52) = wb at hB0 y1 y2 hO0 ⊢
  refine (clift_any c fr by_ wb).mono ?_
  rintro e w1 ⟨rfl, hB1⟩
  clear y1 y2
  have hO1 := OwnsC.below hO0 hB1
  have hb1 : base ≤ w1.heap.size := Nat.le_trans hb (chain hB0 hB1).size
  go_wp2_with (at_builtin; refine wpList_append_row rfl _ _ rfl base _ _ M [liftC c fr by_] rfl rfl (OwnsC.below (OwnsC.below hO1 (below_alloc w1 (.cells #[.int .u32 ((liftC c fr by_).1.val : Int), .int .u32 ((liftC c fr by_).2.val : Int)] 52))) (below_alloc _ _)) (row_one1 _ _ _) HM.out (Nat.le_trans hb1 (by simp; omega)) ?_; intro v4 w4 hO4 hg4 hv4)
  have bX := chain (chain hB0 hB1) (chain (below_alloc w1 (.cells #[.int .u32 ((liftC c fr by_).1.val : Int), .int .u32 ((liftC c fr by_).2.val : Int)] 52)) (below_alloc _ (.cells #[.int .u32 ((liftC c fr by_).1.val : Int), .int .u32 ((liftC c fr by_).2.val : Int)] 52)))
  have hOX := OwnsC.below (OwnsC.below hO1 (below_alloc w1 (.cells #[.int .u32 ((liftC c fr by_).1.val : Int), .int .u32 ((liftC c fr by_).2.val : Int)] 52))) (below_alloc _ (.cells #[.int .u32 ((liftC c fr by_).1.val : Int), .int .u32 ((liftC c fr by_).2.val : Int)] 52))
  have hBB := (bX.mono hb).trans (own_grown hOX hg4 (Nat.le_trans hb bX.size))
  obtain ⟨p4, q4, rfl⟩ := OwnsC.len hO4
  go_ret2
  exact ⟨_, rfl, hO4, hBB⟩
theorem fold_lift (l : List C) (vl : Value) (fr by_ : Int) (B1 B2 : Nat) (w : World) (hl : CRow w vl l) (hll : l.length ≤ 40000) (h1 : Boxed w B1 3 (.int .i64 fr)) (h2 : Boxed w B2 3 (.int .i64 by_)) :
    Calls Try.prog 46 #[vl, .slice none 0 0, .func (.func 51) #[] #[.pointer (some ⟨B1, 0, none⟩), .pointer (some ⟨B2, 0, none⟩)]] w
      fun e w' => ∃ v', e = .returned (.tuple #[v', .int .i64 (liftS l fr by_).2]) ∧ OwnsC w' w.heap.size v' (liftS l fr by_).1 ∧ Below w.heap.size w w' := by
  have eg : ∀ args w, (callFunc 51 args).run Try.prog w = .ok (.enter 51 args) w := enters_of Try.func51 (by kernel_rfl) rfl
  refine (foldCR_any 51 _ eg l vl _ w w hl (by omega) (fun k v W => OwnsC W w.heap.size v (liftS (l.take k) fr by_).1 ∧ (liftS (l.take k) fr by_).2 = 0) (fun er => liftS l fr by_ = ([], er)) (fun k v W W' h hb => ⟨OwnsC.below h.1 hb, h.2⟩) (Below.refl _ _) ⟨World.ownsRow_nil _ _ _ _, rfl⟩ (fun k c v W hk hW hI => ?_)).mono ?_
  · have hlen : (liftS (l.take k) fr by_).1.length ≤ 100000 := by
      have h1 := liftS_len (l.take k) fr by_
      have h2 : (l.take k).length ≤ l.length := by rw [List.length_take]; omega
      omega
    refine (lift1_any _ v c fr by_ B1 B2 w.heap.size W (boxed_below h1 hW) (boxed_below h2 hW) hI.1 hW.size hlen).mono ?_
    rintro e w' ⟨v', rfl, hO, hB'⟩
    refine ⟨hW.trans hB', v', _, rfl, ?_⟩
    have hst := liftS_take_step (fr := fr) (by_ := by_) hk hI.2
    by_cases h0 : liftCE c fr by_ = 0
    · rw [if_pos h0] at hst
      exact .inl ⟨h0, by rw [hst]; exact hO, by rw [hst]⟩
    · rw [if_neg h0] at hst
      refine .inr ⟨h0, ?_⟩
      rw [liftS_stuck (k + 1) (by rw [hst]; exact h0), hst]
  · rintro e w' ⟨hB', v', er, rfl, ⟨rfl, hO, hz⟩ | ⟨hne, rfl, hq⟩⟩
    · rw [List.take_length] at hO hz
      exact ⟨v', by rw [hz], hO, hB'⟩
    · rw [hq]
      exact ⟨_, rfl, World.ownsRow_nil _ _ _ _, hB'⟩

set_option maxRecDepth 100000 in
set_option maxHeartbeats 2000000 in
theorem Lift_any (l : List C) (fr by_ : Int) (vl : Value) (w : World) (hl : FRow w vl l) (hll : l.length ≤ 40000) :
    Calls Try.prog 25 #[vl, .int .i64 fr, .int .i64 by_] w fun e w' => ∃ v, e = .returned (.tuple #[v, .int .i64 (liftFF l fr by_).2]) ∧ OwnsC w' w.heap.size v (liftFF l fr by_).1 ∧ Below w.heap.size w w' := by
  have HJ : Hid (liftFF l fr by_ = if rightF l then (if (liftS l fr by_).2 = 0 then leastF (liftS l fr by_).1 else ([], (liftS l fr by_).2)) else ([], 2)) := rfl
  have hB : Below w.heap.size w ((w.alloc (.cells #[.int .i64 fr] 3)).alloc (.cells #[.int .i64 by_] 3)) := (below_alloc w _).alloc (by simp) _
  have b1 : Boxed ((w.alloc (.cells #[.int .i64 fr] 3)).alloc (.cells #[.int .i64 by_] 3)) w.heap.size 3 (.int .i64 fr) := (Boxed.new w _ _).alloc _
  have b2 : Boxed ((w.alloc (.cells #[.int .i64 fr] 3)).alloc (.cells #[.int .i64 by_] 3)) (w.heap.size + 1) 3 (.int .i64 by_) := by
    have h := Boxed.new (w.alloc (.cells #[.int .i64 fr] 3)) 3 (.int .i64 by_)
    rw [World.size_alloc] at h
    exact h
  have c1 := fun W (h : Below w.heap.size w W) => fright_any l vl W (hl.below h) (by omega)
  have c2 := fun W (h : Below w.heap.size w W) (b1 : Boxed W w.heap.size 3 (.int .i64 fr)) (b2 : Boxed W (w.heap.size + 1) 3 (.int .i64 by_)) => fold_lift l vl fr by_ w.heap.size (w.heap.size + 1) W (hl.row.below h) hll b1 b2
  have hlen := liftS_len l fr by_
  obtain ⟨pl, cl, rfl⟩ := hl.len
  clear hl
  generalize liftS l fr by_ = P at c2 HJ hlen
  obtain ⟨M, er⟩ := P
  dsimp only at c2 HJ hlen
  have HLen : Hid (M.length ≤ 100000) := by show M.length ≤ 100000; omega
  clear hlen
  cases hf : rightF l
  · rw [hf] at HJ
    go_enter Try.func25, Try.ntmps25
    go_wp2_with fail
    generalize ((w.alloc (.cells #[.int .i64 fr] 3)).alloc (.cells #[.int .i64 by_] 3)) = wb at hB b1 b2 ⊢
    refine (c1 wb hB).mono ?_
    rintro e w1 ⟨rfl, hB1⟩
    rw [hf]
    clear c1
    replace hB := chain hB hB1
    go_wp2
    go_ret2
    rw [HJ.out]
    exact ⟨_, rfl, World.ownsRow_nil _ _ _ _, hB⟩
  · rw [hf] at HJ
    go_enter Try.func25, Try.ntmps25
    go_wp2_with fail
    generalize ((w.alloc (.cells #[.int .i64 fr] 3)).alloc (.cells #[.int .i64 by_] 3)) = wb at hB b1 b2 ⊢
    refine (c1 wb hB).mono ?_
    rintro e w1 ⟨rfl, hB1⟩
    rw [hf]
    clear c1
    replace b1 := boxed_below b1 hB1
    replace b2 := boxed_below b2 hB1
    replace hB := chain hB hB1
    replace c2 := c2 w1 hB b1 b2
    clear b1 b2
    go_wp2_with fail
    refine c2.mono ?_
    rintro e w2 ⟨v2, rfl, hO2, hB2⟩
    clear c2
    by_cases h0 : er = 0
    · subst h0
      have HE : Hid (liftFF l fr by_ = leastF M) := HJ.out
      have c3 := leastC M v2 w2 (OwnsC.row hO2) HLen.out
      obtain ⟨p2, q2, rfl⟩ := OwnsC.len hO2
      go_wp2_with fail
      refine c3.mono ?_
      rintro e w3 ⟨v3, rfl, hO3, hB3⟩
      clear c3
      go_wp2
      go_ret2
      rw [HE.out]
      exact ⟨_, rfl, OwnsC.mono hO3 (chain hB hB2).size, chain (chain hB hB2) hB3⟩
    · have HE : Hid (liftFF l fr by_ = ([], er)) := HJ.out.trans (by simp [h0])
      obtain ⟨p2, q2, rfl⟩ := OwnsC.len hO2
      go_wp2
      go_ret2
      rw [HE.out]
      exact ⟨_, rfl, World.ownsRow_nil _ _ _ _, chain hB hB2⟩
end Go.Proofs.Ytkklmioejgpknaa

namespace Go.Proofs.Ytkklmioejgpknaa
open Go.RowKit
set_option linter.unusedVariables false
set_option linter.unusedSimpArgs false

set_option maxRecDepth 100000 in
set_option maxHeartbeats 4000000 in
theorem rLift_any (l : List C) (fr by_ : Int) (a : Value) (w : World) (ha : CRow w a l) (hl : l.length ≤ 40000) :
    Calls Try.prog 26 #[a, .int .i64 fr, .int .i64 by_] w fun e w' => ∃ v, e = .returned (.tuple #[v, .int .i64 (liftFF l fr by_).2]) ∧ OwnsC w' w.heap.size v (liftFF l fr by_).1 ∧ Below w.heap.size w w' := by
  have c1 := rfright_any l a w ha (by omega)
  have Ha : Hid (∀ w1, Below w.heap.size w w1 → CRow w1 a l) := fun w1 h => ha.below h
  have HJ : Hid (liftFF l fr by_ = if rightF l then (if (liftS l fr by_).2 = 0 then leastF (liftS l fr by_).1 else ([], (liftS l fr by_).2)) else ([], 2)) := rfl
  obtain ⟨pa, ca, rfl⟩ := ha.len
  clear ha
  obtain ⟨n, hn⟩ : ∃ n, n = l.length := ⟨_, rfl⟩
  have Hn : Hid (n = l.length) := hn
  rw [← hn] at hl Ha c1 ⊢
  clear hn
  cases hf : rightF l
  · rw [hf] at c1 HJ
    go_enter Try.func26, Try.ntmps26
    go_wp2_with fail
    refine c1.mono ?_
    rintro e w1 ⟨rfl, hB1⟩
    clear c1
    go_wp2
    go_ret2
    rw [HJ.out]
    exact ⟨_, rfl, World.ownsRow_nil _ _ _ _, hB1⟩
  · rw [hf] at c1 HJ
    go_enter Try.func26, Try.ntmps26
    go_wp2_with fail
    refine c1.mono ?_
    rintro e w1 ⟨rfl, hB1⟩
    clear c1
    go_wp2_with fail
    go_loopw [8, 9] (fun v i wr => ∃ k : Nat, k ≤ n ∧ i = .int .i64 k ∧ (liftS (l.take k) fr by_).2 = 0 ∧ OwnsC wr w.heap.size v (liftS (l.take k) fr by_).1 ∧ Below w.heap.size w wr) (fun _ i _ => n - (intOf i).toNat)
    case atStart => exact ⟨0, Nat.zero_le _, rfl, rfl, World.ownsRow_nil _ _ _ _, hB1⟩
    case round =>
      obtain ⟨k, hk, rfl, hz, hO, hny⟩ := hrel
      have HZ : Hid ((liftS (l.take k) fr by_).2 = 0) := hz
      clear hz
      have hlen := liftS_len (l.take k) fr by_
      have hlen2 : (l.take k).length ≤ n := by rw [List.length_take, ← Hn.out]; omega
      by_cases hlt : k < n
      · obtain ⟨c, hck⟩ := get_some (l := l) (k := k) (by rw [← Hn.out]; exact hlt)
        obtain ⟨g, off, rfl, hg, x0, x1⟩ := (Ha.out _ hny).at hck
        have HS : Hid (liftS (l.take (k + 1)) fr by_ = if liftCE c fr by_ = 0 then ((liftS (l.take k) fr by_).1 ++ [liftC c fr by_], 0) else ([], liftCE c fr by_)) := liftS_take_step hck HZ.out
        have HK : Hid ((liftS (l.take (k + 1)) fr by_).2 ≠ 0 → liftS l fr by_ = liftS (l.take (k + 1)) fr by_) := fun h => liftS_stuck (k + 1) h
        have HL : Hid ((liftS (l.take k) fr by_).1.length + [liftC c fr by_].length ≤ 200000) := by show (liftS (l.take k) fr by_).1.length + 1 ≤ 200000; omega
        clear hck
        obtain ⟨p9, q9, rfl⟩ := OwnsC.len hO
        have cL := refclift_any c fr by_ wr
        generalize liftC c fr by_ = d at cL HS HL
        generalize liftCE c fr by_ = er at cL HS
        go_wp2_with fail
        refine cL.mono ?_
        rintro e w2 ⟨rfl, hB2⟩
        clear cL
        have hB02 := chain hny hB2
        have hO2 := OwnsC.below hO hB2
        by_cases h0 : er = 0
        · subst h0
          have HS2 : Hid (liftS (l.take (k + 1)) fr by_ = ((liftS (l.take k) fr by_).1 ++ [d], 0)) := HS.out
          go_wp2_with (at_builtin; refine wpList_append_row rfl _ _ rfl w.heap.size _ _ _ [d] rfl rfl (OwnsC.below (OwnsC.below hO2 (below_alloc w2 (.cells #[.int .u32 (d.1.val : Int), .int .u32 (d.2.val : Int)] 52))) (below_alloc _ _)) (row_one1 _ _ _) HL.out (Nat.le_trans hB02.size (by simp; omega)) ?_; intro v4 w4 hO4 hg4 hv4)
          have bX := chain hB02 (chain (below_alloc w2 (.cells #[.int .u32 (d.1.val : Int), .int .u32 (d.2.val : Int)] 52)) (below_alloc _ (.cells #[.int .u32 (d.1.val : Int), .int .u32 (d.2.val : Int)] 52)))
          have hOX := OwnsC.below (OwnsC.below hO2 (below_alloc w2 (.cells #[.int .u32 (d.1.val : Int), .int .u32 (d.2.val : Int)] 52))) (below_alloc _ (.cells #[.int .u32 (d.1.val : Int), .int .u32 (d.2.val : Int)] 52))
          have hBB := bX.trans (own_grown hOX hg4 bX.size)
          go_roundw
          case rel => exact ⟨k + 1, by omega, by go_num, by rw [HS2.out], by rw [HS2.out]; exact hO4, hBB⟩
          case measure => simp [intOf]; omega
        · have HS2 : Hid (liftS (l.take (k + 1)) fr by_ = ([], er)) := HS.out.trans (if_neg h0)
          have HE : Hid (liftFF l fr by_ = ([], er)) := by
            have h1 : liftS l fr by_ = ([], er) := (HK.out (by rw [HS2.out]; exact h0)).trans HS2.out
            show liftFF l fr by_ = ([], er)
            rw [HJ.out, h1]
            simp [h0]
          go_wp2
          go_ret2
          rw [HE.out]
          exact ⟨_, rfl, World.ownsRow_nil _ _ _ _, chain hB02 (below_alloc _ _)⟩
      · obtain rfl : k = n := by omega
        have e : l.take k = l := List.take_of_length_le (by rw [← Hn.out]; exact Nat.le_refl _)
        rw [e] at hO hlen HZ
        have HE : Hid (liftFF l fr by_ = leastF (liftS l fr by_).1) := HJ.out.trans (by simp [HZ.out])
        have cL := refleastC _ _ wr (OwnsC.row hO) (by rw [← Hn.out] at hlen; omega)
        obtain ⟨p9, q9, rfl⟩ := OwnsC.len hO
        go_wp2_with fail
        refine cL.mono ?_
        rintro e w3 ⟨v3, rfl, hO3, hB3⟩
        clear cL
        go_wp2
        go_ret2
        rw [HE.out]
        exact ⟨_, rfl, OwnsC.mono hO3 hny.size, chain hny hB3⟩
end Go.Proofs.Ytkklmioejgpknaa

namespace Go.Proofs.Ytkklmioejgpknaa
open Go.RowKit
set_option linter.unusedVariables false
set_option linter.unusedSimpArgs false

def dimsTo (l : List C) (k : Nat) : List Nat := (List.range k).filter (fun j => inF l j)
theorem dimsTo_hit {l : List C} {k : Nat} (h : inF l k = true) : dimsTo l (k + 1) = dimsTo l k ++ [k] := by simp [dimsTo, List.range_succ, h]
theorem dimsTo_miss {l : List C} {k : Nat} (h : inF l k = false) : dimsTo l (k + 1) = dimsTo l k := by simp [dimsTo, List.range_succ, h]
theorem dimsTo_length (l : List C) (k : Nat) : (dimsTo l k).length ≤ k := by
  have := List.length_filter_le (fun j => inF l j) (List.range k)
  simpa [dimsTo] using this
theorem dimsTo_sum (l : List C) : sumAll (dimsTo l 24) = dimsN l := by
  unfold dimsTo
  rw [sumAll_eq (List.Nodup.sublist List.filter_sublist List.nodup_range)]
  exact dimsN_orAll l
theorem inF_take_step {l : List C} {q k : Nat} {c : C} (h : l[q]? = some c) : inF (l.take (q + 1)) k = (inF (l.take q) k || (c.1.val.testBit k || c.2.val.testBit k)) := by
  have e : l.take (q + 1) = l.take q ++ [c] := by rw [List.take_add_one, h]; rfl
  rw [e, inF_snoc]

set_option maxRecDepth 100000 in
set_option maxHeartbeats 4000000 in
theorem rDims_any (l : List C) (a : Value) (w : World) (ha : CRow w a l) (hl : l.length ≤ 40000) :
    Calls Try.prog 28 #[a] w fun e w' => e = .returned (.int .u32 ((dimsN l : Nat) : Int)) ∧ Below w.heap.size w w' := by
  obtain ⟨i0, hi, hz0, hz1, hz2⟩ := info_parts Try.infoInt
  have Ha : Hid (∀ w1, Below w.heap.size w w1 → CRow w1 a l) := fun w1 h => ha.below h
  obtain ⟨pa, ca, rfl⟩ := ha.len
  clear ha
  obtain ⟨n, hn⟩ : ∃ n, n = l.length := ⟨_, rfl⟩
  have Hn : Hid (n = l.length) := hn
  rw [← hn] at hl Ha ⊢
  clear hn
  go_enter Try.func28, Try.ntmps28
  go_wp2
  go_loopw [3, 4] (fun v i wr => ∃ k : Nat, k ≤ 24 ∧ i = .int .i64 k ∧ wr.ownsRow w.heap.size 3 1 v (dimsTo l k).length ((dimsTo l k).map encI) ∧ Below w.heap.size w wr) (fun _ i _ => 24 - (intOf i).toNat)
  case atStart => exact ⟨0, by omega, rfl, World.ownsRow_nil _ _ _ _, Below.refl _ _⟩
  case round =>
    obtain ⟨k, hk, rfl, hown, hB⟩ := hrel
    have hul := dimsTo_length l k
    by_cases hlt : k < 24
    · have hlt' : (k : Int) < 24 := by omega
      go_wp2
      go_loopw [5, 6] (fun b j wr2 => ∃ q : Nat, q ≤ n ∧ j = .int .i64 q ∧ b = .bool (inF (l.take q) k) ∧ wr2 = wr) (fun _ j _ => n - (intOf j).toNat)
      case atStart => exact ⟨0, Nat.zero_le _, rfl, rfl, rfl⟩
      case round =>
        obtain ⟨q, hq, rfl, rfl, hwr⟩ := hrel
        subst hwr
        by_cases hlq : q < n
        · obtain ⟨c, hcq⟩ := get_some (l := l) (k := q) (by rw [← Hn.out]; exact hlq)
          obtain ⟨g, off, rfl, hg, x0, x1⟩ := (Ha.out _ hB).at hcq
          have HS : Hid (inF (l.take (q + 1)) k = (inF (l.take q) k || (c.1.val.testBit k || c.2.val.testBit k))) := inF_take_step hcq
          have hP : hasB c.1.val (k : Int) = c.1.val.testBit k := hasB_nat hlt
          have hQ : hasB c.2.val (k : Int) = c.2.val.testBit k := hasB_nat hlt
          have hc1 := c.1.isLt
          have hc2 := c.2.isLt
          clear hcq
          generalize inF (l.take q) k = b at HS ⊢
          cases b
          · cases hp : c.1.val.testBit k
            · cases hr : c.2.val.testBit k
              · rw [hp] at hP HS
                rw [hr] at hQ HS
                go_wp2_with (go_at_call 50; refine (refHas_any _ _ _ (by assumption)).mono ?_; rintro e w0 ⟨rfl, hw0⟩; replace hw0 := hw0.symm; subst hw0; first | rw [hP] | rw [hQ])
                go_roundw
                case rel => exact ⟨q + 1, by omega, by go_num, by rw [HS.out]; rfl, by first | trivial | rfl⟩
                case measure => simp [intOf]; omega
              · rw [hp] at hP HS
                rw [hr] at hQ HS
                go_wp2_with (go_at_call 50; refine (refHas_any _ _ _ (by assumption)).mono ?_; rintro e w0 ⟨rfl, hw0⟩; replace hw0 := hw0.symm; subst hw0; first | rw [hP] | rw [hQ])
                go_roundw
                case rel => exact ⟨q + 1, by omega, by go_num, by rw [HS.out]; rfl, by first | trivial | rfl⟩
                case measure => simp [intOf]; omega
            · rw [hp] at hP HS
              go_wp2_with (go_at_call 50; refine (refHas_any _ _ _ (by assumption)).mono ?_; rintro e w0 ⟨rfl, hw0⟩; replace hw0 := hw0.symm; subst hw0; rw [hP])
              go_roundw
              case rel => exact ⟨q + 1, by omega, by go_num, by rw [HS.out]; rfl, by first | trivial | rfl⟩
              case measure => simp [intOf]; omega
          · go_wp2
            go_roundw
            case rel => exact ⟨q + 1, by omega, by go_num, by rw [HS.out]; rfl, by first | trivial | rfl⟩
            case measure => simp [intOf]; omega
        · obtain rfl : q = n := by omega
          have e : l.take q = l := List.take_of_length_le (by rw [← Hn.out]; exact Nat.le_refl _)
          rw [e]
          cases hb : inF l k
          · have HU : Hid (dimsTo l (k + 1) = dimsTo l k) := dimsTo_miss hb
            go_wp2
            go_roundw
            case rel => exact ⟨k + 1, by omega, by go_num, by rw [HU.out]; exact hown, hB⟩
            case measure => simp [intOf]; omega
          · have HU : Hid (dimsTo l (k + 1) = dimsTo l k ++ [k]) := dimsTo_hit hb
            go_wp2_with (at_builtin; refine wpList_append_own _ rfl _ _ 58 rfl w.heap.size 3 i0 (.int .i64 0) 1 8 Try.underlying58 hi hz0 hz1 hz2 rfl (by decide) _ _ _ rfl (hown.alloc _) ⟨_, 0, none⟩ 1 1 [.int .i64 k] rfl rfl (cell_one_new _ _ _) (by simp [Value.oneCell']) (by unfold maxLen; omega) (by omega) (by have := hB.size; simp; omega) ?_; intro v' w1 hown' hgrow _)
            go_roundw
            case rel => exact ⟨k + 1, by omega, by go_num, by rw [HU.out]; simpa [encI] using hown', (hB.alloc hB.size _).grown hgrow (by have := hB.size; simp; omega) (fun k' e => (World.ownsRow.lt hown k' e).1)⟩
            case measure => simp [intOf]; omega
    · obtain rfl : k = 24 := by omega
      have hrow : RowAt wr _ (dimsTo l 24) := OwnsL.rowAt hown
      have cS := refSet_any (dimsTo l 24) _ wr hrow (fun j hj => by have := (List.mem_filter.1 hj).1; simpa using this) (by omega)
      rw [dimsTo_sum] at cS
      have hlen := World.ownsRow.lt hown
      go_wp2_with fail
      refine cS.mono ?_
      rintro e w1 ⟨rfl, hw1⟩
      have hB1 : Below w.heap.size w w1 := by rw [hw1]; exact hB
      clear cS hw1
      go_wp2
      go_ret
      exact ⟨rfl, hB1⟩
end Go.Proofs.Ytkklmioejgpknaa

namespace Go.Proofs.Ytkklmioejgpknaa
open Go.RowKit
set_option linter.unusedVariables false
set_option linter.unusedSimpArgs false

theorem At.next {W W' : World} {g : Nat} {c : C} (hb : Below W.heap.size W W') (hg : g < W.heap.size) (h : W.cell? ⟨g, 0, none⟩ = some (.int .u32 (c.1.val : Int)) ∧ W.cell? ⟨g, 1, none⟩ = some (.int .u32 (c.2.val : Int))) : W'.cell? ⟨g, 0, none⟩ = some (.int .u32 (c.1.val : Int)) ∧ W'.cell? ⟨g, 1, none⟩ = some (.int .u32 (c.2.val : Int)) :=
  ⟨(hb.cell (p := ⟨g, 0, none⟩) hg).trans h.1, (hb.cell (p := ⟨g, 1, none⟩) hg).trans h.2⟩
set_option maxRecDepth 100000 in
set_option maxHeartbeats 8000000 in
theorem rPut_ok (l r : List C) (i : Int) (vl vr : Value) (w : World) (hl : CRow w vl l) (hr : CRow w vr r) (hf : rightF l = true) (hg : rightF r = true) (hi0 : ¬ i < 0) (hi1 : ¬ 24 ≤ i) :
    Calls Try.prog 24 #[vl, .int .i64 i, vr] w fun e w' => ∃ v, e = .returned (.tuple #[v, .int .i64 (putR l i r).2]) ∧ OwnsC w' w.heap.size v (putR l i r).1 ∧ Below w.heap.size w w' := by
  have hll := rightF_len hf
  have hrl := rightF_len hg
  have c1 := rfright_any l vl w hl (by omega)
  have c2 := fun W (h : Below w.heap.size w W) => rfright_any r vr W (hr.below h) (by omega)
  have cN := fun W (h : Below w.heap.size w W) => rNot_any r vr W (hr.below h) (by omega)
  have hNF : notF r = notR r := by unfold notF; rw [hg]; rfl
  rw [hf] at c1
  simp only [hg] at c2
  simp only [hNF] at cN
  have tS := Told.not r
  have HJ : Hid (putR l i r = putS l i r (notR r)) := rfl
  have Hl : Hid (∀ w1, Below w.heap.size w w1 → CRow w1 vl l) := fun w1 h => hl.below h
  have Hr : Hid (∀ w1, Below w.heap.size w w1 → CRow w1 vr r) := fun w1 h => hr.below h
  have rR : Hid (rightF r = true) := hg
  obtain ⟨pl, cl, rfl⟩ := hl.len
  obtain ⟨pr, cr, rfl⟩ := hr.len
  clear hl hr hf hg hNF
  generalize notR r = S at cN tS HJ
  obtain ⟨N, se⟩ := S
  dsimp only at cN
  have rN : Hid (rightF N = true) := tS.right
  have TS : Hid (Told (N, se)) := tS
  clear tS
  obtain ⟨n, hn⟩ : ∃ n, n = l.length := ⟨_, rfl⟩
  have Hn : Hid (n = l.length) := hn
  rw [← hn] at hll Hl c1 ⊢
  clear hn
  go_enter Try.func24, Try.ntmps24
  go_wp2_with fail
  refine c1.mono ?_
  rintro e w1 ⟨rfl, hB1⟩
  clear c1
  replace c2 := c2 w1 hB1
  go_wp2_with fail
  refine c2.mono ?_
  rintro e w2 ⟨rfl, hB2⟩
  clear c2
  have hB := chain hB1 hB2
  go_wp2_with fail
  go_loopw [8, 9] (fun v j wr => ∃ k : Nat, k ≤ n ∧ j = .int .i64 k ∧ (putS (l.take k) i r (N, se)).2 = 0 ∧ OwnsC wr w.heap.size v (putS (l.take k) i r (N, se)).1 ∧ Below w.heap.size w wr) (fun _ j _ => n - (intOf j).toNat)
  case atStart => exact ⟨0, Nat.zero_le _, rfl, rfl, World.ownsRow_nil _ _ _ _, hB⟩
  case round =>
    obtain ⟨k, hk, rfl, hz, hO, hny⟩ := hrel
    have HZ : Hid ((putS (l.take k) i r (N, se)).2 = 0) := hz
    have HRM : Hid (rightF (putS (l.take k) i r (N, se)).1 = true) := (Told.put (l.take k) i r TS.out).right
    clear hz hB
    by_cases hlt : k < n
    · obtain ⟨c, hck⟩ := get_some (l := l) (k := k) (by rw [← Hn.out]; exact hlt)
      obtain ⟨g, off, rfl, hg, x0, x1⟩ := (Hl.out _ hny).at hck
      have HStep : Hid (putS (l.take (k + 1)) i r (N, se) = stepP i r (N, se) ((putS (l.take k) i r (N, se)).1, 0) c) := putS_take_step hck HZ.out
      have HStuck : Hid ((putS (l.take (k + 1)) i r (N, se)).2 ≠ 0 → putS (l.take (k + 1)) i r (N, se) = ([], 3) ∧ putS l i r (N, se) = ([], 3)) := fun h => ⟨(Told.put (l.take (k + 1)) i r TS.out).no h, putS_stuck TS.out (k + 1) h⟩
      have hc1 := c.1.isLt
      have hc2 := c.2.isLt
      clear hck
      generalize (putS (l.take k) i r (N, se)).1 = M at hO HRM HStep
      have rM : rightF M = true := HRM.out
      have hMl := rightF_len rM
      have hAb := At.made wr c 52
      have hBb := below_alloc wr (.cells #[.int .u32 (c.1.val : Int), .int .u32 (c.2.val : Int)] 52)
      obtain ⟨pM, qM, rfl⟩ := OwnsC.len hO
      go_wp2
      generalize wr.alloc (.cells #[.int .u32 (c.1.val : Int), .int .u32 (c.2.val : Int)] 52) = wb at hAb hBb ⊢
      obtain ⟨z0, z1, z2⟩ := hAb
      have hBk : Below wb.heap.size wb wb.drew := below_drew wb
      go_region_held3 (fun w' => w'.cell? ⟨wr.heap.size, 0, none⟩ = some (.int .u32 (c.1.val : Int)) ∧ w'.cell? ⟨wr.heap.size, 1, none⟩ = some (.int .u32 (c.2.val : Int))) (first | (exact At.next hBk z2 ⟨z0, z1⟩) | go_keep)
        (first | (go_at_call 49; refine (refWithout_any _ _ _ (by assumption)).mono ?_; rintro e w5 ⟨rfl, hB5⟩; replace hBk := chain hBk hB5))
      go_wp2_with fail
      have hA7 := (At.below ⟨z0, z1, z2⟩ (chain hBk (below_alloc w5 (.cells #[.int .u32 (withoutN c.1.val i : Nat), .int .u32 (withoutN c.2.val i : Nat)] 52))))
      have hB7 := chain (chain hny hBb) (chain hBk (below_alloc w5 (.cells #[.int .u32 (withoutN c.1.val i : Nat), .int .u32 (withoutN c.2.val i : Nat)] 52)))
      have hOM := OwnsC.below hO (chain hBb (chain hBk (below_alloc w5 (.cells #[.int .u32 (withoutN c.1.val i : Nat), .int .u32 (withoutN c.2.val i : Nat)] 52))))
      have hOg : OwnsC (w5.alloc (.cells #[.int .u32 (withoutN c.1.val i : Nat), .int .u32 (withoutN c.2.val i : Nat)] 52)) w.heap.size (.slice (some ⟨w5.heap.size, 0, none⟩) 1 1) [outC c i] := own_one1 w5 (outC c i) _ (chain (chain hny hBb) hBk).size
      generalize hw7 : w5.alloc (.cells #[.int .u32 (withoutN c.1.val i : Nat), .int .u32 (withoutN c.2.val i : Nat)] 52) = w7 at hA7 hB7 hOM hOg ⊢
      clear hw7 z0 z1
      have z0 := hA7.1
      have z1 := hA7.2.1
      have hbb := hBb
      cases hp : hasB c.1.val i
      · have HA : Hid (partA c i r = ([outC c i], 0)) := by show partA c i r = ([outC c i], 0); unfold partA; rw [hp]; simp
        cases hq : hasB c.2.val i
        · have HF : Hid (partF c i r (N, se) = ([outC c i], 0)) := by show partF c i r (N, se) = ([outC c i], 0); unfold partF; rw [HA.out, hq]; simp
          have rG : rightF ([outC c i]) = true := (rightF_one (out_right c i))
          go_wp2_with (go_at_call 50; refine (refHas_any _ _ _ (by assumption)).mono ?_; rintro e w0 ⟨rfl, hw0⟩; replace hw0 := hw0.symm; subst hw0; first | rw [hp] | rw [hq])
          have cJ := rJoin_any M ([outC c i]) _ _ w7 (OwnsC.row hOM) (OwnsC.row hOg) (by omega) (by have := rightF_len rG; omega)
          rw [joinF_ok rM rG] at cJ
          have HST : Hid (putS (l.take (k + 1)) i r (N, se) = joinR M ([outC c i])) := HStep.out.trans (by rw [stepP_some, HF.out]; simp)
          generalize joinR M ([outC c i]) = PJ at cJ HST
          obtain ⟨J, je⟩ := PJ
          dsimp only at cJ HST
          refine cJ.mono ?_
          rintro e w20 ⟨v20, rfl, hO20, hB20⟩
          clear cJ
          have hBf := chain hB7 hB20
          obtain ⟨p20, q20, rfl⟩ := OwnsC.len hO20
          by_cases j0 : je = 0
          · subst j0
            go_wp2
            go_roundw
            case rel => exact ⟨k + 1, by omega, by go_num, by rw [HST.out], by rw [HST.out]; exact OwnsC.mono hO20 hB7.size, hBf⟩
            case measure => simp [intOf]; omega
          · have HE := HStuck.out (by rw [HST.out]; exact j0)
            have h3 : je = 3 := by have := HST.out; rw [HE.1] at this; injection this with _ h; exact h.symm
            have HE2 : Hid (putS l i r (N, se) = ([], 3)) := HE.2
            subst h3
            go_wp2
            go_ret2
            rw [HJ.out, HE2.out]
            exact ⟨_, rfl, World.ownsRow_nil _ _ _ _, hBf⟩
        · have cN2 := cN w7 hB7
          go_wp2_with (go_at_call 50; refine (refHas_any _ _ _ (by assumption)).mono ?_; rintro e w0 ⟨rfl, hw0⟩; replace hw0 := hw0.symm; subst hw0; first | rw [hp] | rw [hq])
          refine cN2.mono ?_
          rintro e w12 ⟨v12, rfl, hO12, hB12⟩
          clear cN2
          replace hB7 := chain hB7 hB12
          replace hOM := OwnsC.below hOM hB12
          replace hOg := OwnsC.below hOg hB12
          replace hA7 := hA7.below hB12
          clear z0 z1
          have z0 := hA7.1
          have z1 := hA7.2.1
          obtain ⟨p12, q12, rfl⟩ := OwnsC.len hO12
          by_cases s0 : se = 0
          · subst s0
            have cM2 := rMeet_ok ([outC c i]) N _ _ w12 (OwnsC.row hOg) (OwnsC.row hO12) ((rightF_one (out_right c i))) rN.out
            have HF : Hid (partF c i r (N, 0) = meetR ([outC c i]) N) := by show partF c i r (N, 0) = meetR ([outC c i]) N; unfold partF; rw [HA.out, hq]; simp
            have tG : Told (meetR ([outC c i]) N) := Told.meet _ _
            generalize meetR ([outC c i]) N = PG at cM2 HF tG
            obtain ⟨G, pe⟩ := PG
            dsimp only at cM2 HF
            go_wp2_with (go_at_call 50; refine (refHas_any _ _ _ (by assumption)).mono ?_; rintro e w0 ⟨rfl, hw0⟩; replace hw0 := hw0.symm; subst hw0; first | rw [hp] | rw [hq])
            refine cM2.mono ?_
            rintro e w13 ⟨v13, rfl, hO13, hB13⟩
            clear cM2
            replace hB7 := chain hB7 hB13
            replace hOM := OwnsC.below hOM hB13
            replace hOg := OwnsC.below hOg hB13
            replace hA7 := hA7.below hB13
            clear z0 z1
            have z0 := hA7.1
            have z1 := hA7.2.1
            obtain ⟨p13, q13, rfl⟩ := OwnsC.len hO13
            by_cases pe0 : pe = 0
            · subst pe0
              have rG : rightF G = true := tG.right
              go_wp2_with fail
              have cJ := rJoin_any M G _ _ w13 (OwnsC.row hOM) (OwnsC.row hO13) (by omega) (by have := rightF_len rG; omega)
              rw [joinF_ok rM rG] at cJ
              have HST : Hid (putS (l.take (k + 1)) i r (N, 0) = joinR M G) := HStep.out.trans (by rw [stepP_some, HF.out]; simp)
              generalize joinR M G = PJ at cJ HST
              obtain ⟨J, je⟩ := PJ
              dsimp only at cJ HST
              refine cJ.mono ?_
              rintro e w20 ⟨v20, rfl, hO20, hB20⟩
              clear cJ
              have hBf := chain hB7 hB20
              obtain ⟨p20, q20, rfl⟩ := OwnsC.len hO20
              by_cases j0 : je = 0
              · subst j0
                go_wp2
                go_roundw
                case rel => exact ⟨k + 1, by omega, by go_num, by rw [HST.out], by rw [HST.out]; exact OwnsC.mono hO20 hB7.size, hBf⟩
                case measure => simp [intOf]; omega
              · have HE := HStuck.out (by rw [HST.out]; exact j0)
                have h3 : je = 3 := by have := HST.out; rw [HE.1] at this; injection this with _ h; exact h.symm
                have HE2 : Hid (putS l i r (N, 0) = ([], 3)) := HE.2
                subst h3
                go_wp2
                go_ret2
                rw [HJ.out, HE2.out]
                exact ⟨_, rfl, World.ownsRow_nil _ _ _ _, hBf⟩
            · skip
              have HST : Hid (putS (l.take (k + 1)) i r (N, 0) = ([], pe)) := HStep.out.trans (by rw [stepP_some, HF.out]; simp [pe0])
              have HE := HStuck.out (by rw [HST.out]; exact pe0)
              have h3 : pe = 3 := by have := HST.out; rw [HE.1] at this; injection this with _ h; exact h.symm
              have HE2 : Hid (putS l i r (N, 0) = ([], 3)) := HE.2
              subst h3
              go_wp2_with (go_at_call 50; refine (refHas_any _ _ _ (by assumption)).mono ?_; rintro e w0 ⟨rfl, hw0⟩; replace hw0 := hw0.symm; subst hw0; first | rw [hp] | rw [hq])
              go_ret2
              rw [HJ.out, HE2.out]
              exact ⟨_, rfl, World.ownsRow_nil _ _ _ _, hB7⟩
          · have HF : Hid (partF c i r (N, se) = ([], se)) := by show partF c i r (N, se) = ([], se); unfold partF; rw [HA.out, hq]; simp [s0]
            have pe0 : se ≠ 0 := s0
            have HST : Hid (putS (l.take (k + 1)) i r (N, se) = ([], se)) := HStep.out.trans (by rw [stepP_some, HF.out]; simp [pe0])
            have HE := HStuck.out (by rw [HST.out]; exact pe0)
            have h3 : se = 3 := by have := HST.out; rw [HE.1] at this; injection this with _ h; exact h.symm
            have HE2 : Hid (putS l i r (N, se) = ([], 3)) := HE.2
            subst h3
            go_wp2_with (go_at_call 50; refine (refHas_any _ _ _ (by assumption)).mono ?_; rintro e w0 ⟨rfl, hw0⟩; replace hw0 := hw0.symm; subst hw0; first | rw [hp] | rw [hq])
            go_ret2
            rw [HJ.out, HE2.out]
            exact ⟨_, rfl, World.ownsRow_nil _ _ _ _, hB7⟩
      · have cM1 := rMeet_ok [outC c i] r _ _ w7 (OwnsC.row hOg) (Hr.out w7 hB7) (rightF_one (out_right c i)) rR.out
        have HA0 : Hid (partA c i r = meetR [outC c i] r) := by show partA c i r = meetR [outC c i] r; unfold partA; rw [hp]; simp
        have tA : Told (meetR [outC c i] r) := Told.meet _ _
        generalize meetR [outC c i] r = PA at cM1 HA0 tA
        obtain ⟨A, ae⟩ := PA
        dsimp only at cM1 HA0
        go_wp2_with (go_at_call 50; refine (refHas_any _ _ _ (by assumption)).mono ?_; rintro e w0 ⟨rfl, hw0⟩; replace hw0 := hw0.symm; subst hw0; first | rw [hp] | rw [hq])
        refine cM1.mono ?_
        rintro e w9 ⟨v9, rfl, hO9, hB9⟩
        clear cM1
        replace hB7 := chain hB7 hB9
        replace hOM := OwnsC.below hOM hB9
        replace hOg := OwnsC.below hOg hB9
        replace hA7 := hA7.below hB9
        clear z0 z1
        have z0 := hA7.1
        have z1 := hA7.2.1
        obtain ⟨p9, q9, rfl⟩ := OwnsC.len hO9
        by_cases a0 : ae = 0
        · subst a0
          have rA : rightF A = true := tA.right
          cases hq : hasB c.2.val i
          · have HF : Hid (partF c i r (N, se) = (A, 0)) := by show partF c i r (N, se) = (A, 0); unfold partF; rw [HA0.out, hq]; simp
            have rG : rightF (A) = true := rA
            go_wp2_with (go_at_call 50; refine (refHas_any _ _ _ (by assumption)).mono ?_; rintro e w0 ⟨rfl, hw0⟩; replace hw0 := hw0.symm; subst hw0; first | rw [hp] | rw [hq])
            have cJ := rJoin_any M (A) _ _ w9 (OwnsC.row hOM) (OwnsC.row hO9) (by omega) (by have := rightF_len rG; omega)
            rw [joinF_ok rM rG] at cJ
            have HST : Hid (putS (l.take (k + 1)) i r (N, se) = joinR M (A)) := HStep.out.trans (by rw [stepP_some, HF.out]; simp)
            generalize joinR M (A) = PJ at cJ HST
            obtain ⟨J, je⟩ := PJ
            dsimp only at cJ HST
            refine cJ.mono ?_
            rintro e w20 ⟨v20, rfl, hO20, hB20⟩
            clear cJ
            have hBf := chain hB7 hB20
            obtain ⟨p20, q20, rfl⟩ := OwnsC.len hO20
            by_cases j0 : je = 0
            · subst j0
              go_wp2
              go_roundw
              case rel => exact ⟨k + 1, by omega, by go_num, by rw [HST.out], by rw [HST.out]; exact OwnsC.mono hO20 hB7.size, hBf⟩
              case measure => simp [intOf]; omega
            · have HE := HStuck.out (by rw [HST.out]; exact j0)
              have h3 : je = 3 := by have := HST.out; rw [HE.1] at this; injection this with _ h; exact h.symm
              have HE2 : Hid (putS l i r (N, se) = ([], 3)) := HE.2
              subst h3
              go_wp2
              go_ret2
              rw [HJ.out, HE2.out]
              exact ⟨_, rfl, World.ownsRow_nil _ _ _ _, hBf⟩
          · have cN2 := cN w9 hB7
            go_wp2_with (go_at_call 50; refine (refHas_any _ _ _ (by assumption)).mono ?_; rintro e w0 ⟨rfl, hw0⟩; replace hw0 := hw0.symm; subst hw0; first | rw [hp] | rw [hq])
            refine cN2.mono ?_
            rintro e w12 ⟨v12, rfl, hO12, hB12⟩
            clear cN2
            replace hB7 := chain hB7 hB12
            replace hOM := OwnsC.below hOM hB12
            replace hO9 := OwnsC.below hO9 hB12
            replace hA7 := hA7.below hB12
            clear z0 z1
            have z0 := hA7.1
            have z1 := hA7.2.1
            obtain ⟨p12, q12, rfl⟩ := OwnsC.len hO12
            by_cases s0 : se = 0
            · subst s0
              have cM2 := rMeet_ok (A) N _ _ w12 (OwnsC.row hO9) (OwnsC.row hO12) (rA) rN.out
              have HF : Hid (partF c i r (N, 0) = meetR (A) N) := by show partF c i r (N, 0) = meetR (A) N; unfold partF; rw [HA0.out, hq]; simp
              have tG : Told (meetR (A) N) := Told.meet _ _
              generalize meetR (A) N = PG at cM2 HF tG
              obtain ⟨G, pe⟩ := PG
              dsimp only at cM2 HF
              go_wp2_with (go_at_call 50; refine (refHas_any _ _ _ (by assumption)).mono ?_; rintro e w0 ⟨rfl, hw0⟩; replace hw0 := hw0.symm; subst hw0; first | rw [hp] | rw [hq])
              refine cM2.mono ?_
              rintro e w13 ⟨v13, rfl, hO13, hB13⟩
              clear cM2
              replace hB7 := chain hB7 hB13
              replace hOM := OwnsC.below hOM hB13
              replace hO9 := OwnsC.below hO9 hB13
              replace hA7 := hA7.below hB13
              clear z0 z1
              have z0 := hA7.1
              have z1 := hA7.2.1
              obtain ⟨p13, q13, rfl⟩ := OwnsC.len hO13
              by_cases pe0 : pe = 0
              · subst pe0
                have rG : rightF G = true := tG.right
                go_wp2_with fail
                have cJ := rJoin_any M G _ _ w13 (OwnsC.row hOM) (OwnsC.row hO13) (by omega) (by have := rightF_len rG; omega)
                rw [joinF_ok rM rG] at cJ
                have HST : Hid (putS (l.take (k + 1)) i r (N, 0) = joinR M G) := HStep.out.trans (by rw [stepP_some, HF.out]; simp)
                generalize joinR M G = PJ at cJ HST
                obtain ⟨J, je⟩ := PJ
                dsimp only at cJ HST
                refine cJ.mono ?_
                rintro e w20 ⟨v20, rfl, hO20, hB20⟩
                clear cJ
                have hBf := chain hB7 hB20
                obtain ⟨p20, q20, rfl⟩ := OwnsC.len hO20
                by_cases j0 : je = 0
                · subst j0
                  go_wp2
                  go_roundw
                  case rel => exact ⟨k + 1, by omega, by go_num, by rw [HST.out], by rw [HST.out]; exact OwnsC.mono hO20 hB7.size, hBf⟩
                  case measure => simp [intOf]; omega
                · have HE := HStuck.out (by rw [HST.out]; exact j0)
                  have h3 : je = 3 := by have := HST.out; rw [HE.1] at this; injection this with _ h; exact h.symm
                  have HE2 : Hid (putS l i r (N, 0) = ([], 3)) := HE.2
                  subst h3
                  go_wp2
                  go_ret2
                  rw [HJ.out, HE2.out]
                  exact ⟨_, rfl, World.ownsRow_nil _ _ _ _, hBf⟩
              · skip
                have HST : Hid (putS (l.take (k + 1)) i r (N, 0) = ([], pe)) := HStep.out.trans (by rw [stepP_some, HF.out]; simp [pe0])
                have HE := HStuck.out (by rw [HST.out]; exact pe0)
                have h3 : pe = 3 := by have := HST.out; rw [HE.1] at this; injection this with _ h; exact h.symm
                have HE2 : Hid (putS l i r (N, 0) = ([], 3)) := HE.2
                subst h3
                go_wp2_with (go_at_call 50; refine (refHas_any _ _ _ (by assumption)).mono ?_; rintro e w0 ⟨rfl, hw0⟩; replace hw0 := hw0.symm; subst hw0; first | rw [hp] | rw [hq])
                go_ret2
                rw [HJ.out, HE2.out]
                exact ⟨_, rfl, World.ownsRow_nil _ _ _ _, hB7⟩
            · have HF : Hid (partF c i r (N, se) = ([], se)) := by show partF c i r (N, se) = ([], se); unfold partF; rw [HA0.out, hq]; simp [s0]
              have pe0 : se ≠ 0 := s0
              have HST : Hid (putS (l.take (k + 1)) i r (N, se) = ([], se)) := HStep.out.trans (by rw [stepP_some, HF.out]; simp [pe0])
              have HE := HStuck.out (by rw [HST.out]; exact pe0)
              have h3 : se = 3 := by have := HST.out; rw [HE.1] at this; injection this with _ h; exact h.symm
              have HE2 : Hid (putS l i r (N, se) = ([], 3)) := HE.2
              subst h3
              go_wp2_with (go_at_call 50; refine (refHas_any _ _ _ (by assumption)).mono ?_; rintro e w0 ⟨rfl, hw0⟩; replace hw0 := hw0.symm; subst hw0; first | rw [hp] | rw [hq])
              go_ret2
              rw [HJ.out, HE2.out]
              exact ⟨_, rfl, World.ownsRow_nil _ _ _ _, hB7⟩
        · have HF : Hid (partF c i r (N, se) = ([], ae)) := by
            have h3 := tA.no a0
            show partF c i r (N, se) = ([], ae)
            injection h3 with h4 h5
            unfold partF; rw [HA0.out]; simp [a0, h4]
          have pe0 : ae ≠ 0 := a0
          have HST : Hid (putS (l.take (k + 1)) i r (N, se) = ([], ae)) := HStep.out.trans (by rw [stepP_some, HF.out]; simp [pe0])
          have HE := HStuck.out (by rw [HST.out]; exact pe0)
          have h3 : ae = 3 := by have := HST.out; rw [HE.1] at this; injection this with _ h; exact h.symm
          have HE2 : Hid (putS l i r (N, se) = ([], 3)) := HE.2
          subst h3
          go_wp2_with (go_at_call 50; refine (refHas_any _ _ _ (by assumption)).mono ?_; rintro e w0 ⟨rfl, hw0⟩; replace hw0 := hw0.symm; subst hw0; first | rw [hp] | rw [hq])
          go_ret2
          rw [HJ.out, HE2.out]
          exact ⟨_, rfl, World.ownsRow_nil _ _ _ _, hB7⟩
    · obtain rfl : k = n := by omega
      have e : l.take k = l := List.take_of_length_le (by rw [← Hn.out]; exact Nat.le_refl _)
      rw [e] at hO HZ
      have HE : Hid (putR l i r = ((putS l i r (N, se)).1, 0)) := HJ.out.trans (by rw [← HZ.out])
      obtain ⟨pM, qM, rfl⟩ := OwnsC.len hO
      go_wp2
      go_ret2
      rw [HE.out]
      exact ⟨_, rfl, hO, hny⟩
end Go.Proofs.Ytkklmioejgpknaa

namespace Go.Proofs.Ytkklmioejgpknaa
open Go.RowKit
set_option linter.unusedVariables false
set_option linter.unusedSimpArgs false

set_option maxRecDepth 100000 in
set_option maxHeartbeats 2000000 in
theorem rPut_any (l r : List C) (i : Int) (vl vr : Value) (w : World) (hl : CRow w vl l) (hr : CRow w vr r) (hll : l.length ≤ 40000) (hrl : r.length ≤ 40000) :
    Calls Try.prog 24 #[vl, .int .i64 i, vr] w fun e w' => ∃ v, e = .returned (.tuple #[v, .int .i64 (putF l i r).2]) ∧ OwnsC w' w.heap.size v (putF l i r).1 ∧ Below w.heap.size w w' := by
  by_cases hok : rightF l = true ∧ rightF r = true ∧ ¬ i < 0 ∧ ¬ 24 ≤ i
  · obtain ⟨hf, hg, h0, h1⟩ := hok
    rw [putF_ok hf hg (isDimB_yes (by omega) (by omega))]
    exact rPut_ok l r i vl vr w hl hr hf hg h0 h1
  · have HJ : Hid (putF l i r = ([], 2)) := by
      show putF l i r = ([], 2)
      unfold putF
      refine if_neg fun h => hok ?_
      simp only [Bool.and_eq_true] at h
      have hd : 0 ≤ i ∧ i < 24 := by simpa [isDimB] using h.2
      exact ⟨h.1.1, h.1.2, by omega, by omega⟩
    have c1 := rfright_any l vl w hl (by omega)
    have c2 := fun W (h : Below w.heap.size w W) => rfright_any r vr W (hr.below h) (by omega)
    obtain ⟨pl, cl, rfl⟩ := hl.len
    obtain ⟨pr, cr, rfl⟩ := hr.len
    clear hl hr
    cases hf : rightF l
    · rw [hf] at c1
      go_enter Try.func24, Try.ntmps24
      go_wp2_with fail
      refine c1.mono ?_
      rintro e w1 ⟨rfl, hB1⟩
      clear c1
      go_wp2
      go_ret2
      rw [HJ.out]
      exact ⟨_, rfl, World.ownsRow_nil _ _ _ _, hB1⟩
    · rw [hf] at c1
      cases hg : rightF r
      · simp only [hg] at c2
        go_enter Try.func24, Try.ntmps24
        go_wp2_with fail
        refine c1.mono ?_
        rintro e w1 ⟨rfl, hB1⟩
        clear c1
        replace c2 := c2 w1 hB1
        go_wp2_with fail
        refine c2.mono ?_
        rintro e w2 ⟨rfl, hB2⟩
        clear c2
        go_wp2
        go_ret2
        rw [HJ.out]
        exact ⟨_, rfl, World.ownsRow_nil _ _ _ _, chain hB1 hB2⟩
      · simp only [hg] at c2
        have hbad : i < 0 ∨ (¬ i < 0 ∧ 24 ≤ i) := by
          by_cases h0 : i < 0
          · exact .inl h0
          · by_cases h1 : 24 ≤ i
            · exact .inr ⟨h0, h1⟩
            · exact absurd ⟨hf, hg, h0, h1⟩ hok
        clear hok
        rcases hbad with h0 | ⟨h0, h1⟩
        · go_enter Try.func24, Try.ntmps24
          go_wp2_with fail
          refine c1.mono ?_
          rintro e w1 ⟨rfl, hB1⟩
          clear c1
          replace c2 := c2 w1 hB1
          go_wp2_with fail
          refine c2.mono ?_
          rintro e w2 ⟨rfl, hB2⟩
          clear c2
          go_wp2
          go_ret2
          rw [HJ.out]
          exact ⟨_, rfl, World.ownsRow_nil _ _ _ _, chain hB1 hB2⟩
        · go_enter Try.func24, Try.ntmps24
          go_wp2_with fail
          refine c1.mono ?_
          rintro e w1 ⟨rfl, hB1⟩
          clear c1
          replace c2 := c2 w1 hB1
          go_wp2_with fail
          refine c2.mono ?_
          rintro e w2 ⟨rfl, hB2⟩
          clear c2
          go_wp2
          go_ret2
          rw [HJ.out]
          exact ⟨_, rfl, World.ownsRow_nil _ _ _ _, chain hB1 hB2⟩

set_option maxRecDepth 100000 in
set_option maxHeartbeats 4000000 in
theorem walk_FormulaPuts (l : List C) (vl : Value) (i : Int) (hi : (Lit.int .i64 i).wf = true) (m : List C) (vm : Value) (fr : Int) (hfr : (Lit.int .i64 fr).wf = true) (by_ : Int) (hby : (Lit.int .i64 by_).wf = true) (w : World) (Rf : FRow w vl l) (Rg : FRow w vm m) :
    Calls Try.prog 5 #[vl, .int .i64 i, vm, .int .i64 fr, .int .i64 by_] w fun e w' => e = .returned (.bool true) ∧ Below w.heap.size w w' := by
  clear hi hfr hby
  obtain ⟨pl, cl, rfl⟩ := Rf.len
  obtain ⟨pm, cm, rfl⟩ := Rg.len
  have hB1 := below_alloc w (.cells #[Value.slice pl l.length cl, Value.slice pm m.length cm] 22)
  have c0 := great2 pl pm l.length m.length cl cm w
  by_cases hbig : 24 < l.length ∨ 24 < m.length
  · have hbb : (decide (24 < l.length) || decide (24 < m.length)) = true := by simpa using hbig
    rw [hbb] at c0
    clear Rf Rg
    go_enter Try.func5, Try.ntmps5
    go_wp2_with fail
    refine c0.mono ?_
    rintro e w1 ⟨rfl, hw1⟩
    rw [← hw1] at hB1
    clear c0 hw1
    go_wp2_with (go_at_call 10; refine (fworks_any _).mono ?_; rintro e w2 ⟨rfl, hB2⟩)
    go_ret
    exact ⟨rfl, chain hB1 hB2⟩
  · have hbb : (decide (24 < l.length) || decide (24 < m.length)) = false := by simp; omega
    rw [hbb] at c0
    have hl : l.length ≤ 24 := by omega
    have hm : m.length ≤ 24 := by omega
    clear hbig hbb
    have HF : Hid (∀ W, Below w.heap.size w W → FRow W (.slice pl l.length cl) l) := fun W h => Rf.below h
    have HG : Hid (∀ W, Below w.heap.size w W → FRow W (.slice pm m.length cm) m) := fun W h => Rg.below h
    clear Rf Rg
    have hJl := putF_len l i m
    have hMl := liftFF_len l fr by_
    have cJ := fun a b W ha hb => Put_any l m i a b W ha hb (by omega) (by omega)
    have cRJ := fun a b W ha hb => rPut_any l m i a b W ha hb (by omega) (by omega)
    have cM := fun a W ha => Lift_any l fr by_ a W ha (by omega)
    have cRM := fun a W ha => rLift_any l fr by_ a W ha (by omega)
    have cD := fun a W ha => Dims_any l a W ha (by omega)
    have cRD := fun a W ha => rDims_any l a W ha (by omega)
    generalize putF l i m = PJ at cJ cRJ hJl
    generalize liftFF l fr by_ = PM at cM cRM hMl
    generalize dimsN l = dl at cD cRD
    obtain ⟨J, e1⟩ := PJ
    obtain ⟨M, e2⟩ := PM
    dsimp only at cJ cRJ cM cRM hJl hMl
    have hdd : ((dl : Int) == (dl : Int)) = true := by simp
    go_enter Try.func5, Try.ntmps5
    go_wp2_with fail
    refine c0.mono ?_
    rintro e w5 ⟨rfl, hw5⟩
    rw [← hw5] at hB1
    clear c0 hw5
    have hB5 := hB1
    replace cJ := cJ _ _ w5 (HF.out w5 hB5) (HG.out w5 hB5)
    go_wp2_with fail
    refine cJ.mono ?_
    rintro e w6 ⟨v6, rfl, hO6, hB6⟩
    clear cJ
    obtain ⟨p6, q6, rfl⟩ := OwnsC.len hO6
    have hB06 := chain hB5 hB6
    replace cRJ := cRJ _ _ w6 (HF.out w6 hB06).row (HG.out w6 hB06).row
    go_wp2_with fail
    refine cRJ.mono ?_
    rintro e w7 ⟨v7, rfl, hO7, hB7⟩
    clear cRJ
    obtain ⟨p7, q7, rfl⟩ := OwnsC.len hO7
    have hB57 := chain hB6 hB7
    have hB07 := chain hB5 hB57
    replace cM := cM _ w7 (HF.out w7 hB07)
    go_wp2_with fail
    refine cM.mono ?_
    rintro e w8 ⟨v8, rfl, hO8, hB8⟩
    clear cM
    obtain ⟨p8, q8, rfl⟩ := OwnsC.len hO8
    have hB08 := chain hB07 hB8
    replace cRM := cRM _ w8 (HF.out w8 hB08).row
    go_wp2_with fail
    refine cRM.mono ?_
    rintro e w9 ⟨v9, rfl, hO9, hB9⟩
    clear cRM
    obtain ⟨p9, q9, rfl⟩ := OwnsC.len hO9
    have b89 := hB9
    have b79 := chain hB8 b89
    have b69 := chain hB7 b79
    have b59 := chain hB6 b69
    have s7 : w6.heap.size ≤ w7.heap.size := hB7.size
    have s8 : w7.heap.size ≤ w8.heap.size := hB8.size
    have s5 : w5.heap.size ≤ w6.heap.size := hB6.size
    have s59 : w5.heap.size ≤ w9.heap.size := b59.size
    have g6 := own_lt hO6 (Nat.le_refl _)
    have a6 : OwnsC w9 w5.heap.size _ J := OwnsC.below hO6 b69
    have a7 : OwnsC w9 w6.heap.size _ J := OwnsC.below hO7 b79
    have a8 : OwnsC w9 w7.heap.size _ M := OwnsC.below hO8 b89
    have a9 : OwnsC w9 w8.heap.size _ M := hO9
    clear hO6 hO7 hO8 hO9
    have cS := lsame_any J e1 _ _ w5.heap.size w9 a6 (OwnsC.row a7) (by omega)
    go_wp2_with fail
    refine cS.mono ?_
    rintro e w12 ⟨rfl, hg12⟩
    clear cS
    have b12 : Below w5.heap.size w9 w12 := own_grown a6 hg12 s59
    have z8 := own_after hg12 (fun g h => Nat.lt_of_lt_of_le (g6 g h) s7) a8
    have z9 := own_after hg12 (fun g h => Nat.lt_of_lt_of_le (g6 g h) (Nat.le_trans s7 s8)) a9
    have cS := lsame_any M e2 _ _ w7.heap.size w12 z8 (OwnsC.row z9) (by omega)
    go_wp2_with fail
    refine cS.mono ?_
    rintro e w13 ⟨rfl, hg13⟩
    clear cS
    have b13 : Below w5.heap.size w12 w13 := own_grown (OwnsC.mono z8 (Nat.le_trans s5 s7)) hg13 (Nat.le_trans s59 b12.size)
    have b513 : Below w5.heap.size w5 w13 := b59.trans (b12.trans b13)
    have b013 := chain hB5 b513
    go_wp2_with fail
    refine (cD _ w13 (HF.out w13 b013).row).mono ?_
    rintro e w15 ⟨rfl, hB15⟩
    clear cD
    have b015 := chain b013 hB15
    go_wp2_with fail
    refine (cRD _ w15 (HF.out w15 b015).row).mono ?_
    rintro e w16 ⟨rfl, hB16⟩
    clear cRD
    have b016 := chain b015 hB16
    go_wp2_with (go_at_call 10; refine (fworks_any _).mono ?_; rintro e w19 ⟨rfl, hB19⟩)
    go_ret
    exact ⟨rfl, chain b016 hB19⟩
end Go.Proofs.Ytkklmioejgpknaa
