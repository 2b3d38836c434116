/- The dimensions of a term. -/
import Derived.Deep.RegionHeld
import Derived.Test.YtjimednocmdpnaaGreatYUses
import Derived.Test.YtjimednocmdpnaaGreatYCopyB
namespace Go.Proofs.YtjimednocmdpnaaGreat
open Go.RowKit
attribute [local go_sem] Oper.semAt_some
set_option linter.unusedVariables false
set_option linter.unusedSimpArgs false

/-! ### a region that draws its order, within a loop over a function -/
theorem rowsIn_wide {n : Nat} {P : Program} {row : String} {args : Array Value} {w : World} {R : Value → World → Prop} (h : Rows P row args w R) : RowsIn Fence.wide n P row args w R :=
  fun c cs _ => let ⟨v, w', r, s⟩ := h c cs; ⟨v, w', r, stepsIn_wide.2 s⟩
theorem inOp_of_op {l m : Nat} {P : Program} {ops : Array Oper} {Q : Exit → Act → World → Prop} (hQ : ¬ LetsOut Q) (hc : ∀ (i : Nat) (o : Oper), ops[i]? = some o → ∀ c, o.op ≠ Op.defer c) {i : Nat} {a : Act} {w : World} {K K' : Act → World → Prop} (h : ∀ a w, K a w → K' a w) (hh : wpOp P ops Q i K a w) : wpOpIn (Fence.wide.inRound l) m P ops Q i K' a w := by
  unfold wpOp at hh
  unfold wpOpIn
  split
  · rename_i ho; simp only [ho] at hh; exact h _ _ hh
  · rename_i o ho
    simp only [ho] at hh
    split
    · rename_i hw
      simp only [hw, if_true] at hh
      rcases hh with hh | hh
      · refine ⟨fun f _ => trivial, ?_⟩
        rw [Oper.semAt_plain _ _ o (hc i o ho)]
        unfold Oper.wp at hh
        generalize (execOp a.eval o).run P w = r at *
        cases r with
        | ok x w' =>
          cases x <;> simp only [Oper.upon] at hh <;> simp only [Oper.uponIn]
          case value v => exact h _ _ hh
          case skip => exact h _ _ hh
          case defer d => exact h _ _ hh
          case enter f args =>
            refine ⟨fun h => (by cases h), CallsIn.inRound l (callsIn_wide.2 (hh.mono fun e w'' he => ?_))⟩
            cases e with
            | returned v => exact h _ _ he
            | panicked c => exact he
            | outgrown => exact he
          case row row args => exact ⟨fun h => (by cases h), (rowsIn_wide (hh.mono fun v w'' he => h _ _ he) : RowsIn Fence.wide _ P row args w' _)⟩
        | halt x w' =>
          cases x <;> simp only [Oper.upon] at hh <;> simp only [Oper.uponIn]
          case panic u => exact hh
      · exact absurd hh.2 hQ
    · rename_i hw; simp only [hw] at hh; exact ⟨fun f _ => trivial, h _ _ hh⟩
theorem inAny_of_any {l m : Nat} {P : Program} {md : Region.Mode} {ops : Array Oper} {Q : Exit → Act → World → Prop} (hQ : ¬ LetsOut Q) (hc : ∀ (i : Nat) (o : Oper), ops[i]? = some o → ∀ c, o.op ≠ Op.defer c) :
    ∀ (f : Nat) (listed : Array Bool) (a : Act) (w : World), wpAny P md ops Q f listed a w → wpAnyIn (Fence.wide.inRound l) m P md ops Q f listed a w
  | 0, listed, a, w, h => h
  | f + 1, listed, a, w, h => ⟨h.1, fun i hi => inOp_of_op hQ hc (fun a' w' h' => inAny_of_any hQ hc f _ a' w' h') (h.2 i hi)⟩
/-- It ends as it should. -/
def nrm (Q : Exit → Act → World → Prop) (e : Exit) (a : Act) (w : World) : Prop := e = .normal ∧ Q .normal a w
theorem nrm_out {Q : Exit → Act → World → Prop} : ¬ LetsOut (nrm Q) := fun h => (by obtain ⟨_, _, h⟩ := h; cases h.1)
theorem nrm_to {Q : Exit → Act → World → Prop} (e : Exit) (a : Act) (w : World) (h : nrm Q e a w) : Q e a w := by rw [h.1]; exact h.2
theorem region_nrm {id : Nat} {P : Program} {ops : Array Oper} {Q : Exit → Act → World → Prop} {S : World → Prop} {a : Act} {w : World} (hm : P.follows .mixedOrders = true) (hS : S w.drew)
    (h : S w.drew → wpAnyH P .any ops (nrm Q) S ops.size (Array.replicate ops.size false) a w.drew) : (Code.region id ops true).wp P Q a w := wp_mono (wp_region_held_drew hm hS h) nrm_to
theorem in_region_held {l m id : Nat} {P : Program} {ops : List Oper} {Q : Exit → Act → World → Prop} {S : World → Prop} {a : Act} {w : World} (hm : P.follows .mixedOrders = true) (hcalm : calmB ops = true) (hS : S w.drew)
    (h : S w.drew → wpAnyH P .any ops.toArray (nrm Q) S ops.toArray.size (Array.replicate ops.toArray.size false) a w.drew) : (Code.region id ops.toArray true).wpIn (Fence.wide.inRound l) m P Q a w :=
  wpIn_mono (wpIn_region_any hm (inAny_of_any nrm_out (fun i o hi => calm_op hcalm hi) _ _ _ _ (wpAny_of_held _ _ _ _ (h hS)))) nrm_to
/-! ### the dimensions of a node's own rows -/
def ownTo (t : Tm) (k : Nat) : Nat := dimsN t.r ||| orL ((t.sys.take k).map fun b => dimsN b.1)
theorem ownTo_zero (t : Tm) : ownTo t 0 = dimsN t.r := by simp [ownTo, orL]
theorem ownTo_step {t : Tm} {k : Nat} {b : List C × List Tm} (h : t.sys[k]? = some b) : ownTo t (k + 1) = ownTo t k ||| dimsN b.1 := by
  unfold ownTo
  rw [List.take_add_one, h]
  simp only [Option.toList_some, List.map_append, List.map_cons, List.map_nil]
  rw [orL_snoc, Nat.or_assoc]
theorem ownTo_all {t : Tm} {k : Nat} (h : t.sys.length ≤ k) : ownTo t k = t.own := by
  unfold ownTo Tm.own; rw [List.take_of_length_le h]
theorem orL_lt {l : List Nat} {b : Nat} (h : ∀ x ∈ l, x < 2 ^ b) : orL l < 2 ^ b := by
  refine Nat.lt_pow_two_of_testBit _ fun i hi => ?_
  rw [orL_bit, List.any_eq_false]
  intro x hx
  rw [Nat.testBit_lt_two_pow (Nat.lt_of_lt_of_le (h x hx) (Nat.pow_le_pow_right (by omega) hi))]; simp
theorem ownTo_lt (t : Tm) (k : Nat) : ownTo t k < 16777216 := by
  have e : (16777216 : Nat) = 2 ^ 24 := by decide
  rw [e]
  refine Nat.or_lt_two_pow (by rw [← e]; exact dimsN_lt _) (orL_lt fun x hx => ?_)
  obtain ⟨b, _, rfl⟩ := List.mem_map.1 hx
  rw [← e]; exact dimsN_lt _
/-- The dimensions of a term, as far as its parts were gone through. -/
def dmTo (t : Tm) (bd k : Nat) : Nat := (t.own >>> bd) ||| orL ((t.pts.take k).map fun p => dmT p.1 (bd + p.2.2))
theorem dmTo_zero (t : Tm) (bd : Nat) : dmTo t bd 0 = t.own >>> bd := by simp [dmTo, orL]
theorem dmTo_step {t : Tm} {bd k : Nat} {p : Tm × Nat × Nat} (h : t.pts[k]? = some p) : dmTo t bd (k + 1) = dmTo t bd k ||| dmT p.1 (bd + p.2.2) := by
  unfold dmTo
  rw [List.take_add_one, h]
  simp only [Option.toList_some, List.map_append, List.map_cons, List.map_nil]
  rw [orL_snoc, Nat.or_assoc]
theorem dmTo_all (t : Tm) (bd : Nat) : dmTo t bd t.pts.length = dmT t bd := by
  unfold dmTo; rw [List.take_of_length_le (Nat.le_refl _), dm_eq]
theorem dm_lt24 (t : Tm) (bd : Nat) : dmT t bd < 16777216 := by
  have e : (16777216 : Nat) = 2 ^ 24 := by decide
  rw [e]
  refine Nat.lt_pow_two_of_testBit _ fun i hi => ?_
  rw [dm_bit _ t (Nat.le_refl _)]
  exact hs_hi _ t (Nat.le_refl _) _ (by omega)
theorem own_lt (t : Tm) : t.own < 16777216 := by rw [← ownTo_all (Nat.le_refl _)]; exact ownTo_lt _ _
theorem dmTo_lt (t : Tm) (bd k : Nat) : dmTo t bd k < 16777216 := by
  have e : (16777216 : Nat) = 2 ^ 24 := by decide
  rw [e]
  refine Nat.or_lt_two_pow ?_ (orL_lt fun x hx => ?_)
  · rw [← e, Nat.shiftRight_eq_div_pow]; exact Nat.lt_of_le_of_lt (Nat.div_le_self _ _) (own_lt t)
  · obtain ⟨p, _, rfl⟩ := List.mem_map.1 hx
    rw [← e]; exact dm_lt24 _ _
theorem or24 {a b : Nat} (ha : a < 16777216) (hb : b < 16777216) : a ||| b < 16777216 := by
  have e : (16777216 : Nat) = 2 ^ 24 := by decide
  rw [e] at *; exact Nat.or_lt_two_pow ha hb
/-- How it stands between two parts. -/
def DmI (t : Tm) (bd : Nat) (w4 : World) (s3 s5 : Nat) (k : Nat) (W : World) : Prop :=
  Kn (fun q => q < w4.heap.size ∧ q ≠ s3 ∧ q ≠ s5) w4 W ∧ W.heap[s5]? = some (.cells #[.int .u32 ((dmTo t bd k : Nat) : Int)] 41 (0, 0))
theorem DmI.keep {t : Tm} {bd : Nat} {w4 : World} {s3 s5 : Nat} (hs : s5 < w4.heap.size ∧ s5 ≠ s3) : ∀ k W1 W2, DmI t bd w4 s3 s5 k W1 → Kn (fun g => g < w4.heap.size ∧ g ≠ s3) W1 W2 → DmI t bd w4 s3 s5 k W2 :=
  fun k W1 W2 ⟨b, c⟩ h => ⟨b.trans (h.sub fun q hq => ⟨hq.1, hq.2.1⟩), (h.block s5 hs (Array.getElem?_eq_some_iff.1 c).1).trans c⟩
end Go.Proofs.YtjimednocmdpnaaGreat
