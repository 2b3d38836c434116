/- The dimensions of a term. -/
import Derived.Deep.RegionHeld
import Derived.Test.YticoacgoapalhabGreatYUses
import Derived.Test.YticoacgoapalhabGreatYCopyB
namespace Go.Proofs.YticoacgoapalhabGreat
open Go.RowKit
attribute [local go_sem] Oper.semAt_some
set_option linter.unusedVariables false
set_option linter.unusedSimpArgs false

/-! ### a region that draws its order, within a loop over a function -/
theorem rowsIn_wide {n : Nat} {P : Program} {row : String} {args : Array Value} {w : World} {R : Value → World → Prop} (h : Rows P row args w R) : RowsIn Fence.wide n P row args w R :=
  fun c cs _ => let ⟨v, w', r, s⟩ := h c cs; ⟨v, w', r, stepsIn_wide.2 s⟩
theorem inOp_of_op {l m : Nat} {P : Program} {ops : Array Oper} {Q : Exit → Act → World → Prop} (hQ : ¬ LetsOut Q) (hc : ∀ (i : Nat) (o : Oper), ops[i]? = some o → ∀ c, o.op ≠ Op.defer c) {i : Nat} {a : Act} {w : World} {K K' : Act → World → Prop} (h : ∀ a w, K a w → K' a w) (hh : wpOp P ops Q i K a w) : wpOpIn (Fence.wide.inRound l) m P ops Q i K' a w := by
  unfold wpOp at hh
  unfold wpOpIn
  split
  · rename_i ho; simp only [ho] at hh; exact h _ _ hh
  · rename_i o ho
    simp only [ho] at hh
    split
    · rename_i hw
      simp only [hw, if_true] at hh
      rcases hh with hh | hh
      · refine ⟨fun f _ => trivial, ?_⟩
        rw [Oper.semAt_plain _ _ o (hc i o ho)]
        unfold Oper.wp at hh
        generalize (execOp a.eval o).run P w = r at *
        cases r with
        | ok x w' =>
          cases x <;> simp only [Oper.upon] at hh <;> simp only [Oper.uponIn]
          case value v => exact h _ _ hh
          case skip => exact h _ _ hh
          case defer d => exact h _ _ hh
          case enter f args =>
            refine ⟨fun h => (by cases h), CallsIn.inRound l (callsIn_wide.2 (hh.mono fun e w'' he => ?_))⟩
            cases e with
            | returned v => exact h _ _ he
            | panicked c => exact he
            | outgrown => exact he
          case row row args => exact ⟨fun h => (by cases h), (rowsIn_wide (hh.mono fun v w'' he => h _ _ he) : RowsIn Fence.wide _ P row args w' _)⟩
        | halt x w' =>
          cases x <;> simp only [Oper.upon] at hh <;> simp only [Oper.uponIn]
          case panic u => exact hh
      · exact absurd hh.2 hQ
    · rename_i hw; simp only [hw] at hh; exact ⟨fun f _ => trivial, h _ _ hh⟩
theorem inAny_of_any {l m : Nat} {P : Program} {md : Region.Mode} {ops : Array Oper} {Q : Exit → Act → World → Prop} (hQ : ¬ LetsOut Q) (hc : ∀ (i : Nat) (o : Oper), ops[i]? = some o → ∀ c, o.op ≠ Op.defer c) :
    ∀ (f : Nat) (listed : Array Bool) (a : Act) (w : World), wpAny P md ops Q f listed a w → wpAnyIn (Fence.wide.inRound l) m P md ops Q f listed a w
  | 0, listed, a, w, h => h
  | f + 1, listed, a, w, h => ⟨h.1, fun i hi => inOp_of_op hQ hc (fun a' w' h' => inAny_of_any hQ hc f _ a' w' h') (h.2 i hi)⟩
/-- It ends as it should. -/
def nrm (Q : Exit → Act → World → Prop) (e : Exit) (a : Act) (w : World) : Prop := e = .normal ∧ Q .normal a w
theorem nrm_out {Q : Exit → Act → World → Prop} : ¬ LetsOut (nrm Q) := fun h => (by obtain ⟨_, _, h⟩ := h; cases h.1)
theorem nrm_to {Q : Exit → Act → World → Prop} (e : Exit) (a : Act) (w : World) (h : nrm Q e a w) : Q e a w := by rw [h.1]; exact h.2
theorem region_nrm {id : Nat} {P : Program} {ops : Array Oper} {Q : Exit → Act → World → Prop} {S : World → Prop} {a : Act} {w : World} (hm : P.follows .mixedOrders = true) (hS : S w.drew)
    (h : S w.drew → wpAnyH P .any ops (nrm Q) S ops.size (Array.replicate ops.size false) a w.drew) : (Code.region id ops true).wp P Q a w := wp_mono (wp_region_held_drew hm hS h) nrm_to
theorem in_region_held {l m id : Nat} {P : Program} {ops : List Oper} {Q : Exit → Act → World → Prop} {S : World → Prop} {a : Act} {w : World} (hm : P.follows .mixedOrders = true) (hcalm : calmB ops = true) (hS : S w.drew)
    (h : S w.drew → wpAnyH P .any ops.toArray (nrm Q) S ops.toArray.size (Array.replicate ops.toArray.size false) a w.drew) : (Code.region id ops.toArray true).wpIn (Fence.wide.inRound l) m P Q a w :=
  wpIn_mono (wpIn_region_any hm (inAny_of_any nrm_out (fun i o hi => calm_op hcalm hi) _ _ _ _ (wpAny_of_held _ _ _ _ (h hS)))) nrm_to
/-! ### the dimensions of a node's own rows -/
def ownTo (t : Tm) (k : Nat) : Nat := dimsN t.r ||| orL ((t.sys.take k).map fun b => dimsN b.1)
theorem ownTo_zero (t : Tm) : ownTo t 0 = dimsN t.r := by simp [ownTo, orL]
theorem ownTo_step {t : Tm} {k : Nat} {b : List C × List Tm} (h : t.sys[k]? = some b) : ownTo t (k + 1) = ownTo t k ||| dimsN b.1 := by
  unfold ownTo
  rw [List.take_add_one, h]
  simp only [Option.toList_some, List.map_append, List.map_cons, List.map_nil]
  rw [orL_snoc, Nat.or_assoc]
theorem ownTo_all {t : Tm} {k : Nat} (h : t.sys.length ≤ k) : ownTo t k = t.own := by
  unfold ownTo Tm.own; rw [List.take_of_length_le h]
theorem orL_lt {l : List Nat} {b : Nat} (h : ∀ x ∈ l, x < 2 ^ b) : orL l < 2 ^ b := by
  refine Nat.lt_pow_two_of_testBit _ fun i hi => ?_
  rw [orL_bit, List.any_eq_false]
  intro x hx
  rw [Nat.testBit_lt_two_pow (Nat.lt_of_lt_of_le (h x hx) (Nat.pow_le_pow_right (by omega) hi))]; simp
theorem ownTo_lt (t : Tm) (k : Nat) : ownTo t k < 16777216 := by
  have e : (16777216 : Nat) = 2 ^ 24 := by decide
  rw [e]
  refine Nat.or_lt_two_pow (by rw [← e]; exact dimsN_lt _) (orL_lt fun x hx => ?_)
  obtain ⟨b, _, rfl⟩ := List.mem_map.1 hx
  rw [← e]; exact dimsN_lt _
/-- The dimensions of a term, as far as its parts were gone through. -/
def dmTo (t : Tm) (bd k : Nat) : Nat := (t.own >>> bd) ||| orL ((t.pts.take k).map fun p => dmT p.1 (bd + p.2.2))
theorem dmTo_zero (t : Tm) (bd : Nat) : dmTo t bd 0 = t.own >>> bd := by simp [dmTo, orL]
theorem dmTo_step {t : Tm} {bd k : Nat} {p : Tm × Nat × Nat} (h : t.pts[k]? = some p) : dmTo t bd (k + 1) = dmTo t bd k ||| dmT p.1 (bd + p.2.2) := by
  unfold dmTo
  rw [List.take_add_one, h]
  simp only [Option.toList_some, List.map_append, List.map_cons, List.map_nil]
  rw [orL_snoc, Nat.or_assoc]
theorem dmTo_all (t : Tm) (bd : Nat) : dmTo t bd t.pts.length = dmT t bd := by
  unfold dmTo; rw [List.take_of_length_le (Nat.le_refl _), dm_eq]
theorem dm_lt24 (t : Tm) (bd : Nat) : dmT t bd < 16777216 := by
  have e : (16777216 : Nat) = 2 ^ 24 := by decide
  rw [e]
  refine Nat.lt_pow_two_of_testBit _ fun i hi => ?_
  rw [dm_bit _ t (Nat.le_refl _)]
  exact hs_hi _ t (Nat.le_refl _) _ (by omega)
theorem own_lt (t : Tm) : t.own < 16777216 := by rw [← ownTo_all (Nat.le_refl _)]; exact ownTo_lt _ _
theorem dmTo_lt (t : Tm) (bd k : Nat) : dmTo t bd k < 16777216 := by
  have e : (16777216 : Nat) = 2 ^ 24 := by decide
  rw [e]
  refine Nat.or_lt_two_pow ?_ (orL_lt fun x hx => ?_)
  · rw [← e, Nat.shiftRight_eq_div_pow]; exact Nat.lt_of_le_of_lt (Nat.div_le_self _ _) (own_lt t)
  · obtain ⟨p, _, rfl⟩ := List.mem_map.1 hx
    rw [← e]; exact dm_lt24 _ _
theorem or24 {a b : Nat} (ha : a < 16777216) (hb : b < 16777216) : a ||| b < 16777216 := by
  have e : (16777216 : Nat) = 2 ^ 24 := by decide
  rw [e] at *; exact Nat.or_lt_two_pow ha hb
def DmC (N : Nat) : Prop := ∀ (t : Tm) (bv bd g off : Nat) (ra : Option Addr) (rc : Nat) (ka : Option Addr) (kc : Nat) (sa : Option Addr) (sc : Nat) (w : World),
  Cs6 w g off t ra rc ka kc sa sc → TmTop Tt w t ra rc ka kc sa sc → blk t ≤ N → bv + blk t ≤ 100000 → bd + blk t ≤ 100000 →
  Calls Tryz.prog 28 #[.pointer (some ⟨g, off, none⟩), .agg #[.int .i64 (bv : Int), .int .i64 (bd : Int)]] w fun e w' => e = .returned (.int .u32 ((dmT t bd : Nat) : Int)) ∧ Below w.heap.size w w'
/-- How it stands between two parts. -/
def DmI (t : Tm) (bd : Nat) (w4 : World) (s3 s5 : Nat) (k : Nat) (W : World) : Prop :=
  Kn (fun q => q < w4.heap.size ∧ q ≠ s3 ∧ q ≠ s5) w4 W ∧ W.heap[s5]? = some (.cells #[.int .u32 ((dmTo t bd k : Nat) : Int)] 27 (0, 0))
theorem DmI.keep {t : Tm} {bd : Nat} {w4 : World} {s3 s5 : Nat} (hs : s5 < w4.heap.size ∧ s5 ≠ s3) : ∀ k W1 W2, DmI t bd w4 s3 s5 k W1 → Kn (fun g => g < w4.heap.size ∧ g ≠ s3) W1 W2 → DmI t bd w4 s3 s5 k W2 :=
  fun k W1 W2 ⟨b, c⟩ h => ⟨b.trans (h.sub fun q hq => ⟨hq.1, hq.2.1⟩), (h.block s5 hs (Array.getElem?_eq_some_iff.1 c).1).trans c⟩
set_option maxRecDepth 100000 in
set_option maxHeartbeats 8000000 in
theorem dims_step (N : Nat) (IH : DmC N) : DmC (N + 1) := by
  intro t bv bd g off ra rc ka kc sa sc w h6 ht hN hbv hbd
  have hpos := blk_pos t
  obtain ⟨hl1, hl2, hl3, hl4⟩ := blk_lens t
  obtain ⟨w1, hw1⟩ : ∃ w1, w1 = w.alloc (.cells #[.int .i64 (bv : Int), .int .i64 (bd : Int)] 61) := ⟨_, rfl⟩
  have b1 : Below w.heap.size w w1 := by rw [hw1]; exact belowA _ _
  have s1 : w1.heap.size = w.heap.size + 1 := by rw [hw1]; simp
  have m1 : w1.heap[w.heap.size]? = some (.cells #[.int .i64 (bv : Int), .int .i64 (bd : Int)] 61 (0, 0)) := by rw [hw1]; exact heapNew w _
  have k3 := (h6.blw b1).c3
  have cD := Dims_any t.r _ w1 (ht.blw b1).row.row (by omega)
  obtain ⟨R, hR⟩ : ∃ R, R = t.r.length := ⟨_, rfl⟩
  rw [← hR] at k3 cD
  have HW : Hid (_ = _) := hw1
  clear hw1 hR
  refine (callsIn_wide (n := 4)).1 ?_
  refine callsIn_of_wp_marks Tryz.func28 rfl trivial ?_ rfl
  simp only [Tryz.ntmps28, List.size_toArray, List.length_cons, List.length_nil, Nat.reduceAdd, Nat.reduceSub, Array.replicate_succ, Array.replicate_zero, List.push_toArray, List.append_toArray, List.nil_append, List.cons_append]
  refine wpIn_wide.2 ?_
  go_upto_region 1 with fail
  rw [← HW.out]
  clear HW
  go_wp2_with fail
  refine cD.mono ?_
  rintro e w2 ⟨rfl, b2⟩
  clear cD k3
  have x0 := ownTo_zero t
  obtain ⟨X0, hX0⟩ : ∃ X, X = dimsN t.r := ⟨_, rfl⟩
  rw [← hX0] at x0 ⊢
  have HX0 : Hid (ownTo t 0 = X0) := x0
  clear x0 hX0
  obtain ⟨w3, hw3⟩ : ∃ w3, w3 = w2.alloc (.cells #[.int .u32 ((X0 : Nat) : Int)] 27) := ⟨_, rfl⟩
  have b3 : Below w2.heap.size w2 w3 := by rw [hw3]; exact belowA _ _
  have b13 := bchain b2 b3
  have m5 : w3.heap[w2.heap.size]? = some (.cells #[.int .u32 ((X0 : Nat) : Int)] 27 (0, 0)) := by rw [hw3]; exact heapNew w2 _
  have sz3 : w3.heap.size = w2.heap.size + 1 := by rw [hw3]; simp
  have b03 := bchain b1 b13
  have k5 := (h6.blw b03).c5
  obtain ⟨M, hM⟩ : ∃ M, M = t.sys.length := ⟨_, rfl⟩
  have HM : Hid (M = t.sys.length) := hM
  rw [← hM] at k5 hl4
  obtain ⟨s, hse⟩ : ∃ s, s = w.heap.size := ⟨_, rfl⟩
  have ht3 : TmTop (fun q => q < s) w3 t ra rc ka kc sa sc := by rw [hse]; exact ht.lo.keep b03.size (fun _ h => h) (fun q _ hs => b03.block q hs)
  have hg3 : g < s := by rw [hse]; exact h6.lt
  have h63 := h6.blw b03
  have n1 : w3.heap[s]? = some (.cells #[.int .i64 (bv : Int), .int .i64 (bd : Int)] 61 (0, 0)) := by rw [hse]; exact (b13.block _ (by omega)).trans m1
  have hs2 := b2.size
  obtain ⟨s5, hs5⟩ : ∃ s5, s5 = w2.heap.size := ⟨_, rfl⟩
  rw [← hs5] at m5 sz3
  have hss : s < s5 := by omega
  have HB : Hid (Below s w w3) := by rw [hse]; exact b03
  have Hse : Hid (s = w.heap.size) := hse
  have H3 : Hid (_ = _) := hw3
  have H5 : Hid (s5 = w2.heap.size) := hs5
  go_upto_region 2 with fail
  rw [← H3.out]
  simp only [← hs5, ← hse]
  clear H3 hw3 m1 hM hse hs5 b1 b2 b3 b13 b03
  go_wp2_with fail
  clear k5
  go_loopw [20] (fun i wr => ∃ k : Nat, k ≤ M ∧ i = .int .i64 k ∧ Kn (fun q => q ≠ s5) w3 wr ∧ wr.heap[s5]? = some (.cells #[.int .u32 ((ownTo t k : Nat) : Int)] 27 (0, 0))) (fun i _ => M - (intOf i).toNat)
  case atStart => exact ⟨0, Nat.zero_le _, rfl, Kn.refl _ _, by rw [HX0.out]; exact m5⟩
  case round =>
    obtain ⟨wo, hwo⟩ : ∃ wo, wo = wr := ⟨_, rfl⟩
    subst hwo
    obtain ⟨k, hk, rfl, hKn, hall⟩ := hrel
    have hso := hKn.size
    by_cases hlt : k < M
    · have hkI : (k : Int) < (M : Int) := by omega
      obtain ⟨b, hb⟩ := someL (l := t.sys) (k := k) (by rw [← HM.out]; exact hlt)
      have hbl := blk_br (List.mem_of_getElem? hb)
      have HST : Hid (_ = _) := ownTo_step hb
      obtain ⟨g1, off1, fa, fc, ka1, kc1, rfl, hg1, q2, qf, qk⟩ := (ht3.kn hKn (fun q hq => by omega)).sys.at hb
      obtain ⟨w6, hw6⟩ : ∃ w6, w6 = wo.alloc (.cells #[.slice fa b.1.length fc, .slice ka1 b.2.length kc1] 42) := ⟨_, rfl⟩
      have b6 : Below wo.heap.size wo w6 := by rw [hw6]; exact belowA _ _
      have s6 : w6.heap.size = wo.heap.size + 1 := by rw [hw6]; simp
      have q6 : Cs2 w6 wo.heap.size 0 b fa fc ka1 kc1 := by rw [hw6]; exact cs2_new wo b fa fc ka1 kc1
      have a6 := (b6.block s5 (by omega)).trans hall
      obtain ⟨A, hA⟩ : ∃ A, A = ownTo t k := ⟨_, rfl⟩
      have hAl : A < 16777216 := by rw [hA]; exact ownTo_lt _ _
      obtain ⟨d, hd⟩ : ∃ d, d = dimsN b.1 := ⟨_, rfl⟩
      have hdl : d < 16777216 := by rw [hd]; exact dimsN_lt _
      rw [← hA, ← hd] at HST
      rw [← hA] at a6
      have cF := Dims_any b.1 _ w6.drew ((qf.blw b6).keep (ok' := Tt) (w' := w6.drew) (Nat.le_refl _) (fun _ _ => trivial) (fun _ _ _ => rfl)).row (by omega)
      rw [← hd] at cF
      have hor : bits .or .u32 (A : Int) (d : Int) = ((A ||| d : Nat) : Int) := bits_or32 A d (by omega) (by omega)
      have HE : Hid (ownTo t (k + 1) = A ||| d) := HST.out
      have hAd := or24 hAl hdl
      obtain ⟨Ad, hAd2⟩ : ∃ x, x = A ||| d := ⟨_, rfl⟩
      rw [← hAd2] at hor HE hAd
      obtain ⟨F, hF⟩ : ∃ F, F = b.1.length := ⟨_, rfl⟩
      obtain ⟨K, hK⟩ : ∃ K, K = b.2.length := ⟨_, rfl⟩
      have HB0 : Hid (∀ W, Kn (fun q => q ≠ s5) w6 W → W.cell? ⟨wo.heap.size, 0, none⟩ = some (.slice fa F fc)) := fun W q => by rw [hF]; exact (q.cell (p := ⟨wo.heap.size, 0, none⟩) (by show wo.heap.size ≠ s5; omega) (by show wo.heap.size < _; omega)).trans q6.c0
      obtain ⟨_, c0, c1⟩ := q2
      rw [← hF] at c0 hw6 cF
      rw [← hK] at c1 hw6
      have c5o := (h63.kn hKn (by omega)).c5
      have H6 : Hid (_ = _) := hw6
      clear hw6 hb qf qk hA hd hAd2 hF hK HST
      go_upto_region 5 with fail
      rw [← H6.out]
      clear H6 c0 c1 c5o
      have ha6 : w6.drew.cell? ⟨s5, 0, none⟩ = some (.int .u32 (A : Int)) := (cells1 a6).1
      refine region_nrm (S := fun W => Kn (fun q => q ≠ s5) w6 W) (by kernel_rfl) ((Kn.refl _ _).drew) (fun hS => ?_)
      refine wpAnyH_take (i := 1) (v := .pointer (some ⟨wo.heap.size, 0, none⟩)) rfl (by kernel_rfl) (by kernel_rfl) (by kernel_rfl) (fun _ _ _ h => (by cases h.1)) (Or.inl ⟨by rfl, fun w hS => by go_simp⟩) hS ?_
      try simp only [Act.put, List.getElem_toArray, List.getElem_cons_zero, List.getElem_cons_succ, List.setIfInBounds_toArray, List.set_cons_zero, List.set_cons_succ]
      refine wpAnyH_take (i := 2) (v := .slice fa F fc) rfl (by kernel_rfl) (by kernel_rfl) (by kernel_rfl) (fun _ _ _ h => (by cases h.1)) (Or.inl ⟨by rfl, fun w hS => by have e := HB0.out w hS; go_simp⟩) hS ?_
      try simp only [Act.put, List.getElem_toArray, List.getElem_cons_zero, List.getElem_cons_succ, List.setIfInBounds_toArray, List.set_cons_zero, List.set_cons_succ]
      refine wpAnyH_ready (rs := [0, 3]) (by kernel_rfl) (by simp) ?_
      refine ready_cons rfl (fun KK hKK => ?_) (ready_cons rfl (fun KK hKK => ?_) AllReadyH.nil)
      · refine ⟨?_⟩
        have ex := ha6
        go_simp
        refine hKK.out _ _ hS (fun hS => ?_)
        clear hKK KK ex
        try simp only [Act.put, List.getElem_toArray, List.getElem_cons_zero, List.getElem_cons_succ, List.setIfInBounds_toArray, List.set_cons_zero, List.set_cons_succ]
        refine wpAnyH_ready (rs := [3]) (by kernel_rfl) (by simp) ?_
        refine ready_cons rfl (fun KK hKK => ?_) AllReadyH.nil
        refine ⟨?_⟩
        go_simp
        refine cF.mono ?_
        rintro e w7 ⟨rfl, b7⟩
        have hS7 : Kn (fun q => q ≠ s5) w6 w7 := ((Kn.refl _ _).drew).trans (Kn.of_below b7)
        have a7 : w7.heap[s5]? = some (.cells #[.int .u32 (A : Int)] 27 (0, 0)) := (b7.block s5 (by show s5 < w6.heap.size; omega)).trans a6
        obtain ⟨v0, v1⟩ := cells1 a7
        obtain ⟨w8, hw8⟩ : ∃ w8, w8 = w7.setCell ⟨s5, 0, none⟩ (.int .u32 (Ad : Int)) := ⟨_, rfl⟩
        have hS8 : Kn (fun q => q ≠ s5) w6 w8 := by rw [hw8]; exact hS7.setCell (p := ⟨s5, 0, none⟩) (.inl fun h => h rfl) _
        have a8 : w8.heap[s5]? = some (.cells #[.int .u32 (Ad : Int)] 27 (0, 0)) := by rw [hw8]; exact Boxed.set (t := 27) _ a7
        have H8 : Hid (_ = _) := hw8
        clear hw8 b7 a7 cF
        refine hKK.out _ _ hS7 (fun hS => ?_)
        clear hKK KK
        try simp only [Act.put, List.getElem_toArray, List.getElem_cons_zero, List.getElem_cons_succ, List.setIfInBounds_toArray, List.set_cons_zero, List.set_cons_succ]
        refine wpAnyH_take (i := 4) (v := .int .u32 ((Ad : Nat) : Int)) rfl (by kernel_rfl) (by kernel_rfl) (by kernel_rfl) (fun _ _ _ h => (by cases h.1)) (Or.inl ⟨by rfl, fun w hS => by go_simp⟩) hS ?_
        try simp only [Act.put, List.getElem_toArray, List.getElem_cons_zero, List.getElem_cons_succ, List.setIfInBounds_toArray, List.set_cons_zero, List.set_cons_succ]
        refine wpAnyH_ready (rs := [5]) (by kernel_rfl) (by simp) ?_
        refine ready_cons rfl (fun KK hKK => ?_) AllReadyH.nil
        refine ⟨?_⟩
        go_simp
        rw [← H8.out]
        refine hKK.out _ _ hS8 (fun hS => ?_)
        clear hKK KK
        try simp only [Act.put, List.getElem_toArray, List.getElem_cons_zero, List.getElem_cons_succ, List.setIfInBounds_toArray, List.set_cons_zero, List.set_cons_succ]
        refine wpAnyH_done (by kernel_rfl) ?_ _
        refine ⟨rfl, ?_⟩
        go_wp2_with fail
        go_roundw
        case rel => exact ⟨k + 1, by omega, by go_num, hKn.trans ((Kn.of_below b6).trans hS8), by rw [HE.out]; exact a8⟩
        case measure => simp [intOf]; omega
      · refine ⟨?_⟩
        go_simp
        refine cF.mono ?_
        rintro e w7 ⟨rfl, b7⟩
        have hS7 : Kn (fun q => q ≠ s5) w6 w7 := ((Kn.refl _ _).drew).trans (Kn.of_below b7)
        have a7 : w7.heap[s5]? = some (.cells #[.int .u32 (A : Int)] 27 (0, 0)) := (b7.block s5 (by show s5 < w6.heap.size; omega)).trans a6
        obtain ⟨v0, v1⟩ := cells1 a7
        obtain ⟨w8, hw8⟩ : ∃ w8, w8 = w7.setCell ⟨s5, 0, none⟩ (.int .u32 (Ad : Int)) := ⟨_, rfl⟩
        have hS8 : Kn (fun q => q ≠ s5) w6 w8 := by rw [hw8]; exact hS7.setCell (p := ⟨s5, 0, none⟩) (.inl fun h => h rfl) _
        have a8 : w8.heap[s5]? = some (.cells #[.int .u32 (Ad : Int)] 27 (0, 0)) := by rw [hw8]; exact Boxed.set (t := 27) _ a7
        have H8 : Hid (_ = _) := hw8
        clear hw8 b7 a7 cF
        refine hKK.out _ _ hS7 (fun hS => ?_)
        clear hKK KK
        try simp only [Act.put, List.getElem_toArray, List.getElem_cons_zero, List.getElem_cons_succ, List.setIfInBounds_toArray, List.set_cons_zero, List.set_cons_succ]
        refine wpAnyH_ready (rs := [0]) (by kernel_rfl) (by simp) ?_
        refine ready_cons rfl (fun KK hKK => ?_) AllReadyH.nil
        refine ⟨?_⟩
        go_simp
        refine hKK.out _ _ hS (fun hS => ?_)
        clear hKK KK
        try simp only [Act.put, List.getElem_toArray, List.getElem_cons_zero, List.getElem_cons_succ, List.setIfInBounds_toArray, List.set_cons_zero, List.set_cons_succ]
        refine wpAnyH_take (i := 4) (v := .int .u32 ((Ad : Nat) : Int)) rfl (by kernel_rfl) (by kernel_rfl) (by kernel_rfl) (fun _ _ _ h => (by cases h.1)) (Or.inl ⟨by rfl, fun w hS => by go_simp⟩) hS ?_
        try simp only [Act.put, List.getElem_toArray, List.getElem_cons_zero, List.getElem_cons_succ, List.setIfInBounds_toArray, List.set_cons_zero, List.set_cons_succ]
        refine wpAnyH_ready (rs := [5]) (by kernel_rfl) (by simp) ?_
        refine ready_cons rfl (fun KK hKK => ?_) AllReadyH.nil
        refine ⟨?_⟩
        go_simp
        rw [← H8.out]
        refine hKK.out _ _ hS8 (fun hS => ?_)
        clear hKK KK
        try simp only [Act.put, List.getElem_toArray, List.getElem_cons_zero, List.getElem_cons_succ, List.setIfInBounds_toArray, List.set_cons_zero, List.set_cons_succ]
        refine wpAnyH_done (by kernel_rfl) ?_ _
        refine ⟨rfl, ?_⟩
        go_wp2_with fail
        go_roundw
        case rel => exact ⟨k + 1, by omega, by go_num, hKn.trans ((Kn.of_below b6).trans hS8), by rw [HE.out]; exact a8⟩
        case measure => simp [intOf]; omega
    · have hkI : ¬ (k : Int) < (M : Int) := by omega
      have HOw : Hid (ownTo t k = t.own) := ownTo_all (by rw [← HM.out]; omega)
      rw [HOw.out] at hall
      obtain ⟨O, hO⟩ : ∃ O, O = t.own := ⟨_, rfl⟩
      have hOl : O < 16777216 := by rw [hO]; exact own_lt t
      have HOt : Hid (dmTo t bd 0 = O / 2 ^ bd) := by show _ = _; rw [dmTo_zero, hO, Nat.shiftRight_eq_div_pow]
      rw [← hO] at hall
      clear hO HOw
      have n1o := (hKn.block s (by omega) (by omega)).trans n1
      obtain ⟨y0, y1⟩ := cells2 n1o
      obtain ⟨z0, z1⟩ := cells1 hall
      have hsh := shr_any O bd hOl
      obtain ⟨O2, hO2⟩ : ∃ x, x = O / 2 ^ bd := ⟨_, rfl⟩
      rw [← hO2] at hsh HOt
      clear hO2
      obtain ⟨w7, hw7⟩ : ∃ w7, w7 = wo.setCell ⟨s5, 0, none⟩ (.int .u32 (O2 : Int)) := ⟨_, rfl⟩
      have k7 : Kn (fun q => q ≠ s5) wo w7 := by rw [hw7]; exact (Kn.refl _ _).setCell (p := ⟨s5, 0, none⟩) (.inl fun h => h rfl) _
      have a7 : w7.heap[s5]? = some (.cells #[.int .u32 (O2 : Int)] 27 (0, 0)) := by rw [hw7]; exact Boxed.set (t := 27) _ hall
      have hK7 := hKn.trans k7
      have n17 := (k7.block s (by omega) (by omega)).trans n1o
      have H7 : Hid (_ = _) := hw7
      clear hw7 hall n1o
      go_upto_region 8 with fail
      rw [← H7.out]
      clear H7 y0 y1 z0 z1 hsh
      obtain ⟨y0, y1⟩ := cells2 n17
      have cP := parts_any (bv : Int) (bd : Int) (some ⟨g, off, none⟩) w7
      go_wp2_with fail
      refine cP.mono ?_
      rintro e w4 ⟨rfl, hw4⟩
      clear cP
      obtain ⟨b4, sz4, p1, p3, pb, pp⟩ := allW hw4 n17 a7
      have hs7 : w3.heap.size ≤ w7.heap.size := hK7.size
      have H4 : Hid (_ = _) := hw4
      clear hw4 y0 y1
      go_wp2_with fail
      obtain ⟨s3, hs3e⟩ : ∃ s3, s3 = w7.heap.size := ⟨_, rfl⟩
      simp only [← hs3e] at pb pp sz4 hs7 ⊢
      have k4 : Kn (fun q => q ≠ s5) w3 w4 := hK7.trans (Kn.of_below b4)
      have ht4 : TmTop (fun q => q < s) w4 t ra rc ka kc sa sc := ht3.kn k4 (fun q hq => by omega)
      have h64 := h63.kn k4 (by omega)
      clear b4 hK7 k7
      refine (wpIn_wide (n := 4)).1 ?_
      refine range_own (n := 4) (by omega) rfl (enters_of Tryz.func79 (by kernel_rfl) rfl) (PartA (fun q => q < s) w4 t bv bd) t.pts.length s3 s5 (by omega) (by omega)
        (parts_iter 3 (by omega) (fun q => q < s) t bv bd (s3 + 1) s3 s5 g off ra rc ka kc sa sc w4 h64 ht4 (fun q hq => ⟨by omega, by omega⟩) hg3 pp pb (by omega) (by omega) (by omega) (by omega) (by omega) (by omega) (by omega))
        (fun k args hA => by obtain ⟨_, _, _, _, _, _, _, _, _, _, rfl, _⟩ := hA; rfl)
        (DmI t bd w4 s3 s5) (fun _ => False) (DmI.keep (by omega)) (fun _ _ h _ => h) ⟨Kn.refl _ _, by rw [HOt.out]; exact p3⟩ ?round ?done ?stop
      case round =>
        intro l k args W hk hA hI hl1 hl2
        obtain ⟨p, pg, poff, ra1, rc1, ka1, kc1, sa1, sc1, hp, rfl, hpg, p6, pt⟩ := hA
        have hmem := List.mem_of_getElem? hp
        have hbp := blk_pts hmem
        have hpl := pts_le hmem
        gi_wp2
        refine ⟨(Kn.refl _ _).alloc _, fun W2 hK2 => ?_⟩
        obtain ⟨hKw, hres⟩ := hI
        have hWs : w4.heap.size ≤ W.heap.size := hKw.size
        have kk2 : Kn (fun q => q < w4.heap.size ∧ q ≠ s3 ∧ q ≠ s5) w4 W2 := hKw.trans (((Kn.refl (fun q => q < w4.heap.size ∧ q ≠ s3 ∧ q ≠ s5) W).alloc _).trans (hK2.sub fun q h => by omega))
        have r2 : W2.heap[s5]? = some (.cells #[.int .u32 ((dmTo t bd k : Nat) : Int)] 27 (0, 0)) := (hK2.block s5 (by omega) (by simp; omega)).trans ((Below.heap_alloc _ _ _ (by omega)).trans hres)
        have x2 : W2.heap[W.heap.size]? = some (.cells #[.int .i64 ((bv + p.2.1 : Nat) : Int), .int .i64 ((bd + p.2.2 : Nat) : Int)] 61 (0, 0)) := (hK2.block W.heap.size (by omega) (by simp)).trans (heapNew W _)
        have hW2s : w4.heap.size ≤ W2.heap.size := kk2.size
        have hWW : W.heap.size < W2.heap.size := (Array.getElem?_eq_some_iff.1 x2).1
        have cI := IH p.1 (bv + p.2.1) (bd + p.2.2) pg poff ra1 rc1 ka1 kc1 sa1 sc1 W2.drew (p6.kn kk2.drew ⟨by omega, by omega, by omega⟩) ((pt.kn kk2.drew (fun q hq => ⟨by omega, by omega, by omega⟩)).tt) (by omega) (by omega) (by omega)
        have HST : Hid (_ = _) := dmTo_step (bd := bd) hp
        have hdl := dm_lt24 p.1 (bd + p.2.2)
        have hAl := dmTo_lt t bd k
        clear p6 pt hK2 hp
        obtain ⟨y1, hy1⟩ : ∃ y, y = bv + p.2.1 := ⟨_, rfl⟩
        obtain ⟨y2, hy2⟩ : ∃ y, y = bd + p.2.2 := ⟨_, rfl⟩
        rw [← hy1, ← hy2] at cI x2
        rw [← hy2] at HST hdl
        clear hy1 hy2
        obtain ⟨A, hA⟩ : ∃ A, A = dmTo t bd k := ⟨_, rfl⟩
        obtain ⟨d, hd⟩ : ∃ d, d = dmT p.1 y2 := ⟨_, rfl⟩
        rw [← hA] at r2 HST hAl
        rw [← hd] at cI HST hdl
        clear hA hd
        have hor : bits .or .u32 (A : Int) (d : Int) = ((A ||| d : Nat) : Int) := bits_or32 A d (by omega) (by omega)
        have HE : Hid (dmTo t bd (k + 1) = A ||| d) := HST.out
        obtain ⟨Ad, hAd2⟩ : ∃ x, x = A ||| d := ⟨_, rfl⟩
        rw [← hAd2] at hor HE
        clear hAd2 HST
        have HX2 : Hid (∀ V, Kn (fun q => q ≠ s5) W2 V → V.cell? ⟨W.heap.size, 0, none⟩ = some (.int .i64 (y1 : Int)) ∧ V.cell? ⟨W.heap.size, 1, none⟩ = some (.int .i64 (y2 : Int))) := fun V q => cells2 ((q.block W.heap.size (by omega) hWW).trans x2)
        have ha6 : W2.drew.cell? ⟨s5, 0, none⟩ = some (.int .u32 (A : Int)) := (cells1 r2).1
        refine wpIn_block ?_
        refine in_region_held (S := fun V => Kn (fun q => q ≠ s5) W2 V) (by kernel_rfl) (by kernel_rfl) ((Kn.refl _ _).drew) (fun hS => ?_)
        refine wpAnyH_take (i := 1) (v := .pointer (some ⟨pg, poff, none⟩)) rfl (by kernel_rfl) (by kernel_rfl) (by kernel_rfl) (fun _ _ _ h => (by cases h.1)) (Or.inl ⟨by rfl, fun w hS => by go_simp⟩) hS ?_
        try simp only [Act.put, List.getElem_toArray, List.getElem_cons_zero, List.getElem_cons_succ, List.setIfInBounds_toArray, List.set_cons_zero, List.set_cons_succ]
        refine wpAnyH_take (i := 2) (v := .agg #[.int .i64 (y1 : Int), .int .i64 (y2 : Int)]) rfl (by kernel_rfl) (by kernel_rfl) (by kernel_rfl) (fun _ _ _ h => (by cases h.1)) (Or.inl ⟨by rfl, fun w hS => by have e := HX2.out w hS; obtain ⟨e0, e1⟩ := e; go_simp⟩) hS ?_
        try simp only [Act.put, List.getElem_toArray, List.getElem_cons_zero, List.getElem_cons_succ, List.setIfInBounds_toArray, List.set_cons_zero, List.set_cons_succ]
        refine wpAnyH_ready (rs := [0, 3]) (by kernel_rfl) (by simp) ?_
        refine ready_cons rfl (fun KK hKK => ?_) (ready_cons rfl (fun KK hKK => ?_) AllReadyH.nil)
        · refine ⟨?_⟩
          have ex := ha6
          go_simp
          refine hKK.out _ _ hS (fun hS => ?_)
          clear hKK KK ex
          try simp only [Act.put, List.getElem_toArray, List.getElem_cons_zero, List.getElem_cons_succ, List.setIfInBounds_toArray, List.set_cons_zero, List.set_cons_succ]
          refine wpAnyH_ready (rs := [3]) (by kernel_rfl) (by simp) ?_
          refine ready_cons rfl (fun KK hKK => ?_) AllReadyH.nil
          refine ⟨?_⟩
          go_simp
          refine cI.mono ?_
          rintro e w7 ⟨rfl, b7⟩
          have hS7 : Kn (fun q => q ≠ s5) W2 w7 := ((Kn.refl _ _).drew).trans (Kn.of_below b7)
          have a7 : w7.heap[s5]? = some (.cells #[.int .u32 (A : Int)] 27 (0, 0)) := (b7.block s5 (by show s5 < W2.heap.size; omega)).trans r2
          obtain ⟨v0, v1⟩ := cells1 a7
          obtain ⟨w8, hw8⟩ : ∃ w8, w8 = w7.setCell ⟨s5, 0, none⟩ (.int .u32 (Ad : Int)) := ⟨_, rfl⟩
          have hS8 : Kn (fun q => q ≠ s5) W2 w8 := by rw [hw8]; exact hS7.setCell (p := ⟨s5, 0, none⟩) (.inl fun h => h rfl) _
          have a8 : w8.heap[s5]? = some (.cells #[.int .u32 (Ad : Int)] 27 (0, 0)) := by rw [hw8]; exact Boxed.set (t := 27) _ a7
          have H8 : Hid (_ = _) := hw8
          clear hw8 b7 a7 cI
          refine hKK.out _ _ hS7 (fun hS => ?_)
          clear hKK KK
          try simp only [Act.put, List.getElem_toArray, List.getElem_cons_zero, List.getElem_cons_succ, List.setIfInBounds_toArray, List.set_cons_zero, List.set_cons_succ]
          refine wpAnyH_take (i := 4) (v := .int .u32 ((Ad : Nat) : Int)) rfl (by kernel_rfl) (by kernel_rfl) (by kernel_rfl) (fun _ _ _ h => (by cases h.1)) (Or.inl ⟨by rfl, fun w hS => by go_simp⟩) hS ?_
          try simp only [Act.put, List.getElem_toArray, List.getElem_cons_zero, List.getElem_cons_succ, List.setIfInBounds_toArray, List.set_cons_zero, List.set_cons_succ]
          refine wpAnyH_ready (rs := [5]) (by kernel_rfl) (by simp) ?_
          refine ready_cons rfl (fun KK hKK => ?_) AllReadyH.nil
          refine ⟨?_⟩
          go_simp
          rw [← H8.out]
          refine hKK.out _ _ hS8 (fun hS => ?_)
          clear hKK KK
          try simp only [Act.put, List.getElem_toArray, List.getElem_cons_zero, List.getElem_cons_succ, List.setIfInBounds_toArray, List.set_cons_zero, List.set_cons_succ]
          refine wpAnyH_done (by kernel_rfl) ?_ _
          refine ⟨rfl, ?_⟩
          exact ⟨hS8, kk2.trans (hS8.sub fun q hq => hq.2.2), by rw [HE.out]; exact a8⟩
        · refine ⟨?_⟩
          go_simp
          refine cI.mono ?_
          rintro e w7 ⟨rfl, b7⟩
          have hS7 : Kn (fun q => q ≠ s5) W2 w7 := ((Kn.refl _ _).drew).trans (Kn.of_below b7)
          have a7 : w7.heap[s5]? = some (.cells #[.int .u32 (A : Int)] 27 (0, 0)) := (b7.block s5 (by show s5 < W2.heap.size; omega)).trans r2
          obtain ⟨v0, v1⟩ := cells1 a7
          obtain ⟨w8, hw8⟩ : ∃ w8, w8 = w7.setCell ⟨s5, 0, none⟩ (.int .u32 (Ad : Int)) := ⟨_, rfl⟩
          have hS8 : Kn (fun q => q ≠ s5) W2 w8 := by rw [hw8]; exact hS7.setCell (p := ⟨s5, 0, none⟩) (.inl fun h => h rfl) _
          have a8 : w8.heap[s5]? = some (.cells #[.int .u32 (Ad : Int)] 27 (0, 0)) := by rw [hw8]; exact Boxed.set (t := 27) _ a7
          have H8 : Hid (_ = _) := hw8
          clear hw8 b7 a7 cI
          refine hKK.out _ _ hS7 (fun hS => ?_)
          clear hKK KK
          try simp only [Act.put, List.getElem_toArray, List.getElem_cons_zero, List.getElem_cons_succ, List.setIfInBounds_toArray, List.set_cons_zero, List.set_cons_succ]
          refine wpAnyH_ready (rs := [0]) (by kernel_rfl) (by simp) ?_
          refine ready_cons rfl (fun KK hKK => ?_) AllReadyH.nil
          refine ⟨?_⟩
          go_simp
          refine hKK.out _ _ hS (fun hS => ?_)
          clear hKK KK
          try simp only [Act.put, List.getElem_toArray, List.getElem_cons_zero, List.getElem_cons_succ, List.setIfInBounds_toArray, List.set_cons_zero, List.set_cons_succ]
          refine wpAnyH_take (i := 4) (v := .int .u32 ((Ad : Nat) : Int)) rfl (by kernel_rfl) (by kernel_rfl) (by kernel_rfl) (fun _ _ _ h => (by cases h.1)) (Or.inl ⟨by rfl, fun w hS => by go_simp⟩) hS ?_
          try simp only [Act.put, List.getElem_toArray, List.getElem_cons_zero, List.getElem_cons_succ, List.setIfInBounds_toArray, List.set_cons_zero, List.set_cons_succ]
          refine wpAnyH_ready (rs := [5]) (by kernel_rfl) (by simp) ?_
          refine ready_cons rfl (fun KK hKK => ?_) AllReadyH.nil
          refine ⟨?_⟩
          go_simp
          rw [← H8.out]
          refine hKK.out _ _ hS8 (fun hS => ?_)
          clear hKK KK
          try simp only [Act.put, List.getElem_toArray, List.getElem_cons_zero, List.getElem_cons_succ, List.setIfInBounds_toArray, List.set_cons_zero, List.set_cons_succ]
          refine wpAnyH_done (by kernel_rfl) ?_ _
          refine ⟨rfl, ?_⟩
          exact ⟨hS8, kk2.trans (hS8.sub fun q hq => hq.2.2), by rw [HE.out]; exact a8⟩
      case done =>
        intro D' V hD' hI hK
        obtain ⟨hKw, hres⟩ := hI
        rw [dmTo_all] at hres
        obtain ⟨r20, r21⟩ := cells1 hres
        have hDl : D' < V.heap.size := (Array.getElem?_eq_some_iff.1 hK).1
        have hws := hKw.size
        have HBW : Hid (Below s w V) := by
          show Below s w V
          have h1 : Below s w w4 := HB.out.trans (k4.below (fun q hq => by omega) (by omega))
          exact h1.trans (hKw.below (fun q hq => ⟨by omega, by omega, by omega⟩) (by omega))
        obtain ⟨X, hX⟩ : ∃ X, X = dmT t bd := ⟨_, rfl⟩
        rw [← hX] at r20
        have HX : Hid (X = dmT t bd) := hX
        clear hX hres
        go_wp2
        refine ⟨by simp, .inl ⟨_, _, rfl, run_takeDeferred hK, ?_⟩⟩
        refine ⟨.int .u32 (X : Int), by simp only [results, Tryz.results28]; simp [go_sem], by rw [HX.out], ?_⟩
        rw [← Hse.out]
        exact HBW.out.trans ((kn_put (W := V) (l := D') (.deferred none)).below (fun q hq => by omega) (by omega))
      case stop => intro D' V hD' hX; exact hX.elim
theorem dims_any (N : Nat) : DmC N := by
  induction N with
  | zero => intro t bv bd g off ra rc ka kc sa sc w _ _ h; have := blk_pos t; omega
  | succ N ih => exact dims_step N ih
set_option maxRecDepth 100000 in
set_option maxHeartbeats 2000000 in
theorem dimsT_any (t : Tm) (v : Value) (w : World) (hv : TmIn Tt w t v) (hb : blk t ≤ 100000) :
    Calls Tryz.prog 12 #[v] w fun e w' => e = .returned (.int .u32 ((dmT t 0 : Nat) : Int)) ∧ Below w.heap.size w w' := by
  obtain ⟨ra, rc, ka, kc, sa, sc, rfl, ht⟩ := hv.form
  obtain ⟨w1, hw1⟩ : ∃ w1, w1 = w.alloc (.cells #[.int .i64 t.kind, .int .i64 t.n, .string t.name, .slice ra t.r.length rc, .slice ka t.kids.length kc, .slice sa t.sys.length sc] 26) := ⟨_, rfl⟩
  have b1 : Below w.heap.size w w1 := by rw [hw1]; exact belowA _ _
  have c6 : Cs6 w1 w.heap.size 0 t ra rc ka kc sa sc := by rw [hw1]; exact cs6_new w t ra rc ka kc sa sc
  have cc := dims_any (blk t) t 0 0 w.heap.size 0 ra rc ka kc sa sc w1 c6 (ht.blw b1) (Nat.le_refl _) (by omega) (by omega)
  have H1 : Hid (_ = _) := hw1
  obtain ⟨X, hX⟩ : ∃ X, X = dmT t 0 := ⟨_, rfl⟩
  rw [← hX] at cc ⊢
  clear hw1 hv ht c6 hX
  go_enter Tryz.func12, Tryz.ntmps12
  go_upto_region 1 with fail
  rw [← H1.out]
  go_wp2_with fail
  refine cc.mono ?_
  rintro e w3 ⟨rfl, hb3⟩
  clear cc
  go_wp2_with fail
  go_ret
  exact ⟨rfl, bchain b1 hb3⟩
end Go.Proofs.YticoacgoapalhabGreat
