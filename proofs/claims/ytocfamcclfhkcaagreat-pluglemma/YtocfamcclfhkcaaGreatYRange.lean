/- A range over a function that keeps a variable of its own: what the iterator promises, and what the loop makes of it. -/
import Derived.RangeFuncNested
import Derived.RangeFuncBound
import Derived.RangeFuncCalls
import Derived.RangeFuncLeaves
import Derived.RangeFuncFrom
import Derived.RangeFuncBox
import Derived.OwnWalkIn
import Derived.TacticsInMore
import Derived.LoopNIn
import Derived.LoopIn
import Derived.Test.YtocfamcclfhkcaaGreatYMem
namespace Go.Proofs.YtocfamcclfhkcaaGreat
open Go.RowKit
set_option linter.unusedVariables false
set_option linter.unusedSimpArgs false

/-- An iterator that hands out m times what A lets, whatever the loop's body does, if that keeps all blocks but ab; it turns its own block bx alone. -/
def IterC (n : Nat) (P : Program) (gf : Nat) (lb : Array Value) (A : Nat → Array Value → Prop) (m bx ab : Nat) (w : World) : Prop :=
  ∀ (l : Nat) (J : Nat → World → Prop) (X : World → Prop) (W : World), Below w.heap.size w W →
    (∀ k W1 W2, J k W1 → Kn (fun g => g ≠ bx) W1 W2 → J k W2) →
    (∀ k args W1, k < m → A k args → J k W1 → YieldAt Fence.wide (n - 1) P l args W1 fun e W' => (e = .returned (.bool true) ∧ J (k + 1) W' ∧ Kn (fun g => g ≠ ab) W1 W') ∨ (e = .returned (.bool false) ∧ X W')) →
    J 0 W → CallsIn Fence.wide n P gf (#[.func (.yield l) #[] #[]] ++ lb) W fun e W' => (∃ v, e = .returned v) ∧ (J m W' ∨ X W')
/-- How a round may be left. -/
def rndP (I : Nat → World → Prop) (X : World → Prop) (ab k : Nat) (W : World) : Exit → Act → World → Prop
  | .normal, _, W' => Kn (fun g => g ≠ ab) W W' ∧ I (k + 1) W'
  | .ret, _, W' => Kn (fun g => g ≠ ab) W W' ∧ X W'
  | _, _, _ => False
theorem kn_put {W : World} {l : Nat} (o : Obj) : Kn (fun g => g ≠ l) W (W.putObj l o) :=
  ⟨rfl, rfl, rfl, by simp, fun k hk _ => World.putObj_heap_other hk⟩
theorem range_own {P : Program} {g : Operand} {ps : Array Tmp} {assign body : Code} {Q : Exit → Act → World → Prop} {a : Act} {w : World} {n gf : Nat} {lb : Array Value}
    (h1 : 1 ≤ n) (hg : a.eval g = .func (.func gf) #[] lb) (eg : ∀ args w, (callFunc gf args).run P w = .ok (.enter gf args) w)
    (Ar : Nat → Array Value → Prop) (m bx ab : Nat) (hbx : bx < w.heap.size) (hab : ab < w.heap.size) (hseq : IterC (n - 1) P gf lb Ar m bx ab w) (hps : ∀ k args, Ar k args → args.size = ps.size)
    (I : Nat → World → Prop) (X : World → Prop)
    (hI : ∀ k W1 W2, I k W1 → Kn (fun g => g < w.heap.size ∧ g ≠ bx) W1 W2 → I k W2) (hX : ∀ W1 W2, X W1 → Kn (fun g => g < w.heap.size ∧ g ≠ bx) W1 W2 → X W2) (h0 : I 0 w)
    (hround : ∀ (l k : Nat) (args : Array Value) (W : World), k < m → Ar k args → I k W → w.heap.size ≤ l → l < W.heap.size →
      assign.wpIn (Fence.wide.inRound l) (n - 1 - 1) P (Exit.then (fun a' W1 => Kn (fun g => g ≠ ab) W W1 ∧ ∀ W2, Kn (fun g => g ≠ l) W1 W2 → body.wpIn (Fence.wide.inRound l) (n - 1 - 1) P (rndP I X ab k W2) a' W2) (fun _ _ _ => False))
        { tmps := (ps.zip args).foldl (fun t (p, v) => t.setIfInBounds p v) a.tmps, defers := [] } W)
    (hdone : ∀ (D : Nat) (W : World), w.heap.size ≤ D → I m W → W.heap[D]? = some (.deferred (some [])) → Q .normal { a with defers := { target := .collected D, args := #[] } :: a.defers } W)
    (hstop : ∀ (D : Nat) (W : World), w.heap.size ≤ D → X W → W.heap[D]? = some (.deferred (some [])) → Code.ret.wpIn Fence.wide n P Q { a with defers := { target := .collected D, args := #[] } :: a.defers } W) :
    (Code.rangeFunc g ps assign body).wpIn Fence.wide n P Q a w := by
  refine wpIn_rangeFunc fun fn hfn => ?_
  obtain ⟨s, hs⟩ : ∃ s, s = w.heap.size := ⟨_, rfl⟩
  obtain ⟨L, hL⟩ : ∃ L : LoopState → Option Code → Loop, L = fun st pe => { state := st, pending := pe, fn, tmps := a.tmps, params := ps, assign, body, defers := s } := ⟨_, rfl⟩
  obtain ⟨W1, hW1⟩ : ∃ W1, W1 = (w.alloc (.deferred (some []))).alloc (.loop (L .ready none)) := ⟨_, rfl⟩
  have b1 : Below w.heap.size w W1 := by rw [hW1]; exact bchain (belowA w _) (belowA _ _)
  have hd1 : W1.heap[s]? = some (.deferred (some [])) := by
    rw [hW1, hs]; exact (Below.heap_alloc _ _ _ (by simp)).trans (heapNew w _)
  have hl1 : W1.heap[s + 1]? = some (.loop (L .ready none)) := by
    rw [hW1, hs]; have := heapNew (w.alloc (.deferred (some []))) (.loop (L .ready none)); rwa [World.size_alloc] at this
  -- what is held between two rounds, and behind the last one
  have knI : ∀ {No : Nat → Prop} {A B : World}, Kn No A B → (∀ g, g < w.heap.size → g ≠ bx → No g) → Kn (fun g => g < w.heap.size ∧ g ≠ bx) A B := fun h k => h.sub fun g hg => k g hg.1 hg.2
  have putI : ∀ (k : Nat) (A : World) (o : Obj), I k A → I k (A.putObj (s + 1) o) := fun k A o h => hI k A _ h (knI (kn_put o) fun g h1 _ => by omega)
  have putX : ∀ (A : World) (o : Obj), X A → X (A.putObj (s + 1) o) := fun A o h => hX A _ h (knI (kn_put o) fun g h1 _ => by omega)
  refine ⟨s + 1, [{ target := .collected s, args := #[] }], W1, { target := .fn (.func gf) lb, args := #[.func (.yield (s + 1)) #[] #[]] }, W1, gf, #[.func (.yield (s + 1)) #[] #[]] ++ lb, W1, ?_, ?_, fun _ _ => trivial, ?_, fun _ => h1, ?_⟩
  · rw [hW1, hL, hs]; exact run_enterLoop_outer _ _ _ _ _
  · simp only [resolve, hg]; simp [go_sem]
  · simp [invoke, go_sem, eg]
  · refine (hseq (s + 1) (fun k A => I k A ∧ A.heap[s + 1]? = some (.loop (L .ready none)) ∧ A.heap[s]? = some (.deferred (some [])))
      (fun A => X A ∧ A.heap[s + 1]? = some (.loop (L .done (some .ret))) ∧ A.heap[s]? = some (.deferred (some []))) W1 b1 ?_ ?_ ⟨hI 0 w W1 h0 (Kn.of_below b1), hl1, hd1⟩).mono ?_
    · rintro k A B ⟨a1, a2, a3⟩ hk
      exact ⟨hI k A B a1 (knI hk fun g _ h => h), (hk.block _ (by omega) (Array.getElem?_eq_some_iff.1 a2).1).trans a2, (hk.block _ (by omega) (Array.getElem?_eq_some_iff.1 a3).1).trans a3⟩
    · rintro k args A hkm hA ⟨a1, a2, a3⟩
      have hy := run_yield (P := P) (args := args) a2 (by rw [hL]; exact hps k args hA)
      rw [hL] at hy
      refine ⟨fn, _, assign, body, hy, roundIn_of_wpIn hfn (wpIn_mono (hround (s + 1) k args A hkm hA a1 (by omega) (Array.getElem?_eq_some_iff.1 a2).1) ?_)⟩
      rintro e a' B hp
      cases e with
      | normal =>
        obtain ⟨kB, hbody⟩ := hp
        have l2 := (kB.block (s + 1) (by omega) (Array.getElem?_eq_some_iff.1 a2).1).trans a2
        have d2 := (kB.block s (by omega) (Array.getElem?_eq_some_iff.1 a3).1).trans a3
        refine ⟨_, run_beginRound l2 (by rw [hL]), ?_⟩
        obtain ⟨B2, hB2⟩ : ∃ B2, B2 = B.putObj (s + 1) (.loop { L .ready none with state := .busy }) := ⟨_, rfl⟩
        rw [← hB2]
        have k2 : Kn (fun g => g ≠ s + 1) B B2 := by rw [hB2]; exact kn_put _
        have l3 : B2.heap[s + 1]? = some (.loop { L .ready none with state := .busy }) := by rw [hB2]; exact World.putObj_heap_same (Array.getElem?_eq_some_iff.1 l2).1
        have d3 := (k2.block s (by omega) (Array.getElem?_eq_some_iff.1 d2).1).trans d2
        refine wpIn_mono (hbody B2 k2) ?_
        have fin : ∀ (jump : Option Code) (B3 : World), Kn (fun g => g ≠ ab) B2 B3 → ∃ B4, (Instr.endRound (s + 1) jump).run P B3 = .ok (.bool jump.isNone) B4 ∧ B4 = B3.putObj (s + 1) (.loop (L (if jump.isNone then .ready else .done) jump)) ∧ B4.heap[s + 1]? = some (.loop (L (if jump.isNone then .ready else .done) jump)) ∧ B4.heap[s]? = some (.deferred (some [])) := fun jump B3 k3 => by
          have l4 := (k3.block (s + 1) (by omega) (Array.getElem?_eq_some_iff.1 l3).1).trans l3
          have d4 := (k3.block s (by omega) (Array.getElem?_eq_some_iff.1 d3).1).trans d3
          have hr := run_endRound (P := P) jump l4
          rw [hL] at hr ⊢
          exact ⟨_, hr, rfl, World.putObj_heap_same (Array.getElem?_eq_some_iff.1 l4).1, ((kn_put _).block s (by omega) (Array.getElem?_eq_some_iff.1 d4).1).trans d4⟩
        rintro e a3 B3 hp
        cases e with
        | normal =>
          obtain ⟨k3, i3⟩ := hp
          obtain ⟨B4, hr, e4, l5, d5⟩ := fin none B3 k3
          refine ⟨_, B4, hr, .inl ⟨rfl, ⟨?_, l5, d5⟩, ?_⟩⟩
          · rw [e4]; exact putI _ _ _ i3
          · -- the loop's own record is ready again, as it was
            have hback : B4.heap[s + 1]? = A.heap[s + 1]? := by rw [l5, a2]; rfl
            refine ⟨?_, ?_, ?_, ?_, fun q hq hqs => ?_⟩
            · rw [e4]; exact (k3.os.trans k2.os).trans kB.os
            · rw [e4]; exact (k3.tape.trans k2.tape).trans kB.tape
            · rw [e4]; exact (k3.output.trans k2.output).trans kB.output
            · rw [e4]; simpa using Nat.le_trans (Nat.le_trans kB.size k2.size) k3.size
            · by_cases e : q = s + 1
              · rw [e]; exact hback
              · rw [e4]
                have q1 := Nat.lt_of_lt_of_le hqs kB.size
                have q2 := Nat.lt_of_lt_of_le q1 k2.size
                exact (World.putObj_heap_other e).trans ((k3.block q hq q2).trans ((k2.block q e q1).trans (kB.block q hq hqs)))
        | ret =>
          obtain ⟨k3, i3⟩ := hp
          obtain ⟨B4, hr, e4, l5, d5⟩ := fin (some .ret) B3 k3
          refine ⟨_, B4, hr, .inr ⟨rfl, ?_, l5, d5⟩⟩
          rw [e4]; exact putX _ _ i3
        | exit id => exact hp.elim
        | goto t => exact hp.elim
        | panic ch => exact hp.elim
        | outgrown => exact hp.elim
      | ret => exact hp.elim
      | exit id => exact hp.elim
      | goto t => exact hp.elim
      | panic ch => exact hp.elim
      | outgrown => exact hp.elim
    · rintro e B ⟨⟨v, rfl⟩, (⟨i2, l2, d2⟩ | ⟨x2, l2, d2⟩)⟩
      · have hr := run_endLoop (P := P) l2 (by rw [hL]; simp)
        refine ⟨none, B.putObj (s + 1) (.loop { L .ready none with state := .exhausted }), by rw [hL] at hr ⊢; exact hr, ?_⟩
        exact hdone s _ (by omega) (putI _ _ _ i2) (((kn_put _).block s (by omega) (Array.getElem?_eq_some_iff.1 d2).1).trans d2)
      · have hr := run_endLoop (P := P) l2 (by rw [hL]; simp)
        refine ⟨some .ret, B.putObj (s + 1) (.loop { L .done (some .ret) with state := .exhausted }), by rw [hL] at hr ⊢; exact hr, ?_⟩
        exact hstop s _ (by omega) (putX _ _ x2) (((kn_put _).block s (by omega) (Array.getElem?_eq_some_iff.1 d2).1).trans d2)
end Go.Proofs.YtocfamcclfhkcaaGreat
