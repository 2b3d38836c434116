/- Plain mathematics: what is told of a row of clauses, and what the least row covers. Nothing of the program is imported. -/
import Derived.Test.YtkklmioejgpknaaCMath
namespace Go.Proofs.Ytkklmioejgpknaa
set_option linter.unusedVariables false
set_option linter.unusedSimpArgs false

/-- What is told of the row l: the least row, or that it is too long, or that a clause may not be. -/
def LeastIs (l M : List C) (er : Int) : Prop :=
  (l.all rightC = false ∧ M = [] ∧ er = 2) ∨ (l.all rightC = true ∧ ∃ N, IsLeast l N ∧ ((N.length ≤ 64 ∧ M = N ∧ er = 0) ∨ (64 < N.length ∧ M = [] ∧ er = 3)))
theorem LeastIs.unique {l M M' : List C} {er er' : Int} (h : LeastIs l M er) (h' : LeastIs l M' er') : M = M' ∧ er = er' := by
  rcases h with ⟨a, rfl, rfl⟩ | ⟨a, N, hN, hh⟩
  · rcases h' with ⟨_, rfl, rfl⟩ | ⟨b, _⟩
    · exact ⟨rfl, rfl⟩
    · rw [a] at b; exact absurd b (by simp)
  · rcases h' with ⟨b, _⟩ | ⟨_, N', hN', hh'⟩
    · rw [a] at b; exact absurd b (by simp)
    · have e := hN.unique hN'
      subst e
      rcases hh with ⟨b, rfl, rfl⟩ | ⟨b, rfl, rfl⟩
      · rcases hh' with ⟨_, rfl, rfl⟩ | ⟨d, _⟩
        · exact ⟨rfl, rfl⟩
        · omega
      · rcases hh' with ⟨d, _⟩ | ⟨_, rfl, rfl⟩
        · omega
        · exact ⟨rfl, rfl⟩
theorem LeastIs.length_le {l M : List C} {er : Int} (h : LeastIs l M er) : M.length ≤ 64 := by
  rcases h with ⟨_, rfl, _⟩ | ⟨_, N, _, ⟨h, rfl, _⟩ | ⟨_, rfl, _⟩⟩
  · simp
  · exact h
  · simp
def meas (c : C) : Nat := c.1.val * 4294967296 + c.2.val
theorem meas_nat {x1 x2 y1 y2 : Nat} (h2 : x2 < 4294967296) (h : x1 < y1 ∨ x1 = y1 ∧ x2 < y2) : x1 * 4294967296 + x2 < y1 * 4294967296 + y2 := by omega
theorem meas_lt {a b : C} (h : ltC a b = true) : meas a < meas b := by
  refine meas_nat a.2.isLt ?_
  simpa only [ltC, Bool.or_eq_true, Bool.and_eq_true, decide_eq_true_eq] using h
theorem covers {l N : List C} (hr : ∀ c ∈ l, rightC c = true) (hN : IsLeast l N) (n : Nat) : ∀ c : C, meas c < n → c ∈ l → ∃ d ∈ N, belC c d = true := by
  induction n with
  | zero => intro c h; exact absurd h (Nat.not_lt_zero _)
  | succ n ih =>
    intro c hm hc
    by_cases hn : neededB l c = true
    · exact ⟨c, (hN.mem c).2 ⟨hc, hn⟩, belC_refl c⟩
    · have h1 : ∃ d ∈ l, belC c d = true ∧ d ≠ c := by
        rw [needed_iff] at hn
        simp only [Classical.not_forall] at hn
        obtain ⟨d, hd, hb, he⟩ := hn
        exact ⟨d, hd, hb, he⟩
      obtain ⟨d, hd, hb, he⟩ := h1
      have hlt := meas_lt (bel_lt (hr d hd) hb (fun h => he h.symm))
      obtain ⟨e, h1, h2⟩ := ih d (Nat.lt_of_lt_of_le hlt (Nat.le_of_lt_succ hm)) hd
      exact ⟨e, h1, belC_trans hb h2⟩
theorem cover_mem {l M : List C} {er : Int} (h : LeastIs l M er) (he : er = 0) : (∀ c ∈ M, c ∈ l) ∧ (∀ c ∈ M, ∀ d ∈ M, belC c d = true → c = d) ∧ (∀ c ∈ l, ∃ d ∈ M, belC c d = true) ∧ M.Nodup := by
  subst he
  rcases h with ⟨_, _, h⟩ | ⟨ha, N, hN, ⟨_, rfl, _⟩ | ⟨_, _, h⟩⟩
  · omega
  · refine ⟨fun c hc => ((hN.mem c).1 hc).1, fun c hc d hd hb => ?_, fun c hc => ?_, ?_⟩
    · have := needed_iff.1 ((hN.mem c).1 hc).2 d ((hN.mem d).1 hd).1 hb
      exact this.symm
    · exact covers (fun c hc => List.all_eq_true.1 ha c hc) hN (meas c + 1) c (Nat.lt_succ_self _) hc
    · exact hN.rises.imp (fun h => ltC_ne h)
  · omega
theorem er_cases {l M : List C} {er : Int} (h : LeastIs l M er) : er = 0 ∨ (M = [] ∧ er ≠ 0) := by
  rcases h with ⟨_, h, h2⟩ | ⟨ha, N, hN, ⟨_, _, h⟩ | ⟨_, h, h2⟩⟩
  · exact .inr ⟨h, by omega⟩
  · exact .inl h
  · exact .inr ⟨h, by omega⟩
theorem meet_right (a b : C) : rightC (meetC a b) = true := rightC_iff.2 ⟨low_lt _, low_lt _⟩
end Go.Proofs.Ytkklmioejgpknaa
