/- How long the texts of trees are. -/
import Derived.Test.YtahnbigkdfmpbaaDoorSMath
namespace Go.Proofs.YtahnbigkdfmpbaaDoor
set_option linter.unusedVariables false
set_option linter.unusedSimpArgs false

/-- How great the part j is; 0, if there is none. -/
def kb (t : Sx) (j : Nat) : Nat := match t.kids[j]? with | some x => blk x | none => 0
theorem kb_sum (t : Sx) : kb t 0 + kb t 1 ≤ blkK t.kids := by
  unfold kb blkK
  match t.kids with
  | [] => simp
  | [a] => simp
  | a :: b :: l => simp
theorem line_zero (f : Nat) : lineF f zS = [] := by
  cases f with
  | zero => rfl
  | succ f => rw [lineF_s]; unfold lineR zS; simp
def LenOK (line : Sx → Bs) : Prop := (∀ x, (line x).length + 2 ≤ 16 * blk x) ∧ line zS = []
theorem part_len {line : Sx → Bs} (h : LenOK line) (t : Sx) (pl j : Nat) (hpl : pl < 7) : (partR line pl (kd t j)).length ≤ 16 * kb t j := by
  unfold kb kd
  rw [List.getD_eq_getElem?_getD]
  cases hh : t.kids[j]? with
  | none =>
    have e : needB zS pl = false := by
      unfold needB frontB zS lastP
      simp; omega
    show (partR line pl zS).length ≤ _
    unfold partR
    rw [e, if_neg (by simp), h.2]; simp
  | some x =>
    show (partR line pl x).length ≤ 16 * blk x
    have := h.1 x
    unfold partR
    split
    · simp; omega
    · omega
theorem jn_len (sep : Bs) (l : List Bs) : (jn sep l).length ≤ (l.map fun x => x.length + sep.length).sum := by
  cases l with
  | nil => simp [jn]
  | cons x l =>
    have : ((l.map fun y => sep ++ y).flatten).length = (l.map fun x => x.length + sep.length).sum := by
      induction l with
      | nil => rfl
      | cons y l ih => simp at ih ⊢; omega
    simp [jn] at this ⊢
    omega
theorem names_sum (ns : List Bs) : (ns.map fun x => x.length + [32].length).sum = blkN ns := by
  unfold blkN
  congr 1
  apply List.map_congr_left
  intro x _
  simp; omega
theorem kids_sum {line : Sx → Bs} (h : LenOK line) (l : List Sx) (c : Nat) (hc : c ≤ 2) : ((l.map line).map fun x => x.length + c).sum ≤ 16 * blkK l := by
  unfold blkK
  induction l with
  | nil => simp
  | cons x l ih => have := h.1 x; simp at ih ⊢; omega
theorem flat_len {line : Sx → Bs} (h : LenOK line) (l : List Sx) : ((l.map line).flatten).length ≤ 16 * blkK l := by
  unfold blkK
  induction l with
  | nil => simp
  | cons x l ih => have := h.1 x; simp at ih ⊢; omega
theorem head_len (l : List Bs) : (l.headD []).length ≤ blkN l := by
  unfold blkN
  cases l with
  | nil => simp
  | cons x l => simp; omega
theorem line_len (f : Nat) : LenOK (lineF f) := by
  induction f with
  | zero => exact ⟨fun x => by rw [lineF_z]; have := blk_pos x; simp; omega, rfl⟩
  | succ f ih =>
    refine ⟨fun t => ?_, line_zero _⟩
    have hb : blk t = 1 + t.name.length + blkN t.names + blkK t.kids := by cases t; exact blk_mk _ _ _ _ _
    have hs := kb_sum t
    have p := fun pl j h => part_len ih t pl j h
    have q00 := p 0 0 (by omega); have q01 := p 0 1 (by omega); have q10 := p 1 0 (by omega)
    have q20 := p 2 0 (by omega); have q31 := p 3 1 (by omega); have q61 := p 6 1 (by omega); have q60 := p 6 0 (by omega)
    have q40 := p 4 0 (by omega); have q51 := p 5 1 (by omega); have q50 := p 5 0 (by omega)
    have hj := jn_len [32] t.names
    have hj := Nat.le_trans hj (Nat.le_of_eq (names_sum t.names))
    have hjk := Nat.le_trans (jn_len [44, 32] (t.kids.map (lineF f))) (kids_sum ih t.kids 2 (by omega))
    have hfl := flat_len ih t.kids
    have hhd := head_len t.names
    have hl0 : (lineF f (kd t 0)).length ≤ 16 * kb t 0 := by
      have := p 0 0 (by omega)
      rw [part0] at this
      exact this
    rw [lineF_s]
    unfold lineR
    clear p
    by_cases h1 : t.kind = 1 ∨ t.kind = 17
    · rw [if_pos h1]; omega
    rw [if_neg h1]
    by_cases h2 : t.kind = 2
    · rw [if_pos h2]; simp only [List.length_cons, List.length_append, List.length_nil]; omega
    rw [if_neg h2]
    by_cases h3 : t.kind = 3
    · rw [if_pos h3]; simp only [List.length_cons, List.length_append, List.length_nil]; omega
    rw [if_neg h3]
    by_cases h4 : t.kind = 4
    · rw [if_pos h4]; unfold arrowR; by_cases hh : t.names = [] <;> simp only [hh, if_true, if_false, List.length_cons, List.length_append, List.length_nil] <;> omega
    rw [if_neg h4]
    by_cases h5 : t.kind = 5
    · rw [if_pos h5]; unfold arrowR; by_cases hh : t.names = [] <;> simp only [hh, if_true, if_false, List.length_cons, List.length_append, List.length_nil] <;> omega
    rw [if_neg h5]
    by_cases h6 : t.kind = 6
    · rw [if_pos h6]; simp only [List.length_cons, List.length_append, List.length_nil]; omega
    rw [if_neg h6]
    by_cases h7 : t.kind = 7
    · rw [if_pos h7]; simp only [List.length_cons, List.length_append, List.length_nil]; omega
    rw [if_neg h7]
    by_cases h8 : t.kind = 8
    · rw [if_pos h8]; simp only [List.length_cons, List.length_append, List.length_nil]; omega
    rw [if_neg h8]
    by_cases h9 : t.kind = 9
    · rw [if_pos h9]; simp only [List.length_cons, List.length_append, List.length_nil]; omega
    rw [if_neg h9]
    by_cases h10 : t.kind = 10
    · rw [if_pos h10]; simp only [List.length_cons, List.length_append, List.length_nil]; omega
    rw [if_neg h10]
    by_cases h11 : t.kind = 11
    · rw [if_pos h11]; unfold elemR; by_cases hh : t.kids.length = 2 <;> simp only [hh, if_true, if_false, List.length_cons, List.length_append, List.length_nil] <;> omega
    rw [if_neg h11]
    by_cases h12 : t.kind = 12
    · rw [if_pos h12]; unfold faceR; by_cases hh : t.kids = []
      · rw [if_pos hh]; simp only [List.length_cons, List.length_append, List.length_nil]; omega
      · rw [if_neg hh]; omega
    rw [if_neg h12]
    by_cases h13 : t.kind = 13
    · rw [if_pos h13]; unfold eqR; simp only [List.length_cons, List.length_append, List.length_nil]; omega
    rw [if_neg h13]
    by_cases h14 : t.kind = 14
    · rw [if_pos h14]; simp only [List.length_cons, List.length_append, List.length_nil]; omega
    rw [if_neg h14]
    by_cases h15 : t.kind = 15
    · rw [if_pos h15]; simp only [List.length_cons, List.length_append, List.length_nil]; omega
    rw [if_neg h15]
    by_cases h16 : t.kind = 16
    · rw [if_pos h16]; simp only [List.length_cons, List.length_append, List.length_nil]; omega
    rw [if_neg h16]
    simp only [List.length_cons, List.length_append, List.length_nil]; omega
theorem partF_len (f pl : Nat) (t : Sx) : (partF f pl t).length ≤ 16 * blk t := by
  have := (line_len f).1 t
  unfold partF partR
  split
  · simp; omega
  · omega
theorem declR_len (f : Nat) (t : Sx) : (declR f t).length ≤ 16 * blk t := by
  have hb : blk t = 1 + t.name.length + blkN t.names + blkK t.kids := by cases t; exact blk_mk _ _ _ _ _
  have hs := kb_sum t
  have q0 := part_len (line_len f) t 0 0 (by omega)
  have q1 := part_len (line_len f) t 0 1 (by omega)
  unfold declR partF
  simp
  omega
end Go.Proofs.YtahnbigkdfmpbaaDoor
