/- Texts of terms, by the document's answer: what is asked. -/
import Derived.Test.YtpfnjeefhddikaaRDimsB
namespace Go.Proofs.Ytpfnjeefhddikaa
open Go.RowKit
set_option linter.unusedVariables false
set_option linter.unusedSimpArgs false

/-- Where a part stands, by the number that Text is given. -/
def plc (L : Nat) : Nat := if L = 0 then 0 else L + 1
def RTx (f : Nat) : Prop := ∀ (L n : Nat) (t : Sx) (v : Value) (w : World), L < 3 → okF f 0 t = true → blk t ≤ 65536 → SxIn n w t v → n ≤ w.heap.size → Calls Try.prog 19 #[v, .int .i64 (L : Nat)] w fun e w' => e = .returned (.string (bs (partF f (plc L) t))) ∧ Below w.heap.size w w'
theorem RTx.at0 {f : Nat} (IH : RTx f) (n : Nat) (t : Sx) (v : Value) (w : World) (hok : okF f 0 t = true) (hb : blk t ≤ 65536) (h : SxIn n w t v) (hn : n ≤ w.heap.size) : Calls Try.prog 19 #[v, .int .i64 0] w fun e w' => e = .returned (.string (bs (partF f 0 t))) ∧ Below w.heap.size w w' := IH 0 n t v w (by omega) hok hb h hn
theorem RTx.at1 {f : Nat} (IH : RTx f) (n : Nat) (t : Sx) (v : Value) (w : World) (hok : okF f 0 t = true) (hb : blk t ≤ 65536) (h : SxIn n w t v) (hn : n ≤ w.heap.size) : Calls Try.prog 19 #[v, .int .i64 1] w fun e w' => e = .returned (.string (bs (partF f 2 t))) ∧ Below w.heap.size w w' := IH 1 n t v w (by omega) hok hb h hn
theorem RTx.at2 {f : Nat} (IH : RTx f) (n : Nat) (t : Sx) (v : Value) (w : World) (hok : okF f 0 t = true) (hb : blk t ≤ 65536) (h : SxIn n w t v) (hn : n ≤ w.heap.size) : Calls Try.prog 19 #[v, .int .i64 2] w fun e w' => e = .returned (.string (bs (partF f 3 t))) ∧ Below w.heap.size w w' := IH 2 n t v w (by omega) hok hb h hn
theorem dims_at2 {f : Nat} (n : Nat) (t : Sx) (v : Value) (w : World) (hok : okF f 1 t = true) (hb : blk t ≤ 65536) (h : SxIn n w t v) (hn : n ≤ w.heap.size) : Calls Try.prog 34 #[v, .int .i64 2] w fun e w' => e = .returned (.string (bs (partF f 6 t))) ∧ Below w.heap.size w w' := dims_any f 2 n t v w (by omega) hok hb h hn
theorem alloc_size1 (w : World) (b) : (w.alloc b).heap.size = w.heap.size + 1 := by unfold World.alloc; exact Array.size_push ..
theorem add_as {a b c : Bs} (h : a ++ b = c) (hl : c.length ≤ 100000000) (w : World) : (Op.stringOp .add (bs a) (bs b)).run Try.prog w = .ok (.string (bs c)) w := by
  subst h
  exact add_bs a b (by rw [List.length_append] at hl; exact hl) w
theorem join_names {n : Nat} {w : World} {ns : List Bs} {a : Option Addr} {cap : Nat} (h : NmS n w ns (.slice a ns.length cap)) (hn : n ≤ w.heap.size) (hl : ns.length ≤ 1000000) (hb : blkN ns ≤ 65536) :
    Calls Try.prog 33 #[.slice a ns.length cap, .string (bs [32])] w fun e w' => e = .returned (.string (bs (jn [32] ns))) ∧ Below w.heap.size w w' := by
  obtain ⟨a', cap', e, _, hc⟩ := h
  injection e with e1 _ _
  subst e1
  refine join_any ns [32] a cap w (fun j x hx => ?_) hl (by have h9 := names_sum ns; simp only [List.length_cons, List.length_nil] at h9 ⊢; omega) (by simp)
  obtain ⟨g, off, h1, h2, h3⟩ := hc j x hx
  exact ⟨g, off, h1, by omega, h3⟩
theorem blk_sum (t : Sx) : blk t = 1 + t.name.length + blkN t.names + blkK t.kids := by cases t; exact blk_mk _ _ _ _ _
theorem jn_names_len (t : Sx) : (jn [32] t.names).length ≤ blk t := by
  have h1 := Nat.le_trans (jn_len [32] t.names) (Nat.le_of_eq (names_sum t.names))
  have := blk_sum t
  omega
theorem part_front {a : Sx} (f : Nat) (h : frontB a = true) : partF f 1 a = 40 :: (partF f 2 a ++ [41]) := by
  have hk : a.kind = 9 := by
    unfold frontB at h
    simp only [Bool.and_eq_true, decide_eq_true_eq] at h
    exact h.1
  have e1 : needB a 1 = true := by unfold needB; rw [h]; simp
  have e2 : needB a 2 = false := by unfold needB lastP; rw [hk]; simp
  unfold partF partR
  rw [e1, e2, if_pos rfl, if_neg (by simp)]
theorem part_back {a : Sx} (f : Nat) (h : frontB a = false) : partF f 1 a = partF f 2 a := by
  have e : needB a 1 = needB a 2 := by
    have h12 : lastP a.kind < 1 ↔ lastP a.kind < 2 := by
      unfold lastP
      repeat' split
      all_goals omega
    unfold needB
    rw [h, Bool.and_false, Bool.and_false, Bool.or_false, Bool.or_false]
    exact decide_eq_decide.mpr h12
  unfold partF partR
  rw [e]
theorem front_no {a : Sx} (h : a.kind ≠ 9) : frontB a = false := by unfold frontB; simp [h]
theorem front_kid {a e : Sx} {l : List Sx} (h : a.kind = 9) (hl : a.kids = e :: l) : frontB a = decide (e.kind = 1) := by unfold frontB; rw [hl]; simp [h]
end Go.Proofs.Ytpfnjeefhddikaa
