/- Term, by the document's answer. -/
import Derived.Test.YtpfnjeefhddikaaRText
import Derived.Test.YtpfnjeefhddikaaRRightB
namespace Go.Proofs.Ytpfnjeefhddikaa
open Go.RowKit
set_option linter.unusedVariables false
set_option linter.unusedSimpArgs false

set_option maxRecDepth 100000 in
theorem rDone_any (s : Bs) (w : World) (hs : s.length ≤ 100000000) : Calls Try.prog 18 #[.string (bs s)] w fun e w' => e = .returned (.tuple #[.string (bs (toldF s).1), .int .i64 ((toldF s).2 : Nat)]) ∧ Below w.heap.size w w' := by
  have hz := bs_size s
  unfold toldF
  by_cases h : 65536 < s.length
  · rw [if_pos h]
    have hi : (65536 : Int) < ((bs s).size : Int) := by rw [hz]; omega
    clear hz
    go_enter Try.func18, Try.ntmps18
    go_wp2_with fail
    go_ret2
    exact ⟨rfl, Below.refl _ _⟩
  · rw [if_neg h]
    have hi : ¬ (65536 : Int) < ((bs s).size : Int) := by rw [hz]; omega
    clear hz
    go_enter Try.func18, Try.ntmps18
    go_wp2_with fail
    go_ret2
    exact ⟨rfl, Below.refl _ _⟩
set_option maxRecDepth 100000 in
set_option maxHeartbeats 1000000 in
theorem rTerm_any (n : Nat) (t : Sx) (v : Value) (w : World) (h : SxIn n w t v) (hn : n ≤ w.heap.size) (hb : blk t ≤ 65536) :
    Calls Try.prog 8 #[v] w fun e w' => e = .returned (.tuple #[.string (bs (termT 65536 t).1), .int .i64 ((termT 65536 t).2 : Nat)]) ∧ Below w.heap.size w w' := by
  obtain ⟨ka, kc, na, nc, rfl, hN, hK⟩ := h.form
  obtain ⟨w1, hw1⟩ : ∃ w1, w1 = w.alloc (.cells #[.int .i64 t.kind, .string (bs t.name), .slice ka t.kids.length kc, .slice na t.names.length nc, .int .i64 t.at_] 25) := ⟨_, rfl⟩
  have hal : Below w.heap.size w w1 := by rw [hw1]; exact below_alloc _ _
  have hB : Bx w1 w.heap.size (.int .i64 t.kind) (.string (bs t.name)) (.slice ka t.kids.length kc) (.slice na t.names.length nc) (.int .i64 t.at_) := by rw [hw1]; exact bx_new _ _ _ _ _ _
  have Hw1 : Hid (_ = _) := hw1
  clear hw1
  have hn1 := Nat.le_trans hn hal.size
  have h1 := h.keep (hal.mono hn)
  have c := rRight_any 65536 n t _ w1 h1 hn1 hb (Nat.le_refl _)
  unfold termT
  cases hq : okF 65536 0 t
  · rw [hq] at c
    simp only [Bool.false_eq_true, if_false]
    go_enter Try.func8, Try.ntmps8
    go_wp2_with fail
    rw [← Hw1.out]
    refine c.mono ?_
    rintro e w' ⟨rfl, hb2⟩
    go_wp2_with fail
    go_ret2
    exact ⟨rfl, chain hal hb2⟩
  · rw [hq] at c
    simp only [if_true]
    have HOK : Hid (okF 65536 0 t = true) := hq
    clear hq
    go_enter Try.func8, Try.ntmps8
    go_wp2_with fail
    rw [← Hw1.out]
    refine c.mono ?_
    rintro e w2 ⟨rfl, hb2⟩
    have hB2 := hB.blw hb2
    obtain ⟨x0, x1, x2, x3, x4⟩ := hB2.cells
    have hn2 := Nat.le_trans hn1 hb2.size
    have cX := (text_any 65536).at0 n t _ w2 HOK.out hb (h1.keep (hb2.mono hn1)) hn2
    clear c
    go_wp2_with fail
    refine cX.mono ?_
    rintro e w3 ⟨rfl, hb3⟩
    have hl3 := partF_len 65536 0 t
    have cD := rDone_any (partF 65536 0 t) w3 (by omega)
    clear cX
    go_wp2_with fail
    refine cD.mono ?_
    rintro e w4 ⟨rfl, hb4⟩
    go_wp2_with fail
    go_ret2
    exact ⟨rfl, chain (chain (chain hal hb2) hb3) hb4⟩
end Go.Proofs.Ytpfnjeefhddikaa
