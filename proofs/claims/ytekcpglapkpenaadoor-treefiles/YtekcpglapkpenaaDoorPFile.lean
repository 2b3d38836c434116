/- Files: rows of declarations. -/
import Derived.Test.YtekcpglapkpenaaDoorPDim
import Derived.Test.YtekcpglapkpenaaDoorPRow
namespace Go.Proofs.YtekcpglapkpenaaDoor
open Go.RowKit
set_option linter.unusedVariables false
set_option linter.unusedSimpArgs false

set_option maxRecDepth 100000 in
set_option maxHeartbeats 4000000 in
theorem file_any (r : Rdr) (hwf : r.wf) (f g : Nat) (hg : g ≤ 1000000) (ihd : RuleC0 r 36 (declP r.e f)) (R : Ts) (w : World) (hR : r.In w R) (hNF : NF (fileL r.e f g [] R)) :
    Calls Tryd.prog 21 #[r.ptr] w (Out r w (fun l w' v => KRow w.heap.size r.b w' v l) (fileL r.e f g [] R)) := by
  obtain ⟨X, hX⟩ : ∃ X, fileL r.e f g [] R = X := ⟨_, rfl⟩
  rw [hX] at hNF ⊢
  have HX : Hid (_ = X) := hX
  clear hX
  have hlt := hR.lt.2
  have hA := hwf.1
  go_enter Tryd.func21, Tryd.ntmps21
  go_wp2_with fail
  go_loopg [3] g (fun k o wr => ∃ acc R' aA lA cA, o = .slice aA lA cA ∧ KRow w.heap.size r.b wr (.slice aA lA cA) acc ∧ r.In wr R' ∧ Kp r.b w wr ∧ Hid (acc.length + k ≤ g ∧ fileL r.e f k acc R' = X))
  case atStart => exact ⟨[], R, none, 0, 0, rfl, KRow.nil _ _ _, hR, Kp.refl _ _, ⟨by simp, HX.out⟩⟩
  case round =>
    obtain ⟨acc, R', aA, lA, cA, rfl, hkr, hI, hK, HK⟩ := hrel
    clear HX
    cases gk with
    | zero => exact absurd HK.out.2 (fun h => by rw [fileL] at h; exact hNF 0 h.symm)
    | succ k =>
      have HX : Hid (_ = X) := HK.out.2
      have HF : Hid (acc.length + (k + 1) ≤ g) := HK.out.1
      rw [fileL] at HX
      clear HK
      obtain ⟨w3, hw3⟩ : ∃ w0, w0 = wr := ⟨_, rfl⟩
      subst hw3
      obtain ⟨n, hn, d1, k0, _, _⟩ := hI.head
      have d0 := hI.c0
      have e1 : (n : Int) < (r.A.length : Int) + 1 := by omega
      cases hq : R' with
      | nil =>
        rw [hq] at k0 HX hI
        rw [if_pos rfl] at HX
        replace k0 : w3.cell? ⟨r.g, n * 3, none⟩ = some (.int .i64 0) := k0
        generalize r.A.length = N at *
        go_wp2_with fail
        go_quiet (fail)
        go_wp2_with fail
        go_ret
        exact Out.ok_of HX.out.symm (hkr.kp (Kp.of_below (b := r.b) (drewN_below _ _)) (by omega)) (hI.below (drewN_below _ _)) (chainK hK (drewN_below _ _))
      | cons t R9 =>
        rw [hq] at k0 HX hI
        rw [if_neg (by simp)] at HX
        have hkd : t.kind = 1 ∨ t.kind = 2 := by
          obtain ⟨P, hP, _⟩ := hI.pre
          exact (hwf.2.2.1 t (by rw [hP]; simp)).1
        replace k0 : w3.cell? ⟨r.g, n * 3, none⟩ = some (.int .i64 (t.kind : Nat)) := k0
        have k9 : ((t.kind : Int) != 0) = true := by
          simp only [bne_iff_ne]; omega
        have hN : NF (declP r.e f (t :: R9)) := NF.left (by have h := hNF; rw [← HX.out] at h; exact h)
        have c := fun w hw => ihd (t :: R9) w hw hN
        obtain ⟨R8, hR8⟩ : ∃ R8, t :: R9 = R8 := ⟨_, rfl⟩
        rw [hR8] at hI HX
        simp only [hR8] at c
        generalize t.kind = Kd at *
        generalize r.A.length = N at *
        clear hR8 hN hq hkd
        go_wp2_with fail
        go_quiet (fail)
        clear d0 d1 k0
        obtain ⟨w4, hw4⟩ : ∃ w4, w4 = w3.drewN nq := ⟨_, rfl⟩
        have hB4 : Below w3.heap.size w3 w4 := by rw [hw4]; exact drewN_below _ _
        rw [← hw4]
        clear hw4
        replace hkr := hkr.kp (Kp.of_below (b := r.b) hB4) (by omega)
        have hI4 := hI.below hB4
        have hK4 := chainK hK hB4
        have c4 := c w4 hI4
        clear c
        have hown := hkr.own
        have hms := hK4.size
        have hbl := hI4.lt.2
        cases hq : declP r.e f R8 using Rs.cs with
        | bad p y =>
          rw [hq] at c4 HX
          go_wp2_with fail
          refine c4.mono ?_
          rintro e w5 ⟨rfl, hb⟩
          exact ⟨rfl, Out.bad_of HX.out.symm ((hK4.below (Nat.le_of_lt hlt)).trans hb)⟩
        | ok u R5 =>
          rw [hq] at c4 HX
          rw [bnd_ok] at HX
          go_wp2_with fail
          refine c4.mono ?_
          rintro e w5 ⟨v5, rfl, hu, hI5, hk5⟩
          clear c4 hq
          have hK5 := hK4.trans hk5
          replace hkr := hkr.kp hk5 (by omega)
          obtain ⟨vku, vnu, rfl, hfu, kau, kcu, rfl⟩ := TrIn.form hu
          obtain ⟨nau, ncu, rfl⟩ := hfu.form
          clear hfu
          have hal := below_alloc w5 (.cells #[.int .i64 (u.kind : Nat), .string (bs u.name), .slice kau u.kids.length kcu, .slice nau u.names.length ncu, .int .i64 (u.at_ : Nat)] 26)
          have hkl := Kp.of_below (b := r.b) hal
          have hkr6 := hkr.kp hkl (by omega)
          have hu6 := TrIn.kp hu hkl (by omega)
          have hsz := hK5.size
          have hb5 := hI5.lt.2
          go_wp2_with (at_builtin; refine wpList_append_tree (n := w.heap.size) (x := r.b) (m := w4.heap.size) rfl _ _ rfl rfl rfl hkr6 hu6 (one_cells _ _ _ _ _ _ _) hown (by omega) hms (fun j y hj => new_cell _ _ _ _ j y rfl hj) (by have := HF.out; omega) (by simp; omega) (by simp; omega) ?_; intro v7 w7 hkr7 hg7)
          obtain ⟨rA, rL, rC, rfl⟩ := hkr7.form2
          go_roundg k
          case measure => omega
          case rel => exact ⟨acc ++ [u], R5, rA, rL, rC, rfl, hkr7, (hI5.below hal).grownK hkr6 hg7 hlt, (hK5.trans hkl).grownK hkr6 hg7 (Nat.le_refl _), ⟨by have := HF.out; simp; omega, HX.out⟩⟩
end Go.Proofs.YtekcpglapkpenaaDoor
