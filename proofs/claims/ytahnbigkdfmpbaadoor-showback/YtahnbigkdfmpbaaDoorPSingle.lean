/- A term alone. -/
import Derived.Deep.RegionWith
import Derived.Test.YtahnbigkdfmpbaaDoorPDim
import Derived.Test.YtahnbigkdfmpbaaDoorPRow
namespace Go.Proofs.YtahnbigkdfmpbaaDoor
open Go.RowKit
set_option linter.unusedVariables false
set_option linter.unusedSimpArgs false

set_option maxRecDepth 100000 in
set_option maxHeartbeats 4000000 in
theorem single_any (r : Rdr) (hwf : r.wf) (f : Nat) (iht : RuleC r 26 (termP r.e f)) : RuleC0 r 16 (singleP r.e f) := by
  intro R w hR hNF
  obtain ⟨X, hX⟩ : ∃ X, singleP r.e f R = X := ⟨_, rfl⟩
  rw [hX] at hNF ⊢
  rw [singleP] at hX
  have HX : Hid (_ = X) := hX
  clear hX
  have hlt := hR.lt.2
  obtain ⟨w1, hw1⟩ : ∃ w1, w1 = w.alloc (.cells #[.int .i64 0, .string ⟨#[]⟩, .slice none 0 0, .slice none 0 0, .int .i64 0] 25) := ⟨_, rfl⟩
  have hB1 : Below w.heap.size w w1 := by rw [hw1]; exact below_alloc _ _
  have hh1 : Hole w1 w.heap.size := by rw [hw1]; exact hole_new w
  have hn1 : w.heap.size < w1.heap.size := by rw [hw1]; simp
  have hI1 := hR.below hB1
  have hK1 := Kp.refl r.b w1
  have Hw1 : Hid (_ = _) := hw1
  clear hw1
  go_enter Tryd.func16, Tryd.ntmps16
  go_wp2_with fail
  rw [← Hw1.out]
  clear Hw1
  have hN2 : NF (termP r.e f 1 (R)) := NF.left (by have h := hNF; rw [← HX.out] at h; exact h)
  have c := iht 1 (R) w1 (by omega) hI1 hN2
  cases hq : termP r.e f 1 (R) using Rs.cs with
  | bad p y =>
    rw [hq] at c HX
    go_wp2_with fail
    refine c.mono ?_
    rintro e w2 ⟨rfl, hb⟩
    exact ⟨rfl, rule_bad HX.out.symm hB1 hK1 hlt hb⟩
  | ok t2 R2 =>
    rw [hq] at c HX
    rw [bnd_ok] at HX
    go_wp2_with fail
    refine c.mono ?_
    rintro e w2 ⟨v2, rfl, ht2, hI2, hk2⟩
    have hK2 := hK1.trans hk2
    clear c hq
    replace ht2 := TrIn.from ht2 hK1.size
    obtain ⟨vk2, vn2, rfl, hf2, ka2, kc2, rfl⟩ := TrIn.form ht2
    obtain ⟨na2, nc2, rfl⟩ := hf2.form
    clear hf2
    go_wp2_with fail
    have hal := below_alloc w2 (.cells #[.int .i64 (t2.kind : Nat), .string (bs t2.name), .slice ka2 t2.kids.length kc2, .slice na2 t2.names.length nc2, .int .i64 (t2.at_ : Nat)] 25)
    have hbx := blk_new w2 (.int .i64 (t2.kind : Nat)) (.string (bs t2.name)) (.slice ka2 t2.kids.length kc2) (.slice na2 t2.names.length nc2) (.int .i64 (t2.at_ : Nat))
    have hxge := hK2.size
    obtain ⟨w3, hw⟩ : ∃ w0, w0 = w2.alloc (.cells #[.int .i64 (t2.kind : Nat), .string (bs t2.name), .slice ka2 t2.kids.length kc2, .slice na2 t2.names.length nc2, .int .i64 (t2.at_ : Nat)] 25) := ⟨_, rfl⟩
    rw [← hw] at hal hbx ⊢
    clear hw
    have hI3 := hI2.below hal
    have hK3 := chainK hK2 hal
    replace ht2 := TrIn.ahead ht2 (Nat.le_refl _) hal
    clear hal
    obtain ⟨x, hx⟩ : ∃ x, x = w2.heap.size := ⟨_, rfl⟩
    rw [← hx] at ht2 hbx hxge ⊢
    clear hx
    obtain ⟨n, hn, d1, k0, _, _⟩ := hI3.head
    have d0 := hI3.c0
    have hA := hwf.1
    have e1 : (n : Int) < (r.A.length : Int) + 1 := by omega
    cases hq : R2 with
    | nil =>
      rw [hq] at k0 HX
      rw [if_pos rfl] at HX
      replace k0 : w3.cell? ⟨r.g, n * 3, none⟩ = some (.int .i64 0) := k0
      generalize r.A.length = N at *
      go_quiet (fail)
      obtain ⟨w4, hw⟩ : ∃ w0, w0 = w3.drewN nq := ⟨_, rfl⟩
      have hB9 : Below w3.heap.size w3 w4 := by rw [hw]; exact drewN_below _ _
      rw [← hw]
      clear hw d0 d1 k0
      have hI4 := hI3.below hB9
      have hK4 := chainK hK3 hB9
      have hk4 := Kp.of_below (b := r.b) hB9
      replace ht2 := TrIn.kpB ht2 hk4 (by omega)
      replace hbx := Blk.kp hbx hk4 hbx.lt (by omega)
      rw [hq] at hI4
      obtain ⟨c0, c1, c2, c3, c4, _⟩ := hbx.cells
      obtain ⟨o0, o1, o2, o3, o4, z0, z1, z2, z3, z4⟩ := Blk.cells (hh1.kp hK4 hn1 hlt)
      go_wp2_with fail
      exact ⟨rfl, .agg #[.int .i64 (t2.kind : Nat), .string (bs t2.name), .slice ka2 t2.kids.length kc2, .slice na2 t2.names.length nc2, .int .i64 (t2.at_ : Nat)], by simp [results, Tryd.results16, go_sem, *], rule_end (n := w.heap.size) HX.out.symm hB1 rfl hn1 hI4 hlt hK4 (TrIn.fromB ht2) _ _ _ _ _⟩
    | cons t R9 =>
      rw [hq] at k0 HX
      rw [if_neg (by simp)] at HX
      have hI9 := hI3
      rw [hq] at hI9
      have hkd : t.kind = 1 ∨ t.kind = 2 := by
        obtain ⟨P, hP, _⟩ := hI9.pre
        exact (hwf.2.2.1 t (by rw [hP]; simp)).1
      replace k0 : w3.cell? ⟨r.g, n * 3, none⟩ = some (.int .i64 (t.kind : Nat)) := k0
      have k9 : ((t.kind : Int) != 0) = true := by
        simp only [bne_iff_ne]; omega
      generalize t.kind = Kd at *
      generalize r.A.length = N at *
      go_quiet (fail)
      have c := wrong_any 61 r (w3.drewN nq) (t :: R9) (hI9.below (drewN_below _ _)) hwf
      clear d0 d1 k0
      go_wp2_with fail
      refine c.mono ?_
      rintro e w9 ⟨rfl, hb⟩
      exact ⟨rfl, rule_bad HX.out.symm hB1 hK3 hlt ((hI9.ble (drewN_below _ _)).trans ((hI9.below (drewN_below _ _)).ble hb))⟩
end Go.Proofs.YtahnbigkdfmpbaaDoor
