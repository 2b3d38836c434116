/- Two terms that are the same: the node. -/
import Derived.Deep.Cut
import Derived.Test.YtmaijbeghemkbaaYEqA
namespace Go.Proofs.Ytmaijbeghemkbaa
open Go.RowKit
set_option linter.unusedVariables false
set_option linter.unusedSimpArgs false

theorem toList_eq {a b : ByteArray} (h : a.toList = b.toList) : a = b := by
  rw [Lib.toList_data, Lib.toList_data] at h
  obtain ⟨⟨x⟩⟩ := a
  obtain ⟨⟨y⟩⟩ := b
  simp at h; rw [h]
theorem strNe {a b : ByteArray} (h : ¬ a = b) : (a.toList == b.toList) = false := by
  rw [Bool.eq_false_iff]; intro e; exact h (toList_eq (eq_of_beq e))
set_option maxRecDepth 100000 in
set_option maxHeartbeats 8000000 in
theorem same_step (N : Nat) (hN : N + 1 ≤ 100000) (IHk : SkC N) (IHs : SsC N) : SmC (N + 1) := by
  intro t u b g off g' off' ra rc ka kc sa sc ra' rc' ka' kc' sa' sc' w h6 ht h6' ht' hb he
  rw [Tm.eq_iff] at he
  have hbs := blk_eq t
  have k0 : ∀ u_ : Cw w, u_.1.cell? ⟨g, off, none⟩ = some (.int .i64 t.kind) := fun u_ => (h6.blw u_.2).c0
  have k1 : ∀ u_ : Cw w, u_.1.cell? ⟨g, off + 1, none⟩ = some (.int .i64 t.n) := fun u_ => (h6.blw u_.2).c1
  have k2 : ∀ u_ : Cw w, u_.1.cell? ⟨g, off + 2, none⟩ = some (.string t.name) := fun u_ => (h6.blw u_.2).c2
  have k3 : ∀ u_ : Cw w, u_.1.cell? ⟨g, off + 3, none⟩ = some (.slice ra t.r.length rc) := fun u_ => (h6.blw u_.2).c3
  have k4 : ∀ u_ : Cw w, u_.1.cell? ⟨g, off + 4, none⟩ = some (.slice ka t.kids.length kc) := fun u_ => (h6.blw u_.2).c4
  have k5 : ∀ u_ : Cw w, u_.1.cell? ⟨g, off + 5, none⟩ = some (.slice sa t.sys.length sc) := fun u_ => (h6.blw u_.2).c5
  have k0' : ∀ u_ : Cw w, u_.1.cell? ⟨g', off', none⟩ = some (.int .i64 u.kind) := fun u_ => (h6'.blw u_.2).c0
  have k1' : ∀ u_ : Cw w, u_.1.cell? ⟨g', off' + 1, none⟩ = some (.int .i64 u.n) := fun u_ => (h6'.blw u_.2).c1
  have k2' : ∀ u_ : Cw w, u_.1.cell? ⟨g', off' + 2, none⟩ = some (.string u.name) := fun u_ => (h6'.blw u_.2).c2
  have k3' : ∀ u_ : Cw w, u_.1.cell? ⟨g', off' + 3, none⟩ = some (.slice ra' u.r.length rc') := fun u_ => (h6'.blw u_.2).c3
  have k4' : ∀ u_ : Cw w, u_.1.cell? ⟨g', off' + 4, none⟩ = some (.slice ka' u.kids.length kc') := fun u_ => (h6'.blw u_.2).c4
  have k5' : ∀ u_ : Cw w, u_.1.cell? ⟨g', off' + 5, none⟩ = some (.slice sa' u.sys.length sc') := fun u_ => (h6'.blw u_.2).c5
  obtain ⟨z3, hz3⟩ : ∃ z, z = t.r.length := ⟨_, rfl⟩
  obtain ⟨z4, hz4⟩ : ∃ z, z = t.kids.length := ⟨_, rfl⟩
  obtain ⟨z5, hz5⟩ : ∃ z, z = t.sys.length := ⟨_, rfl⟩
  obtain ⟨y3, hy3⟩ : ∃ z, z = u.r.length := ⟨_, rfl⟩
  obtain ⟨y4, hy4⟩ : ∃ z, z = u.kids.length := ⟨_, rfl⟩
  obtain ⟨y5, hy5⟩ : ∃ z, z = u.sys.length := ⟨_, rfl⟩
  have r1 := ht.row
  have r2 := ht.kids
  have r3 := ht.sys
  have r1' := ht'.row
  have r2' := ht'.kids
  have r3' := ht'.sys
  rw [← hz3] at k3 r1
  rw [← hz4] at k4 r2
  rw [← hz5] at k5 r3
  rw [← hy3] at k3' r1'
  rw [← hy4] at k4' r2'
  rw [← hy5] at k5' r3'
  have hlr : t.r.length ≤ 100000 := by omega
  have hlk : blkL t.kids ≤ N := by omega
  have hls : blkS t.sys ≤ N := by omega
  obtain ⟨c1, hc1⟩ := bool_of (t.r = u.r)
  obtain ⟨c2, hc2⟩ := bool_of (t.kids = u.kids)
  obtain ⟨c3, hc3⟩ := bool_of (t.sys = u.sys)
  have H1 : Hid (∀ u_ : Cw w, Calls Try.prog 44 #[.slice ra z3 rc, .slice ra' y3 rc'] u_.1 fun e w' => e = .returned (.bool c1) ∧ ∃ u' : Cw w, w' = u'.1) := fun u_ => cw_call u_ (by
    have := eqC_any t.r u.r _ _ u_.1 (r1.blw u_.2).row (r1'.blw u_.2).row hlr
    have e : decide (t.r = u.r) = c1 := by rw [Bool.eq_iff_iff, hc1]; simp
    rw [e] at this; exact this)
  have H2 : Hid (∀ u_ : Cw w, Calls Try.prog 45 #[.slice ka z4 kc, .slice ka' y4 kc'] u_.1 fun e w' => e = .returned (.bool c2) ∧ ∃ u' : Cw w, w' = u'.1) := fun u_ => cw_call u_ (IHk t.kids u.kids c2 _ _ u_.1 (r2.blw u_.2) (r2'.blw u_.2) hlk hc2)
  have H3 : Hid (∀ u_ : Cw w, Calls Try.prog 46 #[.slice sa z5 sc, .slice sa' y5 sc', .func (.func 47) #[] #[]] u_.1 fun e w' => e = .returned (.bool c3) ∧ ∃ u' : Cw w, w' = u'.1) := fun u_ => cw_call u_ (IHs t.sys u.sys c3 _ _ u_.1 (r3.blw u_.2) (r3'.blw u_.2) hls hc3)
  have hne := cw_any w
  clear r1 r2 r3 r1' r2' r3' hz3 hz4 hz5 hy3 hy4 hy5 hlr hlk hls hbs hb h6 ht h6' ht' IHk IHs
  have HE : Hid (b = true ↔ t.kind = u.kind ∧ t.n = u.n ∧ t.name = u.name ∧ c1 = true ∧ c2 = true ∧ c3 = true) := by
    show _ ↔ _
    rw [he, hc1, hc2, hc3]
  clear he hc1 hc2 hc3
  obtain ⟨tk, htk⟩ : ∃ z, z = t.kind := ⟨_, rfl⟩
  obtain ⟨uk, huk⟩ : ∃ z, z = u.kind := ⟨_, rfl⟩
  obtain ⟨tn, htn⟩ : ∃ z, z = t.n := ⟨_, rfl⟩
  obtain ⟨un, hun⟩ : ∃ z, z = u.n := ⟨_, rfl⟩
  obtain ⟨ts, hts⟩ : ∃ z, z = t.name := ⟨_, rfl⟩
  obtain ⟨us, hus⟩ : ∃ z, z = u.name := ⟨_, rfl⟩
  rw [← htk, ← huk, ← htn, ← hun, ← hts, ← hus] at HE
  rw [← htk] at k0
  rw [← huk] at k0'
  rw [← htn] at k1
  rw [← hun] at k1'
  rw [← hts] at k2
  rw [← hus] at k2'
  clear htk huk htn hun hts hus
  by_cases e1 : tk = uk
  · subst e1
    by_cases e2 : tn = un
    · subst e2
      by_cases e3 : ts = us
      · subst e3
        cases c1 with
        | true =>
          cases c2 with
          | true =>
            go_enter Try.func34, Try.ntmps34
            go_upto_region 1 with fail
            simp only [List.append]
            refine wp_region_cw (by kernel_rfl) (by kernel_rfl) ?_
            repeat (first | go_big_quiet_step (fail) | quiet_step (fail))
            first | go_big_quiet_step (exact H1.out _) | quiet_step (exact H1.out _)
            repeat (first | go_big_quiet_step (fail) | quiet_step (fail))
            first | go_big_quiet_step (exact H2.out _) | quiet_step (exact H2.out _)
            repeat (first | go_big_quiet_step (fail) | quiet_step (fail))
            first | go_big_quiet_step (exact H3.out _) | quiet_step (exact H3.out _)
            repeat (first | go_big_quiet_step (fail) | quiet_step (fail))
            refine wpQuiet_nil ?_
            rintro _ ⟨u, rfl⟩
            obtain ⟨w5, hb5⟩ := u
            dsimp only
            clear k0 k0' k1 k1' k2 k2' k3 k3' k4 k4' k5 k5' hne
            go_wp2
            go_ret
            exact ⟨ret_bool (by rw [Bool.eq_iff_iff, HE.out]; simp), hb5⟩
          | false =>
            go_enter Try.func34, Try.ntmps34
            go_upto_region 1 with fail
            simp only [List.append]
            refine wp_region_cw (by kernel_rfl) (by kernel_rfl) ?_
            repeat (first | go_big_quiet_step (fail) | quiet_step (fail))
            first | go_big_quiet_step (exact H1.out _) | quiet_step (exact H1.out _)
            repeat (first | go_big_quiet_step (fail) | quiet_step (fail))
            first | go_big_quiet_step (exact H2.out _) | quiet_step (exact H2.out _)
            repeat (first | go_big_quiet_step (fail) | quiet_step (fail))
            refine wpQuiet_nil ?_
            rintro _ ⟨u, rfl⟩
            obtain ⟨w5, hb5⟩ := u
            dsimp only
            clear k0 k0' k1 k1' k2 k2' k3 k3' k4 k4' k5 k5' hne
            go_wp2
            go_ret
            exact ⟨ret_bool (by rw [Bool.eq_iff_iff, HE.out]; simp), hb5⟩
        | false =>
          go_enter Try.func34, Try.ntmps34
          go_upto_region 1 with fail
          simp only [List.append]
          refine wp_region_cw (by kernel_rfl) (by kernel_rfl) ?_
          repeat (first | go_big_quiet_step (fail) | quiet_step (fail))
          first | go_big_quiet_step (exact H1.out _) | quiet_step (exact H1.out _)
          repeat (first | go_big_quiet_step (fail) | quiet_step (fail))
          refine wpQuiet_nil ?_
          rintro _ ⟨u, rfl⟩
          obtain ⟨w5, hb5⟩ := u
          dsimp only
          clear k0 k0' k1 k1' k2 k2' k3 k3' k4 k4' k5 k5' hne
          go_wp2
          go_ret
          exact ⟨ret_bool (by rw [Bool.eq_iff_iff, HE.out]; simp), hb5⟩
      · have e4 : Hid (¬ ts = us) := e3
        have q3 := strNe e3
        go_enter Try.func34, Try.ntmps34
        go_upto_region 1 with fail
        simp only [List.append]
        refine wp_region_cw (by kernel_rfl) (by kernel_rfl) ?_
        repeat (first | go_big_quiet_step (fail) | quiet_step (fail))
        refine wpQuiet_nil ?_
        rintro _ ⟨u, rfl⟩
        obtain ⟨w5, hb5⟩ := u
        dsimp only
        clear k0 k0' k1 k1' k2 k2' k3 k3' k4 k4' k5 k5' hne
        go_wp2
        go_ret
        exact ⟨ret_bool (by rw [Bool.eq_iff_iff, HE.out]; simp [e4.out]), hb5⟩
    · have e4 : (tn == un) = false := by simpa using e2
      go_enter Try.func34, Try.ntmps34
      go_upto_region 1 with fail
      simp only [List.append]
      refine wp_region_cw (by kernel_rfl) (by kernel_rfl) ?_
      repeat (first | go_big_quiet_step (fail) | quiet_step (fail))
      refine wpQuiet_nil ?_
      rintro _ ⟨u, rfl⟩
      obtain ⟨w5, hb5⟩ := u
      dsimp only
      clear k0 k0' k1 k1' k2 k2' k3 k3' k4 k4' k5 k5' hne
      go_wp2
      go_ret
      exact ⟨ret_bool (by rw [Bool.eq_iff_iff, HE.out]; simp [e2]), hb5⟩
  · have e4 : (tk == uk) = false := by simpa using e1
    go_enter Try.func34, Try.ntmps34
    go_upto_region 1 with fail
    simp only [List.append]
    refine wp_region_cw (by kernel_rfl) (by kernel_rfl) ?_
    repeat (first | go_big_quiet_step (fail) | quiet_step (fail))
    refine wpQuiet_nil ?_
    rintro _ ⟨u, rfl⟩
    obtain ⟨w5, hb5⟩ := u
    dsimp only
    clear k0 k0' k1 k1' k2 k2' k3 k3' k4 k4' k5 k5' hne
    go_wp2
    go_ret
    exact ⟨ret_bool (by rw [Bool.eq_iff_iff, HE.out]; simp [e1]), hb5⟩
end Go.Proofs.Ytmaijbeghemkbaa
