/- Names, and the rows' dimensions, by the document. -/
import Derived.Test.YtpmmbfngogpinaaGreatYOkD
import Derived.Test.YtpmmbfngogpinaaGreatYMoreM
namespace Go.Proofs.YtpmmbfngogpinaaGreat
open Go.RowKit
set_option linter.unusedVariables false
set_option linter.unusedSimpArgs false

set_option maxRecDepth 100000 in
set_option maxHeartbeats 4000000 in
theorem rname_any (s : ByteArray) (w : World) (hl : s.size ≤ 1000000) : Calls Tryz.prog 148 #[.string s] w fun e w' => e = .returned (.bool (nmB s)) ∧ w' = w := by
  go_enter Tryz.func148, Tryz.ntmps148
  go_wp2
  go_loop [3] (fun i => ∃ j : Nat, j ≤ s.size ∧ i = .int .i64 j ∧ nmTo s j) (fun i => s.size - (intOf i).toNat)
  case atStart => exact ⟨0, Nat.zero_le _, rfl, nmTo_zero s⟩
  case round =>
    obtain ⟨j, hj, rfl, hn⟩ := hrel
    by_cases hlt : j < s.size
    · have hjI : (j : Int) < (s.size : Int) := by omega
      have hc : (s[j]).toNat < 256 := (s[j]).toNat_lt
      have HS : Hid ((letterU s[j] || (decide (0 < j) && digitU s[j])) = true → nmTo s (j + 1)) := fun h => nmTo_step hn hlt h
      have HB : Hid ((letterU s[j] || (decide (0 < j) && digitU s[j])) = false → nmB s = false) := fun h => nmB_bad j hlt h
      have HL : Hid (∀ n, (s[j]).toNat = n → letterU s[j] = ((97 ≤ n && n ≤ 122) || (65 ≤ n && n ≤ 90) || n == 95) ∧ digitU s[j] = (48 ≤ n && n ≤ 57)) := fun n e => by subst e; exact ⟨rfl, rfl⟩
      obtain ⟨n, hn1⟩ : ∃ n, n = (s[j]).toNat := ⟨_, rfl⟩
      have HN : Hid ((s[j]).toNat = n) := hn1.symm
      obtain ⟨e1, e2⟩ := HL.out n hn1.symm
      rw [← hn1] at hc
      clear HL hn
      rcases (show (n < 48) ∨ (48 ≤ n ∧ n ≤ 57) ∨ (58 ≤ n ∧ n ≤ 64) ∨ (65 ≤ n ∧ n ≤ 90) ∨ (91 ≤ n ∧ n ≤ 94) ∨ (n = 95) ∨ (n = 96) ∨ (97 ≤ n ∧ n ≤ 122) ∨ (123 ≤ n ∧ n < 256) by omega) with hr | hr | hr | hr | hr | hr | hr | hr | hr
      · have f0 : decide ((48 : Int) ≤ ((s[j]).toNat : Int)) = false := by rw [HN.out]; simp; try omega
        have f1 : decide (((s[j]).toNat : Int) ≤ 57) = true := by rw [HN.out]; simp; try omega
        have f2 : (((s[j]).toNat : Int) == 95) = false := by rw [HN.out]; simp; try omega
        have f3 : decide (((s[j]).toNat : Int) < 97) = true := by rw [HN.out]; simp; try omega
        have f4 : decide ((122 : Int) < ((s[j]).toNat : Int)) = false := by rw [HN.out]; simp; try omega
        have f5 : decide (((s[j]).toNat : Int) < 65) = true := by rw [HN.out]; simp; try omega
        have f6 : decide ((90 : Int) < ((s[j]).toNat : Int)) = false := by rw [HN.out]; simp; try omega
        have g0 : ¬ 48 ≤ (s[j]).toNat := by rw [HN.out]; omega
        have g1 : (s[j]).toNat ≤ 57 := by rw [HN.out]; omega
        have g2 : ¬ (s[j]).toNat = 95 := by rw [HN.out]; omega
        have g3 : (s[j]).toNat < 97 := by rw [HN.out]; omega
        have g4 : ¬ 122 < (s[j]).toNat := by rw [HN.out]; omega
        have g5 : (s[j]).toNat < 65 := by rw [HN.out]; omega
        have g6 : ¬ 90 < (s[j]).toNat := by rw [HN.out]; omega
        have e3 : letterU s[j] = false := by rw [e1]; simp; omega
        have e4 : digitU s[j] = false := by rw [e2]; simp; try omega
        clear e1 e2 hr HN hn1 hc
        have HB' : Hid (nmB s = false) := HB.out (by rw [e3, e4]; simp; try omega)
        clear e3 e4 HS HB
        go_wp2
        go_ret
        exact ⟨ret_bool HB'.out.symm, rfl⟩
      · have f0 : decide ((48 : Int) ≤ ((s[j]).toNat : Int)) = true := by rw [HN.out]; simp; try omega
        have f1 : decide (((s[j]).toNat : Int) ≤ 57) = true := by rw [HN.out]; simp; try omega
        have f2 : (((s[j]).toNat : Int) == 95) = false := by rw [HN.out]; simp; try omega
        have f3 : decide (((s[j]).toNat : Int) < 97) = true := by rw [HN.out]; simp; try omega
        have f4 : decide ((122 : Int) < ((s[j]).toNat : Int)) = false := by rw [HN.out]; simp; try omega
        have f5 : decide (((s[j]).toNat : Int) < 65) = true := by rw [HN.out]; simp; try omega
        have f6 : decide ((90 : Int) < ((s[j]).toNat : Int)) = false := by rw [HN.out]; simp; try omega
        have g0 : 48 ≤ (s[j]).toNat := by rw [HN.out]; omega
        have g1 : (s[j]).toNat ≤ 57 := by rw [HN.out]; omega
        have g2 : ¬ (s[j]).toNat = 95 := by rw [HN.out]; omega
        have g3 : (s[j]).toNat < 97 := by rw [HN.out]; omega
        have g4 : ¬ 122 < (s[j]).toNat := by rw [HN.out]; omega
        have g5 : (s[j]).toNat < 65 := by rw [HN.out]; omega
        have g6 : ¬ 90 < (s[j]).toNat := by rw [HN.out]; omega
        have e3 : letterU s[j] = false := by rw [e1]; simp; omega
        have e4 : digitU s[j] = true := by rw [e2]; simp; try omega
        clear e1 e2 hr HN hn1 hc
        by_cases hj0 : 0 < j
        · have k0 : decide ((0 : Int) < (j : Int)) = true := by simpa using hj0
          have HS' : Hid (nmTo s (j + 1)) := HS.out (by rw [e3, e4]; simp; try omega)
          clear e3 e4 HS HB
          go_wp2
          go_round
          case rel => exact ⟨j + 1, by omega, by go_num, HS'.out⟩
          case measure => simp [intOf]; omega
        · have k0 : decide ((0 : Int) < (j : Int)) = false := by simpa using hj0
          have HB' : Hid (nmB s = false) := HB.out (by rw [e3, e4]; simp; try omega)
          clear e3 e4 HS HB
          go_wp2
          go_ret
          exact ⟨ret_bool HB'.out.symm, rfl⟩
      · have f0 : decide ((48 : Int) ≤ ((s[j]).toNat : Int)) = true := by rw [HN.out]; simp; try omega
        have f1 : decide (((s[j]).toNat : Int) ≤ 57) = false := by rw [HN.out]; simp; try omega
        have f2 : (((s[j]).toNat : Int) == 95) = false := by rw [HN.out]; simp; try omega
        have f3 : decide (((s[j]).toNat : Int) < 97) = true := by rw [HN.out]; simp; try omega
        have f4 : decide ((122 : Int) < ((s[j]).toNat : Int)) = false := by rw [HN.out]; simp; try omega
        have f5 : decide (((s[j]).toNat : Int) < 65) = true := by rw [HN.out]; simp; try omega
        have f6 : decide ((90 : Int) < ((s[j]).toNat : Int)) = false := by rw [HN.out]; simp; try omega
        have g0 : 48 ≤ (s[j]).toNat := by rw [HN.out]; omega
        have g1 : ¬ (s[j]).toNat ≤ 57 := by rw [HN.out]; omega
        have g2 : ¬ (s[j]).toNat = 95 := by rw [HN.out]; omega
        have g3 : (s[j]).toNat < 97 := by rw [HN.out]; omega
        have g4 : ¬ 122 < (s[j]).toNat := by rw [HN.out]; omega
        have g5 : (s[j]).toNat < 65 := by rw [HN.out]; omega
        have g6 : ¬ 90 < (s[j]).toNat := by rw [HN.out]; omega
        have e3 : letterU s[j] = false := by rw [e1]; simp; omega
        have e4 : digitU s[j] = false := by rw [e2]; simp; try omega
        clear e1 e2 hr HN hn1 hc
        have HB' : Hid (nmB s = false) := HB.out (by rw [e3, e4]; simp; try omega)
        clear e3 e4 HS HB
        go_wp2
        go_ret
        exact ⟨ret_bool HB'.out.symm, rfl⟩
      · have f0 : decide ((48 : Int) ≤ ((s[j]).toNat : Int)) = true := by rw [HN.out]; simp; try omega
        have f1 : decide (((s[j]).toNat : Int) ≤ 57) = false := by rw [HN.out]; simp; try omega
        have f2 : (((s[j]).toNat : Int) == 95) = false := by rw [HN.out]; simp; try omega
        have f3 : decide (((s[j]).toNat : Int) < 97) = true := by rw [HN.out]; simp; try omega
        have f4 : decide ((122 : Int) < ((s[j]).toNat : Int)) = false := by rw [HN.out]; simp; try omega
        have f5 : decide (((s[j]).toNat : Int) < 65) = false := by rw [HN.out]; simp; try omega
        have f6 : decide ((90 : Int) < ((s[j]).toNat : Int)) = false := by rw [HN.out]; simp; try omega
        have g0 : 48 ≤ (s[j]).toNat := by rw [HN.out]; omega
        have g1 : ¬ (s[j]).toNat ≤ 57 := by rw [HN.out]; omega
        have g2 : ¬ (s[j]).toNat = 95 := by rw [HN.out]; omega
        have g3 : (s[j]).toNat < 97 := by rw [HN.out]; omega
        have g4 : ¬ 122 < (s[j]).toNat := by rw [HN.out]; omega
        have g5 : ¬ (s[j]).toNat < 65 := by rw [HN.out]; omega
        have g6 : ¬ 90 < (s[j]).toNat := by rw [HN.out]; omega
        have e3 : letterU s[j] = true := by rw [e1]; simp; omega
        have e4 : digitU s[j] = false := by rw [e2]; simp; try omega
        clear e1 e2 hr HN hn1 hc
        have HS' : Hid (nmTo s (j + 1)) := HS.out (by rw [e3, e4]; simp; try omega)
        clear e3 e4 HS HB
        go_wp2
        go_round
        case rel => exact ⟨j + 1, by omega, by go_num, HS'.out⟩
        case measure => simp [intOf]; omega
      · have f0 : decide ((48 : Int) ≤ ((s[j]).toNat : Int)) = true := by rw [HN.out]; simp; try omega
        have f1 : decide (((s[j]).toNat : Int) ≤ 57) = false := by rw [HN.out]; simp; try omega
        have f2 : (((s[j]).toNat : Int) == 95) = false := by rw [HN.out]; simp; try omega
        have f3 : decide (((s[j]).toNat : Int) < 97) = true := by rw [HN.out]; simp; try omega
        have f4 : decide ((122 : Int) < ((s[j]).toNat : Int)) = false := by rw [HN.out]; simp; try omega
        have f5 : decide (((s[j]).toNat : Int) < 65) = false := by rw [HN.out]; simp; try omega
        have f6 : decide ((90 : Int) < ((s[j]).toNat : Int)) = true := by rw [HN.out]; simp; try omega
        have g0 : 48 ≤ (s[j]).toNat := by rw [HN.out]; omega
        have g1 : ¬ (s[j]).toNat ≤ 57 := by rw [HN.out]; omega
        have g2 : ¬ (s[j]).toNat = 95 := by rw [HN.out]; omega
        have g3 : (s[j]).toNat < 97 := by rw [HN.out]; omega
        have g4 : ¬ 122 < (s[j]).toNat := by rw [HN.out]; omega
        have g5 : ¬ (s[j]).toNat < 65 := by rw [HN.out]; omega
        have g6 : 90 < (s[j]).toNat := by rw [HN.out]; omega
        have e3 : letterU s[j] = false := by rw [e1]; simp; omega
        have e4 : digitU s[j] = false := by rw [e2]; simp; try omega
        clear e1 e2 hr HN hn1 hc
        have HB' : Hid (nmB s = false) := HB.out (by rw [e3, e4]; simp; try omega)
        clear e3 e4 HS HB
        go_wp2
        go_ret
        exact ⟨ret_bool HB'.out.symm, rfl⟩
      · have f0 : decide ((48 : Int) ≤ ((s[j]).toNat : Int)) = true := by rw [HN.out]; simp; try omega
        have f1 : decide (((s[j]).toNat : Int) ≤ 57) = false := by rw [HN.out]; simp; try omega
        have f2 : (((s[j]).toNat : Int) == 95) = true := by rw [HN.out]; simp; try omega
        have f3 : decide (((s[j]).toNat : Int) < 97) = true := by rw [HN.out]; simp; try omega
        have f4 : decide ((122 : Int) < ((s[j]).toNat : Int)) = false := by rw [HN.out]; simp; try omega
        have f5 : decide (((s[j]).toNat : Int) < 65) = false := by rw [HN.out]; simp; try omega
        have f6 : decide ((90 : Int) < ((s[j]).toNat : Int)) = true := by rw [HN.out]; simp; try omega
        have g0 : 48 ≤ (s[j]).toNat := by rw [HN.out]; omega
        have g1 : ¬ (s[j]).toNat ≤ 57 := by rw [HN.out]; omega
        have g2 : (s[j]).toNat = 95 := by rw [HN.out]; omega
        have g3 : (s[j]).toNat < 97 := by rw [HN.out]; omega
        have g4 : ¬ 122 < (s[j]).toNat := by rw [HN.out]; omega
        have g5 : ¬ (s[j]).toNat < 65 := by rw [HN.out]; omega
        have g6 : 90 < (s[j]).toNat := by rw [HN.out]; omega
        have e3 : letterU s[j] = true := by rw [e1, hr]; rfl
        have e4 : digitU s[j] = false := by rw [e2, hr]; rfl
        clear e1 e2 hr HN hn1 hc
        have HS' : Hid (nmTo s (j + 1)) := HS.out (by rw [e3, e4]; simp; try omega)
        clear e3 e4 HS HB
        go_wp2
        go_round
        case rel => exact ⟨j + 1, by omega, by go_num, HS'.out⟩
        case measure => simp [intOf]; omega
      · have f0 : decide ((48 : Int) ≤ ((s[j]).toNat : Int)) = true := by rw [HN.out]; simp; try omega
        have f1 : decide (((s[j]).toNat : Int) ≤ 57) = false := by rw [HN.out]; simp; try omega
        have f2 : (((s[j]).toNat : Int) == 95) = false := by rw [HN.out]; simp; try omega
        have f3 : decide (((s[j]).toNat : Int) < 97) = true := by rw [HN.out]; simp; try omega
        have f4 : decide ((122 : Int) < ((s[j]).toNat : Int)) = false := by rw [HN.out]; simp; try omega
        have f5 : decide (((s[j]).toNat : Int) < 65) = false := by rw [HN.out]; simp; try omega
        have f6 : decide ((90 : Int) < ((s[j]).toNat : Int)) = true := by rw [HN.out]; simp; try omega
        have g0 : 48 ≤ (s[j]).toNat := by rw [HN.out]; omega
        have g1 : ¬ (s[j]).toNat ≤ 57 := by rw [HN.out]; omega
        have g2 : ¬ (s[j]).toNat = 95 := by rw [HN.out]; omega
        have g3 : (s[j]).toNat < 97 := by rw [HN.out]; omega
        have g4 : ¬ 122 < (s[j]).toNat := by rw [HN.out]; omega
        have g5 : ¬ (s[j]).toNat < 65 := by rw [HN.out]; omega
        have g6 : 90 < (s[j]).toNat := by rw [HN.out]; omega
        have e3 : letterU s[j] = false := by rw [e1, hr]; rfl
        have e4 : digitU s[j] = false := by rw [e2, hr]; rfl
        clear e1 e2 hr HN hn1 hc
        have HB' : Hid (nmB s = false) := HB.out (by rw [e3, e4]; simp; try omega)
        clear e3 e4 HS HB
        go_wp2
        go_ret
        exact ⟨ret_bool HB'.out.symm, rfl⟩
      · have f0 : decide ((48 : Int) ≤ ((s[j]).toNat : Int)) = true := by rw [HN.out]; simp; try omega
        have f1 : decide (((s[j]).toNat : Int) ≤ 57) = false := by rw [HN.out]; simp; try omega
        have f2 : (((s[j]).toNat : Int) == 95) = false := by rw [HN.out]; simp; try omega
        have f3 : decide (((s[j]).toNat : Int) < 97) = false := by rw [HN.out]; simp; try omega
        have f4 : decide ((122 : Int) < ((s[j]).toNat : Int)) = false := by rw [HN.out]; simp; try omega
        have f5 : decide (((s[j]).toNat : Int) < 65) = false := by rw [HN.out]; simp; try omega
        have f6 : decide ((90 : Int) < ((s[j]).toNat : Int)) = true := by rw [HN.out]; simp; try omega
        have g0 : 48 ≤ (s[j]).toNat := by rw [HN.out]; omega
        have g1 : ¬ (s[j]).toNat ≤ 57 := by rw [HN.out]; omega
        have g2 : ¬ (s[j]).toNat = 95 := by rw [HN.out]; omega
        have g3 : ¬ (s[j]).toNat < 97 := by rw [HN.out]; omega
        have g4 : ¬ 122 < (s[j]).toNat := by rw [HN.out]; omega
        have g5 : ¬ (s[j]).toNat < 65 := by rw [HN.out]; omega
        have g6 : 90 < (s[j]).toNat := by rw [HN.out]; omega
        have e3 : letterU s[j] = true := by rw [e1]; simp; omega
        have e4 : digitU s[j] = false := by rw [e2]; simp; try omega
        clear e1 e2 hr HN hn1 hc
        have HS' : Hid (nmTo s (j + 1)) := HS.out (by rw [e3, e4]; simp; try omega)
        clear e3 e4 HS HB
        go_wp2
        go_round
        case rel => exact ⟨j + 1, by omega, by go_num, HS'.out⟩
        case measure => simp [intOf]; omega
      · have f0 : decide ((48 : Int) ≤ ((s[j]).toNat : Int)) = true := by rw [HN.out]; simp; try omega
        have f1 : decide (((s[j]).toNat : Int) ≤ 57) = false := by rw [HN.out]; simp; try omega
        have f2 : (((s[j]).toNat : Int) == 95) = false := by rw [HN.out]; simp; try omega
        have f3 : decide (((s[j]).toNat : Int) < 97) = false := by rw [HN.out]; simp; try omega
        have f4 : decide ((122 : Int) < ((s[j]).toNat : Int)) = true := by rw [HN.out]; simp; try omega
        have f5 : decide (((s[j]).toNat : Int) < 65) = false := by rw [HN.out]; simp; try omega
        have f6 : decide ((90 : Int) < ((s[j]).toNat : Int)) = true := by rw [HN.out]; simp; try omega
        have g0 : 48 ≤ (s[j]).toNat := by rw [HN.out]; omega
        have g1 : ¬ (s[j]).toNat ≤ 57 := by rw [HN.out]; omega
        have g2 : ¬ (s[j]).toNat = 95 := by rw [HN.out]; omega
        have g3 : ¬ (s[j]).toNat < 97 := by rw [HN.out]; omega
        have g4 : 122 < (s[j]).toNat := by rw [HN.out]; omega
        have g5 : ¬ (s[j]).toNat < 65 := by rw [HN.out]; omega
        have g6 : 90 < (s[j]).toNat := by rw [HN.out]; omega
        have e3 : letterU s[j] = false := by rw [e1]; simp; omega
        have e4 : digitU s[j] = false := by rw [e2]; simp; try omega
        clear e1 e2 hr HN hn1 hc
        have HB' : Hid (nmB s = false) := HB.out (by rw [e3, e4]; simp; try omega)
        clear e3 e4 HS HB
        go_wp2
        go_ret
        exact ⟨ret_bool HB'.out.symm, rfl⟩
    · have hjI : ¬ (j : Int) < (s.size : Int) := by omega
      obtain rfl : j = s.size := by omega
      by_cases hz : s.size = 0
      · have HB : Hid (nmB s = false) := nmB_zero hz
        go_wp2
        go_ret
        exact ⟨ret_bool (by rw [HB.out] <;> simp [hz]), rfl⟩
      · have HB : Hid (nmB s = true) := nmB_true (by omega) hn
        go_wp2
        go_ret
        exact ⟨ret_bool (by rw [HB.out]; simp <;> omega), rfl⟩
/-! ### below so many -/
theorem dims_zero {s : Nat} (hs : s < 16777216) (h : dimsOf s = []) : s = 0 := by
  apply Nat.eq_of_testBit_eq
  intro i
  rw [Nat.zero_testBit]
  by_cases hi : i < 24
  · rw [Bool.eq_false_iff]
    intro hb
    have : i ∈ dimsOf s := mem_dimsOf.2 ⟨hi, hb⟩
    rw [h] at this; cases this
  · exact Nat.testBit_lt_two_pow (Nat.lt_of_lt_of_le (show s < 2 ^ 24 from hs) (Nat.pow_le_pow_right (by omega) (by omega)))
theorem pair_last {l : List Nat} (hp : l.Pairwise (· < ·)) {x : Nat} (hx : l[l.length - 1]? = some x) {k : Nat} (hk : k ∈ l) : k ≤ x := by
  obtain ⟨i, hi⟩ := List.mem_iff_getElem?.1 hk
  have h1 := some_lt hi
  rcases Nat.lt_or_ge i (l.length - 1) with h | h
  · have h2 := some_lt hx
    have e1 := (List.getElem?_eq_some_iff.1 hi).2
    have e2 := (List.getElem?_eq_some_iff.1 hx).2
    have := List.pairwise_iff_getElem.1 hp i (l.length - 1) h1 h2 h
    omega
  · obtain rfl : i = l.length - 1 := by omega
    rw [hi] at hx; cases hx; exact Nat.le_refl _
theorem low_last {s D x : Nat} (hs : s < 16777216) (h : (dimsOf s)[(dimsOf s).length - 1]? = some x) : decide ((x : Int) < (D : Int)) = decide (s / 2 ^ D = 0) := by
  rw [decide_eq_decide]
  have hx := mem_dimsOf.1 (List.mem_of_getElem? h)
  rw [Nat.div_eq_zero_iff_lt (Nat.pow_pos (by omega))]
  constructor
  · intro hxD
    refine Nat.lt_pow_two_of_testBit _ fun i hi => ?_
    rw [Bool.eq_false_iff]
    intro hb
    by_cases h24 : i < 24
    · have := pair_last (dimsOf_sorted s) h (mem_dimsOf.2 ⟨h24, hb⟩); omega
    · rw [Nat.testBit_lt_two_pow (Nat.lt_of_lt_of_le (show s < 2 ^ 24 from hs) (Nat.pow_le_pow_right (by omega) (by omega)))] at hb; cases hb
  · intro hlt
    have h9 : x < D := by
      rcases Nat.lt_or_ge x D with h | h
      · exact h
      · rw [Nat.testBit_lt_two_pow (Nat.lt_of_lt_of_le hlt (Nat.pow_le_pow_right (by omega) h))] at hx; cases hx.2
    omega
set_option maxRecDepth 100000 in
set_option maxHeartbeats 4000000 in
theorem rlow_any (l : List C) (v : Value) (D : Nat) (w : World) (hv : CRow w v l) (hl : l.length ≤ 40000) :
    Calls Tryz.prog 149 #[v, .int .i64 (D : Int)] w fun e w' => e = .returned (.bool (decide (dimsN l / 2 ^ D = 0))) ∧ Below w.heap.size w w' := by
  have c1 := rDims_any l v w hv hl
  have hsl := dimsN_lt l
  obtain ⟨s, hs⟩ : ∃ s, s = dimsN l := ⟨_, rfl⟩
  rw [← hs] at c1 hsl ⊢
  clear hs
  obtain ⟨pa, ca, rfl⟩ := hv.len
  clear hv
  go_enter Tryz.func149, Tryz.ntmps149
  go_wp2_with fail
  refine c1.mono ?_
  rintro e w2 ⟨rfl, b2⟩
  clear c1
  have c2 := refList_any s w2 (by omega)
  go_wp2_with fail
  refine c2.mono ?_
  rintro e w3 ⟨v3, rfl, hO, b3⟩
  clear c2
  have hal := bchain b2 b3
  rcases hO.rowAt with ⟨rfl, hnil⟩ | ⟨g, cap, rfl, hg, hc⟩
  · have HZ : Hid (s / 2 ^ D = 0) := (by rw [dims_zero hsl hnil]; exact Nat.zero_div _ : s / 2 ^ D = 0)
    clear hO hnil
    go_wp2_with fail
    go_ret
    exact ⟨ret_bool (by rw [HZ.out]; rfl), hal⟩
  · obtain ⟨n, hn⟩ : ∃ n, n = (dimsOf s).length := ⟨_, rfl⟩
    have hnb : n ≤ 24 := by rw [hn]; exact dimsOf_length_le s
    by_cases h0 : n = 0
    · have HZ : Hid (s / 2 ^ D = 0) := (by rw [dims_zero hsl (List.eq_nil_of_length_eq_zero (by omega))]; exact Nat.zero_div _ : s / 2 ^ D = 0)
      rw [← hn]
      clear hO hc
      subst h0
      clear hn
      go_wp2_with fail
      go_ret
      exact ⟨ret_bool (by rw [HZ.out]; rfl), hal⟩
    · obtain ⟨x, hx⟩ := someL (l := dimsOf s) (k := n - 1) (by omega)
      have hcx := hc (n - 1) (by omega)
      rw [hx] at hcx
      simp only [Option.getD_some] at hcx
      have HD : Hid (decide ((x : Int) < (D : Int)) = decide (s / 2 ^ D = 0)) := low_last hsl (by rw [← hn]; exact hx)
      have hx24 := (mem_dimsOf.1 (List.mem_of_getElem? hx)).1
      rw [← hn]
      obtain ⟨q, rfl⟩ : ∃ q, n = q + 1 := ⟨n - 1, by omega⟩
      simp only [Nat.add_sub_cancel] at hcx
      clear hO hc hn hx h0
      go_wp2_with fail
      go_ret
      exact ⟨ret_bool (by rw [show ((q : Int) + 1 == 0) = false by simp; omega, Bool.false_or, ← HD.out, decide_eq_decide]; omega), hal⟩
end Go.Proofs.YtpmmbfngogpinaaGreat
