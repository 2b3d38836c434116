/- What the small functions of show tell: letters, digits, names, trees without a name. -/
import Derived.Test.YtahnbigkdfmpbaaDoorSBase
namespace Go.Proofs.YtahnbigkdfmpbaaDoor
open Go.RowKit
set_option linter.unusedVariables false
set_option linter.unusedSimpArgs false

set_option maxHeartbeats 400000 in
theorem sLetter_any (c : UInt8) (w : World) : Calls Tryd.prog 74 #[.int .u8 (c.toNat : Int)] w fun e w' => e = .returned (.bool (letterB c)) ∧ w' = w := by
  have hb : letterB c = decide ((97 ≤ c.toNat ∧ c.toNat ≤ 122) ∨ (65 ≤ c.toNat ∧ c.toNat ≤ 90) ∨ c.toNat = 95) := rfl
  have H : Hid (_ = _) := hb
  clear hb
  generalize letterB c = r at *
  generalize c.toNat = x at *
  go_enter Tryd.func74, Tryd.ntmps74
  go_wp2
  all_goals
    go_ret
    exact ⟨ret_bool (by rw [H.out, Bool.eq_iff_iff]; simp; omega), rfl⟩
theorem sDigit_any (s : Bs) (w : World) : Calls Tryd.prog 56 #[.string (bs s)] w fun e w' => e = .returned (.bool (digB s)) ∧ w' = w := by
  have h1 : ((bs s).toList == [48]) = decide (s = [48]) := bs_beqS s _
  have h2 : ((bs s).toList == [49]) = decide (s = [49]) := bs_beqS s _
  have H : Hid (digB s = (decide (s = [48]) || decide (s = [49]))) := rfl
  generalize digB s = r at *
  by_cases e1 : s = [48]
  · rw [decide_eq_true e1] at h1 H
    generalize bs s = X at *
    go_enter Tryd.func56, Tryd.ntmps56
    go_wp2
    go_ret
    exact ⟨ret_bool H.out.symm, rfl⟩
  · rw [decide_eq_false e1] at h1 H
    generalize decide (s = [49]) = q at *
    generalize bs s = X at *
    clear e1
    go_enter Tryd.func56, Tryd.ntmps56
    go_wp2
    go_ret
    exact ⟨ret_bool H.out.symm, rfl⟩
/-- Is a byte at a place one that a name may have there? -/
def charB (k : Nat) (c : UInt8) : Bool := letterB c || (decide (k ≠ 0) && digitB c)
def restB (k : Nat) (l : Bs) : Bool := match l with | [] => true | c :: t => charB k c && t.all (fun c => letterB c || digitB c)
theorem restB_all {k : Nat} (hk : k ≠ 0) (l : Bs) : restB k l = l.all (fun c => letterB c || digitB c) := by
  cases l with
  | nil => rfl
  | cons c t => simp [restB, charB, hk]
theorem restB_step {s : ByteArray} {k : Nat} (h : k < s.size) : restB k ((tl s).drop k) = (charB k s[k] && restB (k + 1) ((tl s).drop (k + 1))) := by
  rw [tl_drop s k h, restB_all (k := k + 1) (by omega)]; rfl
theorem nameB_rest (s : Bs) : nameB s = (decide (s ≠ []) && restB 0 s) := by
  cases s with
  | nil => rfl
  | cons c t => simp [nameB, restB, charB]
theorem tl_nil (s : ByteArray) : (!s.toList.isEmpty) = decide (tl s ≠ []) := by
  rw [Lib.toList_data, tl_def]
  cases tl s <;> rfl
theorem bs_nil (s : Bs) : (bs s).toList.isEmpty = decide (s = []) := by
  rw [Lib.toList_data, tl_def, tl_bs]
  cases s <;> rfl
set_option maxRecDepth 100000 in
set_option maxHeartbeats 2000000 in
theorem sNameA_any (s : ByteArray) (w : World) (hs : s.size ≤ 1000000) : Calls Tryd.prog 55 #[.string s] w fun e w' => e = .returned (.bool (nameB (tl s))) ∧ w' = w := by
  have h1 := tl_nil s
  obtain ⟨r, hr⟩ : ∃ r, nameB (tl s) = r := ⟨_, rfl⟩
  rw [hr]
  have H0 : Hid ((decide (tl s ≠ []) && restB 0 ((tl s).drop 0)) = r) := by rw [← hr]; exact (nameB_rest _).symm
  have hpos : Hid (0 < s.size → decide (tl s ≠ []) = true) := fun h => by
    apply decide_eq_true
    intro e
    have := tl_len s
    rw [e] at this
    simp at this
    omega
  have hzero : Hid (0 = s.size → decide (tl s ≠ []) = false) := fun h => by
    apply decide_eq_false
    have := tl_len s
    have e : tl s = [] := List.length_eq_zero_iff.1 (by omega)
    simp [e]
  generalize decide (tl s ≠ []) = q at *
  clear hr
  go_enter Tryd.func55, Tryd.ntmps55
  go_wp2
  go_loop [6] (fun i => ∃ k : Nat, k ≤ s.size ∧ i = .int .i64 k ∧ Hid ((q && restB k ((tl s).drop k)) = r)) (fun i => s.size - (intOf i).toNat)
  case atStart => exact ⟨0, Nat.zero_le _, rfl, H0⟩
  case round =>
    obtain ⟨k, hk, rfl, HK⟩ := hrel
    by_cases hlt : k < s.size
    · obtain rfl : q = true := hpos.out (by omega)
      have hst := restB_step hlt
      obtain ⟨lb, hlb⟩ : ∃ r, letterB s[k] = r := ⟨_, rfl⟩
      have c1 := fun w => sLetter_any s[k] w
      simp only [hlb] at c1
      have HS : Hid ((lb = true ∨ (k ≠ 0 ∧ ¬ s[k].toNat < 48 ∧ ¬ 57 < s[k].toNat)) → (true && restB (k + 1) ((tl s).drop (k + 1))) = r) := fun h => by
        have h2 := HK.out
        rw [hst] at h2
        have : charB k s[k] = true := by
          unfold charB
          rw [hlb]
          rcases h with h | ⟨h3, h4, h5⟩
          · rw [h]; rfl
          · have : digitB s[k] = true := by unfold digitB; exact decide_eq_true (by omega)
            simp [h3, this]
        rw [this] at h2
        exact h2
      have HE : Hid ((lb = false ∧ (k = 0 ∨ s[k].toNat < 48 ∨ 57 < s[k].toNat)) → false = r) := fun h => by
        have h2 := HK.out
        rw [hst] at h2
        have : charB k s[k] = false := by
          unfold charB
          rw [hlb, h.1]
          rcases h.2 with h3 | h3
          · simp [h3]
          · have : digitB s[k] = false := by unfold digitB; exact decide_eq_false (by omega)
            simp [this]
        rw [this] at h2
        exact h2
      clear HK hst hlb H0 hpos hzero
      generalize hx : s[k].toNat = x at HS HE
      have Hx : Hid (_ = _) := hx
      cases lb
      · by_cases hk0 : k = 0
        · subst hk0
          clear hx
          go_wp2_with (go_at_call 74; refine (c1 _).mono ?_; rintro e w' ⟨rfl, hw⟩; rw [hw])
          go_ret
          exact ⟨ret_bool (HE.out (by simp)), rfl⟩
        · have hk1 : ((k : Int) == 0) = false := by simp; omega
          by_cases h48 : x < 48
          · have h48' : decide ((s[k].toNat : Int) < 48) = true := decide_eq_true (by omega)
            clear hx
            go_wp2_with (go_at_call 74; refine (c1 _).mono ?_; rintro e w' ⟨rfl, hw⟩; rw [hw])
            go_ret
            exact ⟨ret_bool (HE.out (by simp [h48])), rfl⟩
          · have h48' : decide ((s[k].toNat : Int) < 48) = false := decide_eq_false (by omega)
            by_cases h57 : 57 < x
            · have h57' : decide ((57 : Int) < (s[k].toNat : Int)) = true := decide_eq_true (by omega)
              clear hx
              go_wp2_with (go_at_call 74; refine (c1 _).mono ?_; rintro e w' ⟨rfl, hw⟩; rw [hw])
              go_ret
              exact ⟨ret_bool (HE.out (by simp [h57])), rfl⟩
            · have h57' : decide ((57 : Int) < (s[k].toNat : Int)) = false := decide_eq_false (by omega)
              clear hx
              go_wp2_with (go_at_call 74; refine (c1 _).mono ?_; rintro e w' ⟨rfl, hw⟩; rw [hw])
              go_round
              case rel => exact ⟨k + 1, by omega, by go_num, HS.out (.inr ⟨hk0, h48, h57⟩)⟩
              case measure => simp [intOf]; omega
      · clear hx
        go_wp2_with (go_at_call 74; refine (c1 _).mono ?_; rintro e w' ⟨rfl, hw⟩; rw [hw])
        go_round
        case rel => exact ⟨k + 1, by omega, by go_num, HS.out (by simp)⟩
        case measure => simp [intOf]; omega
    · have hR : Hid (q = r) := by
        have h2 := HK.out
        have : (tl s).drop k = [] := List.drop_of_length_le (by rw [tl_len]; omega)
        rw [this] at h2
        simp [restB] at h2
        exact h2
      have h3 : Hid (_ = _) := h1
      clear HK h1
      go_wp2
      go_ret
      exact ⟨ret_bool (h3.out.trans hR.out), rfl⟩
theorem sName_any (s : Bs) (w : World) (hs : s.length ≤ 1000000) : Calls Tryd.prog 55 #[.string (bs s)] w fun e w' => e = .returned (.bool (nameB s)) ∧ w' = w := by
  have h := sNameA_any (bs s) w (by rw [bs_size]; exact hs)
  rw [tl_bs] at h
  exact h
end Go.Proofs.YtahnbigkdfmpbaaDoor
