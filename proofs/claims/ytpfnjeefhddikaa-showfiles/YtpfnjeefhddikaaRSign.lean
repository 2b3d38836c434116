/- How long the sign is with which a text begins: sign of the document's answer for the layer lex. -/
import Derived.Deep.QuietTactic
import Derived.BigQuiet
import Derived.WalkSmall
import Derived.Test.YtpfnjeefhddikaaLScan
namespace Go.Proofs.Ytpfnjeefhddikaa
open Go.RowKit
set_option linter.unusedVariables false
set_option linter.unusedSimpArgs false

def ones17 : List Nat := [40, 41, 91, 93, 44, 46, 58, 59, 61, 92, 60, 62, 64, 126, 42, 48, 49]
theorem one_eq (c : UInt8) : oneB c = ones17.any (fun x => decide (x = c.toNat)) := by
  rw [Bool.eq_iff_iff]
  simp only [oneB, ones17, decide_eq_true_eq, List.mem_cons, List.mem_nil_iff, or_false, List.any_cons, List.any_nil, Bool.or_eq_true, Bool.or_false]
  omega
theorem two_eq (c d : UInt8) (t : Bs) : twoB c (d :: t) = (([c, d] == [45, 62]) || ([c, d] == [47, 92]) || ([c, d] == [92, 47])) := by
  have e : ∀ x y : UInt8, ([c, d] == [x, y]) = decide (c.toNat = x.toNat ∧ d.toNat = y.toNat) := fun x y => by
    rw [Bool.eq_iff_iff]
    simp only [beq_iff_eq, List.cons.injEq, and_true, decide_eq_true_eq, ← UInt8.toNat_inj]
  rw [e, e, e, twoB, Bool.eq_iff_iff]
  simp only [decide_eq_true_eq, Bool.or_eq_true, UInt8.reduceToNat]
  omega
theorem idx_one (k x : Nat) (h : ones17[k]? = some x) : ∀ w : World, (Instr.index 9 (.string ⟨#[40, 41, 91, 93, 44, 46, 58, 59, 61, 92, 60, 62, 64, 126, 42, 48, 49]⟩) (.int .i64 (k : Int))).run Try.prog w = .ok (.int .u8 (x : Int)) w := by
  have hk : k < 17 := by
    rcases Nat.lt_or_ge k 17 with h1 | h1
    · exact h1
    · rw [List.getElem?_eq_none (by simpa [ones17] using h1)] at h; cases h
  rcases (show k = 0 ∨ k = 1 ∨ k = 2 ∨ k = 3 ∨ k = 4 ∨ k = 5 ∨ k = 6 ∨ k = 7 ∨ k = 8 ∨ k = 9 ∨ k = 10 ∨ k = 11 ∨ k = 12 ∨ k = 13 ∨ k = 14 ∨ k = 15 ∨ k = 16 by omega) with rfl | rfl | rfl | rfl | rfl | rfl | rfl | rfl | rfl | rfl | rfl | rfl | rfl | rfl | rfl | rfl | rfl
  all_goals
    simp only [ones17, List.getElem?_cons_zero, List.getElem?_cons_succ, Option.some.injEq] at h
    subst h
    intro w
    kernel_rfl
theorem idx_str (s : ByteArray) (p : Nat) (h : p < s.size) : ∀ w : World, (Instr.index 9 (.string s) (.int .i64 (p : Int))).run Try.prog w = .ok (.int .u8 (s[p].toNat : Int)) w := fun w => by
  rw [run_index_string w 9 s .i64 _ Try.underlying9]
  simp [h]
theorem signN_no {s : ByteArray} {p : Nat} (h : p < s.size) (h2 : twoB s[p] ((tl s).drop (p + 1)) = false) : signN ((tl s).drop p) = if oneB s[p] then 1 else 0 := by
  rw [tl_drop s p h, signN, if_neg (by simp [h2])]
theorem signN_two {s : ByteArray} {p : Nat} (h : p < s.size) (h2 : twoB s[p] ((tl s).drop (p + 1)) = true) : signN ((tl s).drop p) = 2 := by
  rw [tl_drop s p h, signN, if_pos h2]
set_option maxRecDepth 100000 in
set_option maxHeartbeats 2000000 in
theorem rsign_any (s : ByteArray) (p : Nat) (w : World) (hp : p < s.size) (hs : s.size ≤ 65536) :
    Calls Try.prog 61 #[.string s, .int .i64 p] w fun e w' => e = .returned (.int .i64 (signN ((tl s).drop p) : Nat)) ∧ Below w.heap.size w w' := by
  have hix := idx_str s p hp
  obtain ⟨c, hc⟩ : ∃ c, s[p] = c := ⟨_, rfl⟩
  rw [hc] at hix
  by_cases hz : p + 1 < s.size
  · obtain ⟨d, hd⟩ : ∃ d, s[p + 1] = d := ⟨_, rfl⟩
    obtain ⟨Y, hY⟩ : ∃ Y, s.extract p (p + 2) = Y := ⟨_, rfl⟩
    have sl : ∀ w, (Instr.slice 9 (.string s) (some (.int .i64 (p : Int))) (some (.int .i64 ((p : Int) + 2))) none).run Try.prog w = .ok (.string Y) w := fun w => by
      rw [run_slice_string w 9 s .i64 .i64 _ _ Try.underlying9 (by omega) (by omega) (by omega)]
      have : ((p : Int) + 2).toNat = p + 2 := by omega
      rw [this, Int.toNat_natCast, hY]
    have hYl : Y.toList = [c, d] := by
      rw [Lib.toList_data, tl_def, ← hY, tl_extract, ← List.take_drop, tl_drop s p hp, tl_drop s (p + 1) hz, hc, hd]
      rfl
    have htw : twoB s[p] ((tl s).drop (p + 1)) = (([c, d] == [45, 62]) || ([c, d] == [47, 92]) || ([c, d] == [92, 47])) := by
      rw [tl_drop s (p + 1) hz, two_eq, hc, hd]
    have h2s := signN_two (s := s) hp
    have h2n := signN_no (s := s) hp
    rw [htw, hc] at h2n
    rw [htw] at h2s
    rw [← hYl] at h2s h2n
    clear htw hYl hY hc hd
    obtain ⟨B1, b1⟩ : ∃ B, (Y.toList == [45, 62]) = B := ⟨_, rfl⟩
    obtain ⟨B2, b2⟩ : ∃ B, (Y.toList == [47, 92]) = B := ⟨_, rfl⟩
    obtain ⟨B3, b3⟩ : ∃ B, (Y.toList == [92, 47]) = B := ⟨_, rfl⟩
    rw [b1, b2, b3] at h2s h2n
    have HT : Hid (_ → _) := h2s
    have HF : Hid (_ → _) := h2n
    clear h2s h2n
    cases B1
    · cases B2
      · cases B3
        · have HS : Hid (_ = _) := HF.out rfl
          clear HT HF
          go_wp2
          go_loopw [7] (fun i wr => ∃ (k : Nat), k ≤ 17 ∧ i = .int .i64 k ∧ Hid ((ones17.take k).any (fun x => decide (x = c.toNat)) = false) ∧ Below w.heap.size w wr) (fun i _ => 17 - (intOf i).toNat)
          case atStart => exact ⟨0, by omega, rfl, rfl, Below.refl _ _⟩
          case round =>
            obtain ⟨k, hk, rfl, HK, hB⟩ := hrel
            by_cases hlt : k < 17
            · obtain ⟨x, hx⟩ : ∃ x, ones17[k]? = some x := ⟨ones17[k]'hlt, List.getElem?_eq_getElem hlt⟩
              have hi1 := idx_one k x hx
              have hkI : (k : Int) < 17 := by omega
              by_cases he : x = c.toNat
              · have HO : Hid (oneB c = true) := by
                  show _ = _
                  rw [one_eq, List.any_eq_true]
                  exact ⟨x, List.mem_of_getElem? hx, by simp [he]⟩
                have hb : ((c.toNat : Int) == (x : Int)) = true := by simp only [beq_iff_eq]; omega
                clear hx he HK
                go_wp2
                go_quiet (fail)
                go_wp2
                go_ret
                exact ⟨ret_int (by rw [HS.out, HO.out]; rfl), below_drewN hB _⟩
              · have HN : Hid ((ones17.take (k + 1)).any (fun x => decide (x = c.toNat)) = false) := by
                  show _ = _
                  rw [List.take_add_one, hx, List.any_append, HK.out]
                  simp [he]
                have hb : ((c.toNat : Int) == (x : Int)) = false := by simp only [beq_eq_false_iff_ne]; omega
                clear hx he HK
                go_wp2
                go_quiet (fail)
                go_wp2
                go_roundw
                case rel => exact ⟨k + 1, by omega, by go_num, HN, below_drewN hB _⟩
                case measure => simp [intOf]; omega
            · obtain rfl : k = 17 := by omega
              have HO : Hid (oneB c = false) := by
                show _ = _
                rw [one_eq]
                exact HK.out
              go_wp2
              go_ret
              exact ⟨ret_int (by rw [HS.out, HO.out]; rfl), hB⟩
        · have HS : Hid (_ = _) := HT.out rfl
          clear HT HF
          go_wp2
          go_ret
          exact ⟨ret_int (by rw [HS.out]; rfl), Below.refl _ _⟩
      · have HS : Hid (_ = _) := HT.out rfl
        clear HT HF
        go_wp2
        go_ret
        exact ⟨ret_int (by rw [HS.out]; rfl), Below.refl _ _⟩
    · have HS : Hid (_ = _) := HT.out rfl
      clear HT HF
      go_wp2
      go_ret
      exact ⟨ret_int (by rw [HS.out]; rfl), Below.refl _ _⟩
  · have HS : Hid (_ = _) := signN_no (s := s) hp (by rw [List.drop_of_length_le (by rw [tl_len]; omega)]; rfl)
    rw [hc] at HS
    clear hc
    go_wp2
    go_loopw [7] (fun i wr => ∃ (k : Nat), k ≤ 17 ∧ i = .int .i64 k ∧ Hid ((ones17.take k).any (fun x => decide (x = c.toNat)) = false) ∧ Below w.heap.size w wr) (fun i _ => 17 - (intOf i).toNat)
    case atStart => exact ⟨0, by omega, rfl, rfl, Below.refl _ _⟩
    case round =>
      obtain ⟨k, hk, rfl, HK, hB⟩ := hrel
      by_cases hlt : k < 17
      · obtain ⟨x, hx⟩ : ∃ x, ones17[k]? = some x := ⟨ones17[k]'hlt, List.getElem?_eq_getElem hlt⟩
        have hi1 := idx_one k x hx
        have hkI : (k : Int) < 17 := by omega
        by_cases he : x = c.toNat
        · have HO : Hid (oneB c = true) := by
            show _ = _
            rw [one_eq, List.any_eq_true]
            exact ⟨x, List.mem_of_getElem? hx, by simp [he]⟩
          have hb : ((c.toNat : Int) == (x : Int)) = true := by simp only [beq_iff_eq]; omega
          clear hx he HK
          go_wp2
          go_quiet (fail)
          go_wp2
          go_ret
          exact ⟨ret_int (by rw [HS.out, HO.out]; rfl), below_drewN hB _⟩
        · have HN : Hid ((ones17.take (k + 1)).any (fun x => decide (x = c.toNat)) = false) := by
            show _ = _
            rw [List.take_add_one, hx, List.any_append, HK.out]
            simp [he]
          have hb : ((c.toNat : Int) == (x : Int)) = false := by simp only [beq_eq_false_iff_ne]; omega
          clear hx he HK
          go_wp2
          go_quiet (fail)
          go_wp2
          go_roundw
          case rel => exact ⟨k + 1, by omega, by go_num, HN, below_drewN hB _⟩
          case measure => simp [intOf]; omega
      · obtain rfl : k = 17 := by omega
        have HO : Hid (oneB c = false) := by
          show _ = _
          rw [one_eq]
          exact HK.out
        go_wp2
        go_ret
        exact ⟨ret_int (by rw [HS.out, HO.out]; rfl), hB⟩
end Go.Proofs.Ytpfnjeefhddikaa
