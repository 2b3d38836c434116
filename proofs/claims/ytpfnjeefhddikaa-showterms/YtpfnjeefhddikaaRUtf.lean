/- The document's way to tell whole scalar values: Utf of the document's answer for the layer lex. -/
import Derived.Deep.QuietTactic
import Derived.BigQuiet
import Derived.WalkSmall
import Derived.Test.YtpfnjeefhddikaaLScan
namespace Go.Proofs.Ytpfnjeefhddikaa
open Go.RowKit
set_option linter.unusedVariables false
set_option linter.unusedSimpArgs false

def byB (s : ByteArray) (i : Nat) : Nat := ((tl s).getD i 0).toNat
theorem byB_eq (s : ByteArray) (i : Nat) (h : i < s.size) : s[i].toNat = byB s i := by
  rw [byB, List.getD_eq_getElem?_getD, tl_get s i h]; rfl
theorem step_at (s : ByteArray) (k : Nat) (h : k ≤ s.size) : stepN ((tl s).drop k) = stepM (s.size - k) (byB s k) (byB s (k + 1)) (byB s (k + 2)) (byB s (k + 3)) := by
  rw [stepN, List.length_drop, tl_len]
  have e : ∀ i, ((tl s).drop k).getD i 0 = (tl s).getD (k + i) 0 := fun i => by simp [List.getD]
  rw [e, e, e, e]
  rfl
theorem byB_lt (s : ByteArray) (i : Nat) : byB s i < 256 := UInt8.toNat_lt _
theorem u_none (n b0 b1 b2 b3 : Nat) (h1 : ¬ b0 < 128) (h2 : ¬ (194 ≤ b0 ∧ b0 ≤ 223)) (h3 : ¬ (224 ≤ b0 ∧ b0 ≤ 239)) (h4 : ¬ (240 ≤ b0 ∧ b0 ≤ 244)) (l1 : b0 < 256) (l2 : b1 < 256) (l3 : b2 < 256) (l4 : b3 < 256) : stepM n b0 b1 b2 b3 = 0 := by
  rw [stepM_form, if_neg h1]
  repeat' split
  all_goals omega
theorem u_one (n b0 b1 b2 b3 : Nat) (h1 : b0 < 128) : stepM n b0 b1 b2 b3 = 1 := by rw [stepM_form, if_pos h1]
theorem u_two (n b0 b1 b2 b3 : Nat) (h : 194 ≤ b0 ∧ b0 ≤ 223) (l2 : b1 < 256) : stepM n b0 b1 b2 b3 = if 1 < n ∧ 128 ≤ b1 ∧ b1 ≤ 191 then 2 else 0 := by
  rw [stepM_form]
  repeat' split
  all_goals omega
theorem u_three (n b0 b1 b2 b3 : Nat) (h : 224 ≤ b0 ∧ b0 ≤ 239) (l2 : b1 < 256) (l3 : b2 < 256) : stepM n b0 b1 b2 b3 = if 2 < n ∧ (128 ≤ b1 ∧ b1 ≤ 191) ∧ (128 ≤ b2 ∧ b2 ≤ 191) ∧ 2048 ≤ (b0 % 16 * 64 + (b1 - 128)) * 64 + (b2 - 128) ∧ ¬ (55296 ≤ (b0 % 16 * 64 + (b1 - 128)) * 64 + (b2 - 128) ∧ (b0 % 16 * 64 + (b1 - 128)) * 64 + (b2 - 128) ≤ 57343) then 3 else 0 := by
  rw [stepM_form]
  repeat' split
  all_goals omega
theorem u_four (n b0 b1 b2 b3 : Nat) (h : 240 ≤ b0 ∧ b0 ≤ 244) (l2 : b1 < 256) (l3 : b2 < 256) (l4 : b3 < 256) : stepM n b0 b1 b2 b3 = if 3 < n ∧ (128 ≤ b1 ∧ b1 ≤ 191) ∧ (128 ≤ b2 ∧ b2 ≤ 191) ∧ (128 ≤ b3 ∧ b3 ≤ 191) ∧ 65536 ≤ ((b0 % 8 * 64 + (b1 - 128)) * 64 + (b2 - 128)) * 64 + (b3 - 128) ∧ ((b0 % 8 * 64 + (b1 - 128)) * 64 + (b2 - 128)) * 64 + (b3 - 128) ≤ 1114111 then 4 else 0 := by
  rw [stepM_form]
  repeat' split
  all_goals omega
/-- What Utf tells of where a text is whole. -/
def utfA (q n : Nat) : Int := if q < n then (q : Int) else -1
theorem utf_next {s : ByteArray} {k f m q : Nat} (hlt : k < s.size) (hm : stepN ((tl s).drop k) = m) (h : k + utfP (f + 1) ((tl s).drop k) = q) : (m = 0 → k = q) ∧ (m ≠ 0 → k + m + utfP f ((tl s).drop (k + m)) = q) := by
  rw [tl_drop s k hlt] at h
  simp only [utfP] at h
  rw [← tl_drop s k hlt, hm] at h
  refine ⟨fun h0 => by simpa [h0] using h, fun h0 => ?_⟩
  rw [if_neg h0, List.drop_drop] at h
  omega

set_option maxRecDepth 100000 in
set_option maxHeartbeats 4000000 in
theorem rutf_any (s : ByteArray) (w : World) (hs : s.size ≤ 65536) :
    Calls Try.prog 57 #[.string s] w fun e w' => e = .returned (.int .i64 (utfA (utfP (s.size + 1) (tl s)) s.size)) ∧ Below w.heap.size w w' := by
  obtain ⟨q, hq⟩ : ∃ q, utfP (s.size + 1) (tl s) = q := ⟨_, rfl⟩
  have HQ : Hid (_ = _) := hq
  rw [hq]
  clear hq
  go_enter Try.func57, Try.ntmps57
  go_wp2
  go_loopw [3] (fun i wr => ∃ k f : Nat, k ≤ s.size ∧ i = .int .i64 k ∧ Hid (s.size < k + f ∧ k + utfP f ((tl s).drop k) = q) ∧ Below w.heap.size w wr) (fun i _ => s.size - (intOf i).toNat)
  case atStart => exact ⟨0, s.size + 1, Nat.zero_le _, rfl, ⟨by omega, by rw [Nat.zero_add]; exact HQ⟩, Below.refl _ _⟩
  case round =>
    obtain ⟨k, f, hk, rfl, HK, hB⟩ := hrel
    obtain ⟨w4, hren⟩ : ∃ w0, w0 = wr := ⟨_, rfl⟩
    subst hren
    by_cases hlt : k < s.size
    · obtain ⟨f, rfl⟩ : ∃ g, f = g + 1 := ⟨f - 1, by have h1 := HK.out.1; omega⟩
      have HF : Hid (s.size < k + (f + 1)) := HK.out.1
      have hst := step_at s k hk
      have hnx := fun m hm => utf_next (m := m) hlt hm HK.out.2
      rw [hst] at hnx
      have l0 := byB_lt s k
      have l1 := byB_lt s (k + 1)
      have l2 := byB_lt s (k + 2)
      have l3 := byB_lt s (k + 3)
      have e0 := byB_eq s k hlt
      have hmo := fun w => more_any s[k] w
      rw [e0] at hmo
      clear HK hst
      have hbk : byB s k < 128 ∨ (194 ≤ byB s k ∧ byB s k ≤ 223) ∨ (224 ≤ byB s k ∧ byB s k ≤ 239) ∨ (240 ≤ byB s k ∧ byB s k ≤ 244) ∨ (¬ byB s k < 128 ∧ ¬ (194 ≤ byB s k ∧ byB s k ≤ 223) ∧ ¬ (224 ≤ byB s k ∧ byB s k ≤ 239) ∧ ¬ (240 ≤ byB s k ∧ byB s k ≤ 244)) := by omega
      rcases hbk with h | h | h | h | ⟨h1, h2, h3, h4⟩
      · rw [show moreF (byB s k) = (0, 0) by rw [moreF, if_pos h]] at hmo
        have HN : Hid (_ = _) := (hnx 1 (u_one _ _ _ _ _ h)).2 (by omega)
        obtain ⟨R0, hR0⟩ : ∃ R0, R0 = byB s k % 128 := ⟨_, rfl⟩
        have b0 : R0 ≤ 128 := by omega
        have HR0 : Hid (_ = _) := hR0
        clear hnx hR0
        go_wp2_with (go_at_call 65; refine (hmo _).mono ?_; rintro e w' ⟨rfl, hw⟩; rw [hw])
        go_quiet (fail)
        go_wp2
        go_loop [7, 8] (fun r i => (i = .int .i64 1 ∧ r = .int .i64 (R0 : Nat))) (fun _ i => 2 - (intOf i).toNat)
        case atStart => exact ⟨rfl, congrArg (Value.int .i64) (by have := HR0.out; omega)⟩
        case round =>
          obtain ⟨rfl, rfl⟩ := hrel
          have d1 : decide ((R0 : Int) < 0) = false := by simp only [decide_eq_false_iff_not]; omega
          have d2 : decide ((1114111 : Int) < (R0 : Int)) = false := by simp only [decide_eq_false_iff_not]; omega
          have d3 : decide ((55296 : Int) ≤ (R0 : Int)) = false := by simp only [decide_eq_false_iff_not]; omega
          go_wp2
          go_roundw
          case rel => exact ⟨k + 1, f, by omega, by go_num, ⟨by have := HF.out; omega, HN⟩, below_drewN (chain hB (below_alloc _ _)) _⟩
          case measure => simp [intOf]; omega
      · rw [show moreF (byB s k) = (1, 128) by rw [moreF, if_neg (by omega), if_pos h]] at hmo
        rw [u_two _ _ _ _ _ h l1] at hnx
        by_cases hL0 : s.size ≤ k + 1
        · have HE : Hid (k = q) := (hnx 0 (by rw [if_neg (by omega)])).1 rfl
          have hL2 : (s.size : Int) ≤ (k : Int) + 1 := by omega
          clear hnx
          go_wp2_with (go_at_call 65; refine (hmo _).mono ?_; rintro e w' ⟨rfl, hw⟩; rw [hw])
          go_ret
          exact ⟨ret_int (by rw [← HE.out, utfA, if_pos hlt]), hB⟩
        have hL : k + 1 < s.size := by omega
        clear hL0
        obtain ⟨R0, hR0⟩ : ∃ R0, R0 = byB s k % 32 := ⟨_, rfl⟩
        obtain ⟨R1, hR1⟩ : ∃ R1, R1 = R0 * 64 + (byB s (k + 1) - 128) := ⟨_, rfl⟩
        have b0 : R0 ≤ 32 := by omega
        have b1 : R1 ≤ 2176 := by omega
        have e1 := byB_eq s (k + 1) (by omega)
        have HB1 : Hid (¬ (128 ≤ byB s (k + 1) ∧ byB s (k + 1) ≤ 191) → k = q) := fun hb => (hnx 0 (by rw [if_neg (by omega)])).1 rfl
        have HG : Hid ((128 ≤ byB s (k + 1) ∧ byB s (k + 1) ≤ 191) → (True) → k + 2 + utfP f ((tl s).drop (k + 2)) = q) := fun c1 hg => (hnx 2 (by
          subst hR1 hR0
          rw [if_pos ⟨by omega, c1⟩])).2 (by omega)
        have HR0 : Hid (_ = _) := hR0
        have HR1 : Hid (_ = _) := hR1
        clear hnx hR1 hR0
        go_wp2_with (go_at_call 65; refine (hmo _).mono ?_; rintro e w' ⟨rfl, hw⟩; rw [hw])
        go_quiet (fail)
        go_wp2
        go_loop [7, 8] (fun r i => (i = .int .i64 1 ∧ r = .int .i64 (R0 : Nat)) ∨ (i = .int .i64 2 ∧ r = .int .i64 (R1 : Nat) ∧ (128 ≤ byB s (k + 1) ∧ byB s (k + 1) ≤ 191))) (fun _ i => 3 - (intOf i).toNat)
        case atStart => exact .inl ⟨rfl, congrArg (Value.int .i64) (by have := HR0.out; omega)⟩
        case round =>
          rcases hrel with ⟨rfl, rfl⟩ | ⟨rfl, rfl, c1⟩
          · by_cases hc : 128 ≤ byB s (k + 1) ∧ byB s (k + 1) ≤ 191
            · have hc1 : ¬ byB s (k + 1) < 128 := by omega
              have hc2 : ¬ 191 < byB s (k + 1) := by omega
              clear HB1
              go_wp2
              go_round
              case rel => exact .inr ⟨rfl, congrArg (Value.int .i64) (by have := HR1.out; omega), hc⟩
              case measure => simp [intOf]
            · have HE : Hid (k = q) := HB1.out hc
              rcases (show byB s (k + 1) < 128 ∨ (¬ byB s (k + 1) < 128 ∧ 191 < byB s (k + 1)) by omega) with hc1 | ⟨hc1, hc2⟩
              all_goals
                clear hc
                go_wp2
                go_ret
                exact ⟨ret_int (by rw [← HE.out, utfA, if_pos hlt]), below_drewN (chain hB (below_alloc _ _)) _⟩
          · have HN : Hid (_ = _) := HG.out c1 trivial
            have hlo : 128 ≤ R1 := by have h0 := HR0.out; have h1 := HR1.out; omega
            have d1 : decide ((R1 : Int) < 128) = false := by simp only [decide_eq_false_iff_not]; omega
            have d2 : decide ((1114111 : Int) < (R1 : Int)) = false := by simp only [decide_eq_false_iff_not]; omega
            have d3 : decide ((55296 : Int) ≤ (R1 : Int)) = false := by simp only [decide_eq_false_iff_not]; omega
            clear HB1 HG
            go_wp2
            go_roundw
            case rel => exact ⟨k + 2, f, by omega, by go_num, ⟨by have := HF.out; omega, HN⟩, below_drewN (chain hB (below_alloc _ _)) _⟩
            case measure => simp [intOf]; omega
      · rw [show moreF (byB s k) = (2, 2048) by rw [moreF, if_neg (by omega), if_neg (by omega), if_pos h]] at hmo
        rw [u_three _ _ _ _ _ h l1 l2] at hnx
        by_cases hL0 : s.size ≤ k + 2
        · have HE : Hid (k = q) := (hnx 0 (by rw [if_neg (by omega)])).1 rfl
          have hL2 : (s.size : Int) ≤ (k : Int) + 2 := by omega
          clear hnx
          go_wp2_with (go_at_call 65; refine (hmo _).mono ?_; rintro e w' ⟨rfl, hw⟩; rw [hw])
          go_ret
          exact ⟨ret_int (by rw [← HE.out, utfA, if_pos hlt]), hB⟩
        have hL : k + 2 < s.size := by omega
        clear hL0
        obtain ⟨R0, hR0⟩ : ∃ R0, R0 = byB s k % 16 := ⟨_, rfl⟩
        obtain ⟨R1, hR1⟩ : ∃ R1, R1 = R0 * 64 + (byB s (k + 1) - 128) := ⟨_, rfl⟩
        obtain ⟨R2, hR2⟩ : ∃ R2, R2 = R1 * 64 + (byB s (k + 2) - 128) := ⟨_, rfl⟩
        have b0 : R0 ≤ 16 := by omega
        have b1 : R1 ≤ 1152 := by omega
        have b2 : R2 ≤ 73856 := by omega
        have e1 := byB_eq s (k + 1) (by omega)
        have e2 := byB_eq s (k + 2) (by omega)
        have HB1 : Hid (¬ (128 ≤ byB s (k + 1) ∧ byB s (k + 1) ≤ 191) → k = q) := fun hb => (hnx 0 (by rw [if_neg (by omega)])).1 rfl
        have HB2 : Hid (¬ (128 ≤ byB s (k + 2) ∧ byB s (k + 2) ≤ 191) → k = q) := fun hb => (hnx 0 (by rw [if_neg (by omega)])).1 rfl
        have HG : Hid ((128 ≤ byB s (k + 1) ∧ byB s (k + 1) ≤ 191) → (128 ≤ byB s (k + 2) ∧ byB s (k + 2) ≤ 191) → (2048 ≤ R2 ∧ ¬ (55296 ≤ R2 ∧ R2 ≤ 57343)) → k + 3 + utfP f ((tl s).drop (k + 3)) = q) := fun c1 c2 hg => (hnx 3 (by
          subst hR2 hR1 hR0
          rw [if_pos ⟨by omega, c1, c2, hg⟩])).2 (by omega)
        have HW : Hid (¬ (2048 ≤ R2 ∧ ¬ (55296 ≤ R2 ∧ R2 ≤ 57343)) → k = q) := fun hg => (hnx 0 (by
          subst hR2 hR1 hR0
          rw [if_neg (fun hh => hg hh.2.2.2)])).1 rfl
        have HR0 : Hid (_ = _) := hR0
        have HR1 : Hid (_ = _) := hR1
        have HR2 : Hid (_ = _) := hR2
        clear hnx hR2 hR1 hR0
        go_wp2_with (go_at_call 65; refine (hmo _).mono ?_; rintro e w' ⟨rfl, hw⟩; rw [hw])
        go_quiet (fail)
        go_wp2
        go_loop [7, 8] (fun r i => (i = .int .i64 1 ∧ r = .int .i64 (R0 : Nat)) ∨ (i = .int .i64 2 ∧ r = .int .i64 (R1 : Nat) ∧ (128 ≤ byB s (k + 1) ∧ byB s (k + 1) ≤ 191)) ∨ (i = .int .i64 3 ∧ r = .int .i64 (R2 : Nat) ∧ (128 ≤ byB s (k + 1) ∧ byB s (k + 1) ≤ 191) ∧ (128 ≤ byB s (k + 2) ∧ byB s (k + 2) ≤ 191))) (fun _ i => 4 - (intOf i).toNat)
        case atStart => exact .inl ⟨rfl, congrArg (Value.int .i64) (by have := HR0.out; omega)⟩
        case round =>
          rcases hrel with ⟨rfl, rfl⟩ | ⟨rfl, rfl, c1⟩ | ⟨rfl, rfl, c1, c2⟩
          · by_cases hc : 128 ≤ byB s (k + 1) ∧ byB s (k + 1) ≤ 191
            · have hc1 : ¬ byB s (k + 1) < 128 := by omega
              have hc2 : ¬ 191 < byB s (k + 1) := by omega
              clear HB1 HB2
              go_wp2
              go_round
              case rel => exact .inr (.inl ⟨rfl, congrArg (Value.int .i64) (by have := HR1.out; omega), hc⟩)
              case measure => simp [intOf]
            · have HE : Hid (k = q) := HB1.out hc
              rcases (show byB s (k + 1) < 128 ∨ (¬ byB s (k + 1) < 128 ∧ 191 < byB s (k + 1)) by omega) with hc1 | ⟨hc1, hc2⟩
              all_goals
                clear hc
                go_wp2
                go_ret
                exact ⟨ret_int (by rw [← HE.out, utfA, if_pos hlt]), below_drewN (chain hB (below_alloc _ _)) _⟩
          · by_cases hc : 128 ≤ byB s (k + 2) ∧ byB s (k + 2) ≤ 191
            · have hc1 : ¬ byB s (k + 2) < 128 := by omega
              have hc2 : ¬ 191 < byB s (k + 2) := by omega
              clear HB1 HB2
              go_wp2
              go_round
              case rel => exact .inr (.inr ⟨rfl, congrArg (Value.int .i64) (by have := HR2.out; omega), c1, hc⟩)
              case measure => simp [intOf]
            · have HE : Hid (k = q) := HB2.out hc
              rcases (show byB s (k + 2) < 128 ∨ (¬ byB s (k + 2) < 128 ∧ 191 < byB s (k + 2)) by omega) with hc1 | ⟨hc1, hc2⟩
              all_goals
                clear hc
                go_wp2
                go_ret
                exact ⟨ret_int (by rw [← HE.out, utfA, if_pos hlt]), below_drewN (chain hB (below_alloc _ _)) _⟩
          · have hR0 := HR0.out; have hR1 := HR1.out; have hR2 := HR2.out
            have hcs : R2 < 2048 ∨ (2048 ≤ R2 ∧ R2 < 55296) ∨ (2048 ≤ R2 ∧ 55296 ≤ R2 ∧ R2 ≤ 57343) ∨ (2048 ≤ R2 ∧ 55296 ≤ R2 ∧ 57343 < R2) := by omega
            clear hR0 hR1 hR2
            rcases hcs with g | ⟨g, g1⟩ | ⟨g, g1, g2⟩ | ⟨g, g1, g2⟩
            · have HE : Hid (k = q) := HW.out (by omega)
              have d1 : decide ((R2 : Int) < 2048) = true := by simp only [decide_eq_true_eq]; omega
              clear HB1 HB2 HG HW
              go_wp2
              go_ret
              exact ⟨ret_int (by rw [← HE.out, utfA, if_pos hlt]), below_drewN (chain hB (below_alloc _ _)) _⟩
            · have HN : Hid (_ = _) := HG.out c1 c2 (by omega)
              have d1 : decide ((R2 : Int) < 2048) = false := by simp only [decide_eq_false_iff_not]; omega
              have d2 : decide ((1114111 : Int) < (R2 : Int)) = false := by simp only [decide_eq_false_iff_not]; omega
              have d3 : decide ((55296 : Int) ≤ (R2 : Int)) = false := by simp only [decide_eq_false_iff_not]; omega
              clear HB1 HB2 HG HW
              go_wp2
              go_roundw
              case rel => exact ⟨k + 3, f, by omega, by go_num, ⟨by have := HF.out; omega, HN⟩, below_drewN (chain hB (below_alloc _ _)) _⟩
              case measure => simp [intOf]; omega
            · have HE : Hid (k = q) := HW.out (by omega)
              have d1 : decide ((R2 : Int) < 2048) = false := by simp only [decide_eq_false_iff_not]; omega
              have d2 : decide ((1114111 : Int) < (R2 : Int)) = false := by simp only [decide_eq_false_iff_not]; omega
              have d3 : decide ((55296 : Int) ≤ (R2 : Int)) = true := by simp only [decide_eq_true_eq]; omega
              have d4 : decide ((R2 : Int) ≤ 57343) = true := by simp only [decide_eq_true_eq]; omega
              clear HB1 HB2 HG HW
              go_wp2
              go_ret
              exact ⟨ret_int (by rw [← HE.out, utfA, if_pos hlt]), below_drewN (chain hB (below_alloc _ _)) _⟩
            · have HN : Hid (_ = _) := HG.out c1 c2 (by omega)
              have d1 : decide ((R2 : Int) < 2048) = false := by simp only [decide_eq_false_iff_not]; omega
              have d2 : decide ((1114111 : Int) < (R2 : Int)) = false := by simp only [decide_eq_false_iff_not]; omega
              have d3 : decide ((55296 : Int) ≤ (R2 : Int)) = true := by simp only [decide_eq_true_eq]; omega
              have d4 : decide ((R2 : Int) ≤ 57343) = false := by simp only [decide_eq_false_iff_not]; omega
              clear HB1 HB2 HG HW
              go_wp2
              go_roundw
              case rel => exact ⟨k + 3, f, by omega, by go_num, ⟨by have := HF.out; omega, HN⟩, below_drewN (chain hB (below_alloc _ _)) _⟩
              case measure => simp [intOf]; omega
      · rw [show moreF (byB s k) = (3, 65536) by rw [moreF, if_neg (by omega), if_neg (by omega), if_neg (by omega), if_pos h]] at hmo
        rw [u_four _ _ _ _ _ h l1 l2 l3] at hnx
        by_cases hL0 : s.size ≤ k + 3
        · have HE : Hid (k = q) := (hnx 0 (by rw [if_neg (by omega)])).1 rfl
          have hL2 : (s.size : Int) ≤ (k : Int) + 3 := by omega
          clear hnx
          go_wp2_with (go_at_call 65; refine (hmo _).mono ?_; rintro e w' ⟨rfl, hw⟩; rw [hw])
          go_ret
          exact ⟨ret_int (by rw [← HE.out, utfA, if_pos hlt]), hB⟩
        have hL : k + 3 < s.size := by omega
        clear hL0
        obtain ⟨R0, hR0⟩ : ∃ R0, R0 = byB s k % 8 := ⟨_, rfl⟩
        obtain ⟨R1, hR1⟩ : ∃ R1, R1 = R0 * 64 + (byB s (k + 1) - 128) := ⟨_, rfl⟩
        obtain ⟨R2, hR2⟩ : ∃ R2, R2 = R1 * 64 + (byB s (k + 2) - 128) := ⟨_, rfl⟩
        obtain ⟨R3, hR3⟩ : ∃ R3, R3 = R2 * 64 + (byB s (k + 3) - 128) := ⟨_, rfl⟩
        have b0 : R0 ≤ 8 := by omega
        have b1 : R1 ≤ 640 := by omega
        have b2 : R2 ≤ 41088 := by omega
        have b3 : R3 ≤ 2629760 := by omega
        have e1 := byB_eq s (k + 1) (by omega)
        have e2 := byB_eq s (k + 2) (by omega)
        have e3 := byB_eq s (k + 3) (by omega)
        have HB1 : Hid (¬ (128 ≤ byB s (k + 1) ∧ byB s (k + 1) ≤ 191) → k = q) := fun hb => (hnx 0 (by rw [if_neg (by omega)])).1 rfl
        have HB2 : Hid (¬ (128 ≤ byB s (k + 2) ∧ byB s (k + 2) ≤ 191) → k = q) := fun hb => (hnx 0 (by rw [if_neg (by omega)])).1 rfl
        have HB3 : Hid (¬ (128 ≤ byB s (k + 3) ∧ byB s (k + 3) ≤ 191) → k = q) := fun hb => (hnx 0 (by rw [if_neg (by omega)])).1 rfl
        have HG : Hid ((128 ≤ byB s (k + 1) ∧ byB s (k + 1) ≤ 191) → (128 ≤ byB s (k + 2) ∧ byB s (k + 2) ≤ 191) → (128 ≤ byB s (k + 3) ∧ byB s (k + 3) ≤ 191) → (65536 ≤ R3 ∧ R3 ≤ 1114111) → k + 4 + utfP f ((tl s).drop (k + 4)) = q) := fun c1 c2 c3 hg => (hnx 4 (by
          subst hR3 hR2 hR1 hR0
          rw [if_pos ⟨by omega, c1, c2, c3, hg⟩])).2 (by omega)
        have HW : Hid (¬ (65536 ≤ R3 ∧ R3 ≤ 1114111) → k = q) := fun hg => (hnx 0 (by
          subst hR3 hR2 hR1 hR0
          rw [if_neg (fun hh => hg hh.2.2.2.2)])).1 rfl
        have HR0 : Hid (_ = _) := hR0
        have HR1 : Hid (_ = _) := hR1
        have HR2 : Hid (_ = _) := hR2
        have HR3 : Hid (_ = _) := hR3
        clear hnx hR3 hR2 hR1 hR0
        go_wp2_with (go_at_call 65; refine (hmo _).mono ?_; rintro e w' ⟨rfl, hw⟩; rw [hw])
        go_quiet (fail)
        go_wp2
        go_loop [7, 8] (fun r i => (i = .int .i64 1 ∧ r = .int .i64 (R0 : Nat)) ∨ (i = .int .i64 2 ∧ r = .int .i64 (R1 : Nat) ∧ (128 ≤ byB s (k + 1) ∧ byB s (k + 1) ≤ 191)) ∨ (i = .int .i64 3 ∧ r = .int .i64 (R2 : Nat) ∧ (128 ≤ byB s (k + 1) ∧ byB s (k + 1) ≤ 191) ∧ (128 ≤ byB s (k + 2) ∧ byB s (k + 2) ≤ 191)) ∨ (i = .int .i64 4 ∧ r = .int .i64 (R3 : Nat) ∧ (128 ≤ byB s (k + 1) ∧ byB s (k + 1) ≤ 191) ∧ (128 ≤ byB s (k + 2) ∧ byB s (k + 2) ≤ 191) ∧ (128 ≤ byB s (k + 3) ∧ byB s (k + 3) ≤ 191))) (fun _ i => 5 - (intOf i).toNat)
        case atStart => exact .inl ⟨rfl, congrArg (Value.int .i64) (by have := HR0.out; omega)⟩
        case round =>
          rcases hrel with ⟨rfl, rfl⟩ | ⟨rfl, rfl, c1⟩ | ⟨rfl, rfl, c1, c2⟩ | ⟨rfl, rfl, c1, c2, c3⟩
          · by_cases hc : 128 ≤ byB s (k + 1) ∧ byB s (k + 1) ≤ 191
            · have hc1 : ¬ byB s (k + 1) < 128 := by omega
              have hc2 : ¬ 191 < byB s (k + 1) := by omega
              clear HB1 HB2 HB3
              go_wp2
              go_round
              case rel => exact .inr (.inl ⟨rfl, congrArg (Value.int .i64) (by have := HR1.out; omega), hc⟩)
              case measure => simp [intOf]
            · have HE : Hid (k = q) := HB1.out hc
              rcases (show byB s (k + 1) < 128 ∨ (¬ byB s (k + 1) < 128 ∧ 191 < byB s (k + 1)) by omega) with hc1 | ⟨hc1, hc2⟩
              all_goals
                clear hc
                go_wp2
                go_ret
                exact ⟨ret_int (by rw [← HE.out, utfA, if_pos hlt]), below_drewN (chain hB (below_alloc _ _)) _⟩
          · by_cases hc : 128 ≤ byB s (k + 2) ∧ byB s (k + 2) ≤ 191
            · have hc1 : ¬ byB s (k + 2) < 128 := by omega
              have hc2 : ¬ 191 < byB s (k + 2) := by omega
              clear HB1 HB2 HB3
              go_wp2
              go_round
              case rel => exact .inr (.inr (.inl ⟨rfl, congrArg (Value.int .i64) (by have := HR2.out; omega), c1, hc⟩))
              case measure => simp [intOf]
            · have HE : Hid (k = q) := HB2.out hc
              rcases (show byB s (k + 2) < 128 ∨ (¬ byB s (k + 2) < 128 ∧ 191 < byB s (k + 2)) by omega) with hc1 | ⟨hc1, hc2⟩
              all_goals
                clear hc
                go_wp2
                go_ret
                exact ⟨ret_int (by rw [← HE.out, utfA, if_pos hlt]), below_drewN (chain hB (below_alloc _ _)) _⟩
          · by_cases hc : 128 ≤ byB s (k + 3) ∧ byB s (k + 3) ≤ 191
            · have hc1 : ¬ byB s (k + 3) < 128 := by omega
              have hc2 : ¬ 191 < byB s (k + 3) := by omega
              clear HB1 HB2 HB3
              go_wp2
              go_round
              case rel => exact .inr (.inr (.inr ⟨rfl, congrArg (Value.int .i64) (by have := HR3.out; omega), c1, c2, hc⟩))
              case measure => simp [intOf]
            · have HE : Hid (k = q) := HB3.out hc
              rcases (show byB s (k + 3) < 128 ∨ (¬ byB s (k + 3) < 128 ∧ 191 < byB s (k + 3)) by omega) with hc1 | ⟨hc1, hc2⟩
              all_goals
                clear hc
                go_wp2
                go_ret
                exact ⟨ret_int (by rw [← HE.out, utfA, if_pos hlt]), below_drewN (chain hB (below_alloc _ _)) _⟩
          · have hcs : R3 < 65536 ∨ (65536 ≤ R3 ∧ R3 ≤ 1114111) ∨ (65536 ≤ R3 ∧ 1114111 < R3) := by omega
            rcases hcs with g | ⟨g, g1⟩ | ⟨g, g1⟩
            · have HE : Hid (k = q) := HW.out (by omega)
              have d1 : decide ((R3 : Int) < 65536) = true := by simp only [decide_eq_true_eq]; omega
              clear HB1 HB2 HB3 HG HW
              go_wp2
              go_ret
              exact ⟨ret_int (by rw [← HE.out, utfA, if_pos hlt]), below_drewN (chain hB (below_alloc _ _)) _⟩
            · have HN : Hid (_ = _) := HG.out c1 c2 c3 ⟨g, g1⟩
              have d1 : decide ((R3 : Int) < 65536) = false := by simp only [decide_eq_false_iff_not]; omega
              have d2 : decide ((1114111 : Int) < (R3 : Int)) = false := by simp only [decide_eq_false_iff_not]; omega
              have d3 : decide ((55296 : Int) ≤ (R3 : Int)) = true := by simp only [decide_eq_true_eq]; omega
              have d4 : decide ((R3 : Int) ≤ 57343) = false := by simp only [decide_eq_false_iff_not]; omega
              clear HB1 HB2 HB3 HG HW
              go_wp2
              go_roundw
              case rel => exact ⟨k + 4, f, by omega, by go_num, ⟨by have := HF.out; omega, HN⟩, below_drewN (chain hB (below_alloc _ _)) _⟩
              case measure => simp [intOf]; omega
            · have HE : Hid (k = q) := HW.out (by omega)
              have d1 : decide ((R3 : Int) < 65536) = false := by simp only [decide_eq_false_iff_not]; omega
              have d2 : decide ((1114111 : Int) < (R3 : Int)) = true := by simp only [decide_eq_true_eq]; omega
              clear HB1 HB2 HB3 HG HW
              go_wp2
              go_ret
              exact ⟨ret_int (by rw [← HE.out, utfA, if_pos hlt]), below_drewN (chain hB (below_alloc _ _)) _⟩
      · rw [show moreF (byB s k) = (-1, 0) by rw [moreF, if_neg h1, if_neg h2, if_neg h3, if_neg h4]] at hmo
        have HE : Hid (k = q) := (hnx 0 (u_none _ _ _ _ _ h1 h2 h3 h4 l0 l1 l2 l3)).1 rfl
        clear hnx h1 h2 h3 h4
        go_wp2_with (go_at_call 65; refine (hmo _).mono ?_; rintro e w' ⟨rfl, hw⟩; rw [hw])
        go_ret
        exact ⟨ret_int (by rw [← HE.out, utfA, if_pos hlt]), hB⟩
    · have HE : Hid (k = q) := by
        have h2 := HK.out.2
        rw [List.drop_of_length_le (by rw [tl_len]; omega)] at h2
        have : ∀ f, utfP f [] = 0 := fun f => by cases f <;> rfl
        rw [this] at h2
        exact h2
      go_wp2
      go_ret
      exact ⟨ret_int (by rw [← HE.out, utfA, if_neg hlt]), hB⟩
end Go.Proofs.Ytpfnjeefhddikaa
