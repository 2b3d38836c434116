/- What is let by, and how long a name is: pass, nameLength of the layer lex. -/
import Derived.WalkMore
import Derived.Test.YtahnbigkdfmpbaaDoorLBase
namespace Go.Proofs.YtahnbigkdfmpbaaDoor
open Go.RowKit
set_option linter.unusedVariables false
set_option linter.unusedSimpArgs false

theorem pre_dash (t : Bs) (c : UInt8) (h : c.toNat = 45) : Lib.hasPrefix (c :: t) [45, 45] = dash t := by
  have hc : ((45 : UInt8) == c) = true := by rw [beqc]; simp [h]
  cases t with
  | nil => simp [Lib.hasPrefix, dash, List.isPrefixOf]
  | cons d t =>
    simp only [Lib.hasPrefix, List.isPrefixOf, hc, Bool.true_and, Bool.and_true, beqc, dash]
    rfl
theorem bl_yes {c : UInt8} (h : ((c.toNat : Int) == 32) = true ∨ ((c.toNat : Int) == 9) = true ∨ ((c.toNat : Int) == 10) = true ∨ ((c.toNat : Int) == 13) = true) : blankB c = true := by
  simp only [beq_iff_eq] at h
  simp only [blankB, decide_eq_true_eq]; omega
theorem bl_no {c : UInt8} (h1 : ((c.toNat : Int) == 32) = false) (h2 : ((c.toNat : Int) == 9) = false) (h3 : ((c.toNat : Int) == 10) = false) (h4 : ((c.toNat : Int) == 13) = false) : blankB c = false := by
  simp only [beq_eq_false_iff_ne] at h1 h2 h3 h4
  simp only [blankB, decide_eq_false_iff_not]; omega
theorem d_yes {c : UInt8} (h : ((c.toNat : Int) == 45) = true) : c.toNat = 45 := by simp only [beq_iff_eq] at h; omega
theorem d_no {c : UInt8} (h : ((c.toNat : Int) == 45) = false) : c.toNat ≠ 45 := by simp only [beq_eq_false_iff_ne] at h; omega
theorem dash_of {s : ByteArray} {k : Nat} {r : Bool} (hlt : k < s.size) (h : s[k].toNat = 45) (hr : Lib.hasPrefix ((tl s).drop k) [45, 45] = r) : dash ((tl s).drop (k + 1)) = r := by
  rw [tl_drop s k hlt, pre_dash _ _ h] at hr; exact hr
theorem ps_blank {s : ByteArray} {k q : Nat} (hlt : k < s.size) (hb : blankB s[k] = true) (h : k + passN false ((tl s).drop k) = q) : (k + 1) + passN false ((tl s).drop (k + 1)) = q := by
  rw [tl_drop s k hlt, passN_blank hb] at h; omega
theorem ps_dash {s : ByteArray} {k q : Nat} (hlt : k < s.size) (hb : s[k].toNat = 45) (hd : dash ((tl s).drop (k + 1)) = true) (h : k + passN false ((tl s).drop k) = q) :
    (k + cmtN ((tl s).drop k)) + passN false ((tl s).drop (k + cmtN ((tl s).drop k))) = q := by
  rw [tl_drop s k hlt, passN_dash hb hd, ← tl_drop s k hlt, List.drop_drop] at h; omega
theorem ps_stop {s : ByteArray} {k q : Nat} (hlt : k < s.size) (hb : blankB s[k] = false) (hd : ¬ (s[k].toNat = 45 ∧ dash ((tl s).drop (k + 1)) = true)) (h : k + passN false ((tl s).drop k) = q) : k = q := by
  rw [tl_drop s k hlt, passN_stop hb hd] at h; omega
theorem ps_end {s : ByteArray} {k q : Nat} (hlt : ¬ k < s.size) (h : k + passN false ((tl s).drop k) = q) : k = q := by
  rw [List.drop_of_length_le (by rw [tl_len]; omega)] at h
  simpa [passN] using h
theorem cmt_bd {s : ByteArray} {k : Nat} (hk : k ≤ s.size) : k + cmtN ((tl s).drop k) ≤ s.size := by
  have := cmtN_le ((tl s).drop k)
  rw [List.length_drop, tl_len] at this
  omega
theorem cmt_pos {s : ByteArray} {k : Nat} (hlt : k < s.size) (hb : s[k].toNat = 45) : 0 < cmtN ((tl s).drop k) := by
  rw [tl_drop s k hlt, cmtN, if_neg (by omega)]; omega
set_option maxHeartbeats 1000000 in
theorem pass_any (s : ByteArray) (p : Nat) (w : World) (hp : p ≤ s.size) (hs : s.size ≤ 65536) :
    Calls Tryd.prog 44 #[.string s, .int .i64 p] w fun e w' => e = .returned (.int .i64 ((p + passN false ((tl s).drop p) : Nat) : Int)) ∧ w' = w := by
  obtain ⟨q, hq⟩ : ∃ q, p + passN false ((tl s).drop p) = q := ⟨_, rfl⟩
  have HQ : Hid (_ = _) := hq
  rw [hq]
  clear hq
  go_enter Tryd.func44, Tryd.ntmps44
  go_wp2
  go_step3
  go_wp2
  go_step3
  go_wp2
  go_loop [1] (fun i => ∃ k : Nat, k ≤ s.size ∧ i = .int .i64 k ∧ Hid (k + passN false ((tl s).drop k) = q)) (fun i => s.size - (intOf i).toNat)
  case atStart => exact ⟨p, hp, rfl, HQ⟩
  case round =>
    obtain ⟨k, hk, rfl, HK⟩ := hrel
    by_cases hlt : k < s.size
    · have hcm := fun w => comment_any (s.extract k s.size) w (by simp; omega)
      have hpr := fun w => strings_HasPrefix (s.extract k s.size) ⟨#[45, 45]⟩ w
      obtain ⟨n, hn⟩ : ∃ n, cmtN ((tl s).drop k) = n := ⟨_, rfl⟩
      obtain ⟨r, hr⟩ : ∃ r, Lib.hasPrefix ((tl s).drop k) [45, 45] = r := ⟨_, rfl⟩
      simp only [tl_def, tl_from] at hcm hpr
      simp only [hn] at hcm
      simp only [hr] at hpr
      have HN : Hid (_ = _) := hn
      have HR : Hid (_ = _) := hr
      have hb := cmt_bd (s := s) hk
      rw [hn] at hb
      clear hn hr
      go_wp2_with (first
        | (go_at_call 61; refine (hpr _).mono ?_; rintro e w' ⟨rfl, hw⟩; rw [hw])
        | (go_at_call 62; refine (hcm _).mono ?_; rintro e w' ⟨rfl, hw⟩; rw [hw]))
      · go_round
        case rel => exact ⟨k + 1, by omega, by go_num, ps_blank hlt (bl_yes (.inl ‹_›)) HK⟩
        case measure => simp [intOf]; omega
      · go_round
        case rel => exact ⟨k + 1, by omega, by go_num, ps_blank hlt (bl_yes (.inr (.inl ‹_›))) HK⟩
        case measure => simp [intOf]; omega
      · go_round
        case rel => exact ⟨k + 1, by omega, by go_num, ps_blank hlt (bl_yes (.inr (.inr (.inl ‹_›)))) HK⟩
        case measure => simp [intOf]; omega
      · go_round
        case rel => exact ⟨k + 1, by omega, by go_num, ps_blank hlt (bl_yes (.inr (.inr (.inr ‹_›)))) HK⟩
        case measure => simp [intOf]; omega
      · have h45 := d_yes ‹((s[k].toNat : Int) == 45) = true›
        have hbl := bl_no (c := s[k]) ‹_› ‹_› ‹_› ‹_›
        have hr : r = false := by cases r <;> simp_all
        have : Hid (k = q) := ps_stop hlt hbl (fun h => by rw [dash_of hlt h45 HR, hr] at h; simp at h) HK
        try rw [Exit.noGoto_ret]
        go_ret
        exact ⟨ret_int (by rw [this.out]), rfl⟩
      · have h45 := d_yes ‹((s[k].toNat : Int) == 45) = true›
        have hr : r = true := by cases r <;> simp_all
        have hp := cmt_pos hlt h45
        have HN' : cmtN ((tl s).drop k) = n := HN
        rw [HN'] at hp
        go_round
        case rel => exact ⟨k + n, by omega, by go_num, by
          have := ps_dash hlt h45 (by rw [dash_of hlt h45 HR, hr]) HK
          rw [HN'] at this
          exact this⟩
        case measure => simp [intOf]; omega
      · have h45 := d_no ‹((s[k].toNat : Int) == 45) = false›
        have hbl := bl_no (c := s[k]) ‹_› ‹_› ‹_› ‹_›
        have : Hid (k = q) := ps_stop hlt hbl (fun h => h45 h.1) HK
        try rw [Exit.noGoto_ret]
        go_ret
        exact ⟨ret_int (by rw [this.out]), rfl⟩
    · have : Hid (k = q) := ps_end hlt HK
      go_wp2
      try rw [Exit.noGoto_ret]
      go_ret
      exact ⟨ret_int (by rw [this.out]), rfl⟩
theorem wordN_at {s : ByteArray} {k : Nat} (hlt : k < s.size) : wordN ((tl s).drop k) = if letterB s[k] || digitB s[k] then 1 + wordN ((tl s).drop (k + 1)) else 0 := by rw [tl_drop s k hlt]; rfl
theorem nameN_at {s : ByteArray} (hlt : 0 < s.size) : nameN (tl s) = if letterB s[0] then 1 + wordN ((tl s).drop 1) else 0 := by
  have := tl_drop s 0 hlt
  rw [List.drop_zero] at this
  rw [this]; rfl
set_option maxHeartbeats 1000000 in
theorem nameLength_any (s : ByteArray) (w : World) (hs : s.size ≤ 65536) :
    Calls Tryd.prog 63 #[.string s] w fun e w' => e = .returned (.int .i64 (nameN (tl s) : Nat)) ∧ w' = w := by
  obtain ⟨q, hq⟩ : ∃ q, nameN (tl s) = q := ⟨_, rfl⟩
  have HQ : Hid (_ = _) := hq
  rw [hq]
  clear hq
  go_enter Tryd.func63, Tryd.ntmps63
  go_wp2
  go_loop [3] (fun i => ∃ k : Nat, k ≤ s.size ∧ i = .int .i64 k ∧ Hid ((k = 0 ∧ nameN (tl s) = q) ∨ (0 < k ∧ k + wordN ((tl s).drop k) = q))) (fun i => s.size - (intOf i).toNat)
  case atStart => exact ⟨0, Nat.zero_le _, rfl, .inl ⟨rfl, HQ⟩⟩
  case round =>
    obtain ⟨k, hk, rfl, HK⟩ := hrel
    by_cases hlt : k < s.size
    · obtain ⟨lb, hlb⟩ : ∃ r, letterB s[k] = r := ⟨_, rfl⟩
      obtain ⟨db, hdb⟩ : ∃ r, digitB s[k] = r := ⟨_, rfl⟩
      have c1 := fun w => isLetter_any s[k] w
      have c2 := fun w => isDigit_any s[k] w
      simp only [hlb] at c1
      simp only [hdb] at c2
      have HL : Hid (_ = _) := hlb
      have HD : Hid (_ = _) := hdb
      clear hlb hdb
      have HS : Hid ((lb = true ∨ (0 < k ∧ db = true)) → 0 < k + 1 ∧ (k + 1) + wordN ((tl s).drop (k + 1)) = q) := fun h => by
        refine ⟨by omega, ?_⟩
        rcases HK with ⟨rfl, h1⟩ | ⟨h0, h1⟩
        · rw [nameN_at hlt] at h1
          have HL' : letterB s[0] = lb := HL
          rw [HL', if_pos (by rcases h with h | h <;> simp_all)] at h1
          simp at h1 ⊢; omega
        · have HL' : letterB s[k] = lb := HL
          have HD' : digitB s[k] = db := HD
          rw [wordN_at hlt, HL', HD', if_pos (by rcases h with h | h <;> simp_all)] at h1
          omega
      have HE : Hid ((lb = false ∧ (k = 0 ∨ db = false)) → k = q) := fun h => by
        rcases HK with ⟨rfl, h1⟩ | ⟨h0, h1⟩
        · rw [nameN_at hlt] at h1
          have HL' : letterB s[0] = lb := HL
          rw [HL', if_neg (by simp [h.1])] at h1
          omega
        · have HL' : letterB s[k] = lb := HL
          have HD' : digitB s[k] = db := HD
          rw [wordN_at hlt, HL', HD', if_neg (by rcases h.2 with h2 | h2; · omega
                                                 · simp [h.1, h2])] at h1
          omega
      by_cases hk0 : k = 0
      · subst hk0
        cases lb
        all_goals
          go_wp2_with (first
            | (go_at_call 81; refine (c1 _).mono ?_; rintro e w' ⟨rfl, hw⟩; rw [hw])
            | (go_at_call 82; refine (c2 _).mono ?_; rintro e w' ⟨rfl, hw⟩; rw [hw]))
        · go_ret
          exact ⟨ret_int (by rw [← HE.out (by simp)]; rfl), rfl⟩
        · go_round
          case rel => exact ⟨0 + 1, by omega, by go_num, .inr (HS.out (by simp))⟩
          case measure => simp [intOf]; omega
      · have hkp : 0 < k := by omega
        cases lb
        · cases db
          · go_wp2_with (first
              | (go_at_call 81; refine (c1 _).mono ?_; rintro e w' ⟨rfl, hw⟩; rw [hw])
              | (go_at_call 82; refine (c2 _).mono ?_; rintro e w' ⟨rfl, hw⟩; rw [hw]))
            go_ret
            exact ⟨ret_int (by rw [HE.out (by simp)]), rfl⟩
          · go_wp2_with (first
              | (go_at_call 81; refine (c1 _).mono ?_; rintro e w' ⟨rfl, hw⟩; rw [hw])
              | (go_at_call 82; refine (c2 _).mono ?_; rintro e w' ⟨rfl, hw⟩; rw [hw]))
            go_round
            case rel => exact ⟨k + 1, by omega, by go_num, .inr (HS.out (by simp [hkp]))⟩
            case measure => simp [intOf]; omega
        · go_wp2_with (first
            | (go_at_call 81; refine (c1 _).mono ?_; rintro e w' ⟨rfl, hw⟩; rw [hw])
            | (go_at_call 82; refine (c2 _).mono ?_; rintro e w' ⟨rfl, hw⟩; rw [hw]))
          go_round
          case rel => exact ⟨k + 1, by omega, by go_num, .inr (HS.out (by simp))⟩
          case measure => simp [intOf]; omega
    · have : Hid (k = q) := by
        rcases HK with ⟨rfl, h1⟩ | ⟨h0, h1⟩
        · have : tl s = [] := List.length_eq_zero_iff.1 (by rw [tl_len]; omega)
          rw [this] at h1
          exact h1
        · rw [List.drop_of_length_le (by rw [tl_len]; omega)] at h1
          exact h1
      go_wp2
      go_ret
      exact ⟨ret_int (by rw [this.out]), rfl⟩
end Go.Proofs.YtahnbigkdfmpbaaDoor
