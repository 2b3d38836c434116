/- The document's answer: Scan. -/
import Derived.Test.YtpfnjeefhddikaaRUtf
import Derived.Test.YtpfnjeefhddikaaRSign
namespace Go.Proofs.Ytpfnjeefhddikaa
open Go.RowKit
set_option linter.unusedVariables false
set_option linter.unusedSimpArgs false

theorem sq_blank {s : ByteArray} {k f : Nat} (hlt : k < s.size) (hb : blankB s[k] = true) : scanQ f k ((tl s).drop k) = scanQ f (k + 1) ((tl s).drop (k + 1)) := by
  rw [scanQ, scanQ, tl_drop s k hlt, passN_blank hb, Nat.add_comm 1, List.drop_succ_cons]
  congr 1
  omega
theorem sq_dash {s : ByteArray} {k f : Nat} (hlt : k < s.size) (h : s[k].toNat = 45) (hd : dash ((tl s).drop (k + 1)) = true) : scanQ f k ((tl s).drop k) = scanQ f (k + cmtN ((tl s).drop k)) ((tl s).drop (k + cmtN ((tl s).drop k))) := by
  have e : passN false ((tl s).drop k) = cmtN ((tl s).drop k) + passN false ((tl s).drop (k + cmtN ((tl s).drop k))) := by
    have := passN_dash (t := (tl s).drop (k + 1)) h hd
    rw [← tl_drop s k hlt, List.drop_drop] at this
    exact this
  rw [scanQ, scanQ, e, List.drop_drop, List.drop_drop, Nat.add_assoc]
theorem sq_stop {s : ByteArray} {k f : Nat} (hlt : k < s.size) (hb : blankB s[k] = false) (hd : ¬ (s[k].toNat = 45 ∧ dash ((tl s).drop (k + 1)) = true)) : scanQ f k ((tl s).drop k) = scanP f k ((tl s).drop k) := by
  have e : passN false ((tl s).drop k) = 0 := by rw [tl_drop s k hlt]; exact passN_stop hb hd
  rw [scanQ, e, List.drop_zero, Nat.add_zero]
theorem tok_letter {s : ByteArray} {k : Nat} (hlt : k < s.size) (h : letterB s[k] = true) : tokN ((tl s).drop k) = wordN ((tl s).drop k) ∧ kindN ((tl s).drop k) = 1 ∧ 0 < wordN ((tl s).drop k) := by
  have e : nameN ((tl s).drop k) = wordN ((tl s).drop k) := by
    rw [tl_drop s k hlt, nameN, wordN, if_pos h, if_pos (by simp [h])]
  have hp : 0 < wordN ((tl s).drop k) := by rw [tl_drop s k hlt, wordN, if_pos (by simp [h])]; omega
  rw [tokN, kindN, e, if_pos hp, if_pos hp]
  exact ⟨rfl, rfl, hp⟩
theorem tok_sign {s : ByteArray} {k : Nat} (hlt : k < s.size) (h : letterB s[k] = false) : tokN ((tl s).drop k) = signN ((tl s).drop k) ∧ kindN ((tl s).drop k) = 2 := by
  have e : nameN ((tl s).drop k) = 0 := by rw [tl_drop s k hlt, nameN, if_neg (by simp [h])]
  rw [tokN, kindN, e]
  exact ⟨rfl, rfl⟩
theorem ext_from (s : ByteArray) (a n : Nat) (h : a + n ≤ s.size) : s.extract a (a + n) = bs (((tl s).drop a).take n) := by
  apply tl_inj
  rw [tl_extract, tl_bs, List.take_drop]
theorem dash_two {s : ByteArray} {k : Nat} : dash ((tl s).drop (k + 1)) = true ↔ ∃ h : k + 1 < s.size, s[k + 1].toNat = 45 := by
  by_cases h : k + 1 < s.size
  · rw [tl_drop s (k + 1) h]
    simp [dash, h]
  · rw [List.drop_of_length_le (by rw [tl_len]; omega)]
    simp [dash, h]

set_option maxRecDepth 100000 in
set_option maxHeartbeats 4000000 in
theorem rscan_any (s : ByteArray) (w : World) (hs : s.size ≤ maxLen) :
    Calls Try.prog 45 #[.string s] w fun e w' => ∃ v, e = .returned (.tuple #[v, .int .i64 ((scanF (tl s)).2.1 : Nat), .int .i64 ((scanF (tl s)).2.2 : Nat)]) ∧ OwnsT 70 w' w.heap.size v (scanF (tl s)).1 ∧ Below w.heap.size w w' := by
  unfold maxLen at hs
  by_cases hbig : 65536 < s.size
  · rw [scanF_big hbig]
    have e1 : (65536 : Int) < (s.size : Int) := by omega
    go_enter Try.func45, Try.ntmps45
    go_wp2
    go_ret3
    exact ⟨_, rfl, owns_nil _ _ _, Below.refl _ _⟩
  · have hs6 : s.size ≤ 65536 := by omega
    have hb6 : decide ((65536 : Int) < (s.size : Int)) = false := by simp only [decide_eq_false_iff_not]; omega
    have hW := rutf_any s w hs6
    by_cases hu : utfP (s.size + 1) (tl s) < s.size
    · rw [scanF_utf hs6 hu]
      rw [utfA, if_pos hu] at hW
      generalize utfP (s.size + 1) (tl s) = q at *
      have hq0 : (0 : Int) ≤ (q : Int) := by omega
      go_enter Try.func45, Try.ntmps45
      go_wp2_with (go_at_call 57; refine hW.mono ?_; rintro e w' ⟨rfl, hb⟩)
      go_ret3
      exact ⟨_, rfl, owns_nil _ _ _, hb⟩
    · rw [scanF_mid hs6 hu]
      rw [utfA, if_neg hu] at hW
      obtain ⟨R, hR⟩ : ∃ R, scanP (s.size + 1) (passN false (tl s)) ((tl s).drop (passN false (tl s))) = R := ⟨_, rfl⟩
      rw [hR]
      have HR : Hid (scanQ (s.size + 1) 0 (tl s) = R) := by
        show _ = _
        rw [scanQ, Nat.zero_add]
        exact hR
      clear hR hu hbig hs
      go_enter Try.func45, Try.ntmps45
      go_wp2_with (go_at_call 57; refine hW.mono ?_; rintro e w2 ⟨rfl, hb⟩)
      clear hW
      go_loopw [6, 7] (fun o a wr => ∃ (k f : Nat) (acc : List Tok), k ≤ s.size ∧ a = .int .i64 k ∧ acc.length ≤ k ∧ OwnsT 70 wr w.heap.size o acc ∧ Below w.heap.size w wr ∧ Hid (s.size < k + f ∧ finR acc (scanQ f k ((tl s).drop k)) = R)) (fun _ a _ => s.size - (intOf a).toNat)
      case atStart => exact ⟨0, s.size + 1, [], Nat.zero_le _, rfl, Nat.zero_le _, owns_nil _ _ _, hb, ⟨by omega, by rw [finR_nil]; exact HR⟩⟩
      case round =>
        obtain ⟨k, f, acc, hk, rfl, hacc, hO, hB, HK⟩ := hrel
        obtain ⟨w4, hren⟩ : ∃ w0, w0 = wr := ⟨_, rfl⟩
        subst hren
        have hsz := hB.size
        by_cases hlt : k < s.size
        · have hbl := fun w => rblank_any s[k] w
          by_cases hbk : blankB s[k] = true
          · have HN : Hid (s.size < k + 1 + f ∧ finR acc (scanQ f (k + 1) ((tl s).drop (k + 1))) = R) := ⟨by have := HK.out.1; omega, by rw [← sq_blank hlt hbk]; exact HK.out.2⟩
            rw [hbk] at hbl
            clear HK hbk
            go_wp2_with (go_at_call 58; refine (hbl _).mono ?_; rintro e w' ⟨rfl, hw⟩; rw [hw])
            go_roundw
            case rel => exact ⟨k + 1, f, acc, by omega, by go_num, by omega, hO, hB, HN⟩
            case measure => simp [intOf]; omega
          · have hbk : blankB s[k] = false := by simpa using hbk
            rw [hbk] at hbl
            by_cases hd : s[k].toNat = 45 ∧ dash ((tl s).drop (k + 1)) = true
            · obtain ⟨h45, hdd⟩ := hd
              have HE : Hid (_ = _) := sq_dash (f := f) hlt h45 hdd
              obtain ⟨hk1, h46⟩ := dash_two.1 hdd
              obtain ⟨E, hE⟩ : ∃ E, k + cmtN ((tl s).drop k) = E := ⟨_, rfl⟩
              have hEb := cmt_bd (s := s) (k := k) (by omega)
              have hEp := cmt_pos hlt h45
              rw [hE] at HE hEb
              have HN : Hid (s.size < E + f ∧ finR acc (scanQ f E ((tl s).drop E)) = R) := ⟨by have := HK.out.1; omega, by rw [← HE.out]; exact HK.out.2⟩
              have hkE : k < E := by omega
              have HE' : Hid (_ = _) := hE
              have x1 : ((s[k].toNat : Int) == 45) = true := by simp only [beq_iff_eq]; omega
              have x2 : ((s[k + 1].toNat : Int) == 45) = true := by simp only [beq_iff_eq]; omega
              clear HK hE h45 h46 hdd hEp HE hbk
              go_wp2_with (go_at_call 58; refine (hbl _).mono ?_; rintro e w' ⟨rfl, hw⟩; rw [hw])
              go_loop [7] (fun i => ∃ j : Nat, k ≤ j ∧ j ≤ s.size ∧ i = .int .i64 j ∧ Hid (j + cmtN ((tl s).drop j) = E)) (fun i => s.size - (intOf i).toNat)
              case atStart => exact ⟨k, by omega, by omega, rfl, HE'⟩
              case round =>
                obtain ⟨j, hkj, hj, rfl, HJ⟩ := hrel
                by_cases hjl : j < s.size
                · by_cases h10 : s[j].toNat = 10
                  · have HX : Hid (j = E) := by
                      have h3 := HJ.out
                      rw [tl_drop s j hjl, cmtN, if_pos h10] at h3
                      exact h3
                    have h10' : ((s[j].toNat : Int) == 10) = true := by simp only [beq_iff_eq]; omega
                    clear h10
                    go_wp2
                    go_roundw
                    case rel => exact ⟨E, f, acc, hEb, by rw [HX.out], by omega, hO, hB, HN⟩
                    case measure => have := HX.out; simp [intOf]; omega
                  · have HX : Hid (j + 1 + cmtN ((tl s).drop (j + 1)) = E) := by
                      have h3 := HJ.out
                      rw [tl_drop s j hjl, cmtN, if_neg h10] at h3
                      show _ = _
                      omega
                    have h10' : ((s[j].toNat : Int) == 10) = false := by simp only [beq_eq_false_iff_ne]; omega
                    clear h10
                    go_wp2
                    go_round
                    case rel => exact ⟨j + 1, by omega, by omega, by go_num, HX⟩
                    case measure => simp [intOf]; omega
                · have HX : Hid (j = E) := by
                    have h3 := HJ.out
                    rw [List.drop_of_length_le (by rw [tl_len]; omega)] at h3
                    exact h3
                  go_wp2
                  go_roundw
                  case rel => exact ⟨E, f, acc, hEb, by rw [HX.out], by omega, hO, hB, HN⟩
                  case measure => have := HX.out; simp [intOf]; omega
            · obtain ⟨f, rfl⟩ : ∃ g, f = g + 1 := ⟨f - 1, by have h1 := HK.out.1; omega⟩
              obtain ⟨hA, hN⟩ := scanP_in hlt acc R (by rw [← sq_stop hlt hbk hd]; exact HK.out.2)
              have HF : Hid (s.size < k + (f + 1)) := HK.out.1
              have htl := tokN_le ((tl s).drop k)
              rw [List.length_drop, tl_len] at htl
              have hle := fun w => rletter_any s[k] w
              by_cases hL : letterB s[k] = true
              · obtain ⟨t1, t2, t3⟩ := tok_letter hlt hL
                have HN : Hid (_ = _) := hN (by omega)
                rw [t1, t2] at HN
                rw [t1] at htl
                have hx1 : ((s[k].toNat : Int) == 45) = false := by
                  simp only [letterB, decide_eq_true_eq] at hL
                  simp only [beq_eq_false_iff_ne]; omega
                rw [hL] at hle
                obtain ⟨n, hn⟩ : ∃ n, wordN ((tl s).drop k) = n := ⟨_, rfl⟩
                obtain ⟨E, hE⟩ : ∃ E, k + n = E := ⟨_, rfl⟩
                have HW : Hid (k + wordN ((tl s).drop k) = E) := by
                  show _ = _
                  rw [hn, hE]
                rw [hn] at HN htl t3
                have hX := ext_from s k n (by omega)
                rw [hE] at HN hX
                have hE1 : k < E := by omega
                have hE2 : E ≤ s.size := by omega
                obtain ⟨T, hTx⟩ : ∃ T, ((tl s).drop k).take n = T := ⟨_, rfl⟩
                rw [hTx] at HN hX
                have sl : ∀ w, (Instr.slice 9 (.string s) (some (.int .i64 (k : Int))) (some (.int .i64 (E : Int))) none).run Try.prog w = .ok (.string (bs T)) w := fun w => by
                  rw [run_slice_string w 9 s .i64 .i64 _ _ Try.underlying9 (by omega) (by omega) (by omega), Int.toNat_natCast, Int.toNat_natCast, hX]
                have hne : ((E : Int) == (k : Int)) = false := by simp only [beq_eq_false_iff_ne]; omega
                clear hn hX hTx t1 t2 t3 hA hN HK hL hbk hd htl hE
                go_wp2_with (first
                  | (go_at_call 58; refine (hbl _).mono ?_; rintro e w' ⟨rfl, hw⟩; rw [hw])
                  | (go_at_call 59; refine (hle _).mono ?_; rintro e w' ⟨rfl, hw⟩; rw [hw]))
                go_loop [8] (fun i => ∃ j : Nat, k ≤ j ∧ j ≤ E ∧ i = .int .i64 j ∧ Hid (j + wordN ((tl s).drop j) = E)) (fun i => s.size - (intOf i).toNat)
                case atStart => exact ⟨k, by omega, by omega, rfl, HW⟩
                case round =>
                  obtain ⟨j, hkj, hj, rfl, HJ⟩ := hrel
                  by_cases hjl : j < s.size
                  · have c1 := fun w => rletter_any s[j] w
                    have c2 := fun w => rdigit_any s[j] w
                    have hwj := HJ.out
                    rw [wordN_at hjl] at hwj
                    have HWj : Hid (_ = _) := hwj
                    clear hwj
                    obtain ⟨lb, hlb⟩ : ∃ b, letterB s[j] = b := ⟨_, rfl⟩
                    obtain ⟨db, hdb⟩ : ∃ b, digitB s[j] = b := ⟨_, rfl⟩
                    simp only [hlb] at c1
                    simp only [hdb] at c2
                    rw [hlb, hdb] at HWj
                    clear hlb hdb HJ
                    cases lb
                    · cases db
                      · obtain rfl : E = j := by have := HWj.out; simp at this; omega
                        clear HWj
                        go_wp2_with (first
                          | (go_at_call 59; refine (c1 _).mono ?_; rintro e w' ⟨rfl, hw⟩; rw [hw])
                          | (go_at_call 60; refine (c2 _).mono ?_; rintro e w' ⟨rfl, hw⟩; rw [hw])
                          | (at_builtin; refine wpList_append_tok 66 70 Try.underlying66 Try.infoR rfl _ _ rfl w.heap.size _ ⟨w4.heap.size, 0, none⟩ acc ⟨1, T, k⟩ rfl rfl (hO.below (below_alloc _ _)) (cells_lit _ _ _ _ rfl _ _ rfl rfl) (by omega) (by simp; omega) ?_; intro v' w3 hO' hg'))
                        go_roundw
                        case rel => exact ⟨E, f, acc ++ [⟨1, T, k⟩], by omega, rfl, by simp; omega, hO', app_below hB hsz hO hg', ⟨by have := HF.out; omega, HN.out⟩⟩
                        case measure => simp [intOf]; omega
                      · have HX : Hid (j + 1 + wordN ((tl s).drop (j + 1)) = E) := by
                          have h3 := HWj.out
                          simp at h3
                          show _ = _
                          omega
                        have hj1 : j + 1 ≤ E := by have := HX.out; omega
                        clear HWj
                        go_wp2_with (first
                          | (go_at_call 59; refine (c1 _).mono ?_; rintro e w' ⟨rfl, hw⟩; rw [hw])
                          | (go_at_call 60; refine (c2 _).mono ?_; rintro e w' ⟨rfl, hw⟩; rw [hw])
                          | (at_builtin; refine wpList_append_tok 66 70 Try.underlying66 Try.infoR rfl _ _ rfl w.heap.size _ ⟨w4.heap.size, 0, none⟩ acc ⟨1, T, k⟩ rfl rfl (hO.below (below_alloc _ _)) (cells_lit _ _ _ _ rfl _ _ rfl rfl) (by omega) (by simp; omega) ?_; intro v' w3 hO' hg'))
                        go_round
                        case rel => exact ⟨j + 1, by omega, hj1, by go_num, HX⟩
                        case measure => simp [intOf]; omega
                    · have HX : Hid (j + 1 + wordN ((tl s).drop (j + 1)) = E) := by
                        have h3 := HWj.out
                        simp at h3
                        show _ = _
                        omega
                      have hj1 : j + 1 ≤ E := by have := HX.out; omega
                      clear HWj
                      go_wp2_with (first
                        | (go_at_call 59; refine (c1 _).mono ?_; rintro e w' ⟨rfl, hw⟩; rw [hw])
                        | (go_at_call 60; refine (c2 _).mono ?_; rintro e w' ⟨rfl, hw⟩; rw [hw])
                        | (at_builtin; refine wpList_append_tok 66 70 Try.underlying66 Try.infoR rfl _ _ rfl w.heap.size _ ⟨w4.heap.size, 0, none⟩ acc ⟨1, T, k⟩ rfl rfl (hO.below (below_alloc _ _)) (cells_lit _ _ _ _ rfl _ _ rfl rfl) (by omega) (by simp; omega) ?_; intro v' w3 hO' hg'))
                      go_round
                      case rel => exact ⟨j + 1, by omega, hj1, by go_num, HX⟩
                      case measure => simp [intOf]; omega
                  · obtain rfl : E = j := by
                      have h3 := HJ.out
                      rw [List.drop_of_length_le (by rw [tl_len]; omega)] at h3
                      exact h3.symm
                    clear HJ
                    have c1 : True := trivial
                    have c2 : True := trivial
                    go_wp2_with ((at_builtin; refine wpList_append_tok 66 70 Try.underlying66 Try.infoR rfl _ _ rfl w.heap.size _ ⟨w4.heap.size, 0, none⟩ acc ⟨1, T, k⟩ rfl rfl (hO.below (below_alloc _ _)) (cells_lit _ _ _ _ rfl _ _ rfl rfl) (by omega) (by simp; omega) ?_; intro v' w3 hO' hg'))
                    go_roundw
                    case rel => exact ⟨E, f, acc ++ [⟨1, T, k⟩], by omega, rfl, by simp; omega, hO', app_below hB hsz hO hg', ⟨by have := HF.out; omega, HN.out⟩⟩
                    case measure => simp [intOf]; omega
              · have hL : letterB s[k] = false := by simpa using hL
                obtain ⟨t1, t2⟩ := tok_sign hlt hL
                rw [hL] at hle
                have hsg := rsign_any s k w4 hlt hs6
                rw [t1, t2] at hN
                rw [t1] at hA htl
                obtain ⟨n, hn⟩ : ∃ n, signN ((tl s).drop k) = n := ⟨_, rfl⟩
                rw [hn] at hN hA htl hsg
                have hway : ((s[k].toNat : Int) == 45) = false ∨ (((s[k].toNat : Int) == 45) = true ∧ decide ((k : Int) + 1 < (s.size : Int)) = false) ∨ (((s[k].toNat : Int) == 45) = true ∧ ∃ h : k + 1 < s.size, ((s[k + 1].toNat : Int) == 45) = false) := by
                  by_cases h45 : s[k].toNat = 45
                  · by_cases hk1 : k + 1 < s.size
                    · right; right
                      refine ⟨by simp only [beq_iff_eq]; omega, hk1, ?_⟩
                      have : ¬ s[k + 1].toNat = 45 := fun h => hd ⟨h45, dash_two.2 ⟨hk1, h⟩⟩
                      simp only [beq_eq_false_iff_ne]; omega
                    · right; left
                      exact ⟨by simp only [beq_iff_eq]; omega, by simp only [decide_eq_false_iff_not]; omega⟩
                  · left; simp only [beq_eq_false_iff_ne]; omega
                by_cases h0 : n = 0
                · subst h0
                  have HA : Hid (R = .inl k) := hA rfl
                  clear hA hN HK hL hbk hd htl t1 t2 hn
                  rcases hway with x1 | ⟨x1, x2⟩ | ⟨x1, hk1, x2⟩
                  all_goals
                    go_wp2_with (first
                      | (go_at_call 58; refine (hbl _).mono ?_; rintro e w' ⟨rfl, hw⟩; rw [hw])
                      | (go_at_call 59; refine (hle _).mono ?_; rintro e w' ⟨rfl, hw⟩; rw [hw])
                      | (go_at_call 61; refine hsg.mono ?_; rintro e w5 ⟨rfl, hb5⟩))
                    go_ret3
                    exact ⟨_, by rw [HA.out]; rfl, by rw [HA.out]; exact owns_nil _ _ _, chain hB hb5⟩
                · have HN0 : Hid (_ = _) := hN h0
                  obtain ⟨E, hE⟩ : ∃ E, k + n = E := ⟨_, rfl⟩
                  have hX := ext_from s k n (by omega)
                  rw [hE] at HN0 hX
                  have hEI : (k : Int) + (n : Int) = (E : Int) := by omega
                  have hE1 : k < E := by omega
                  have hE2 : E ≤ s.size := by omega
                  obtain ⟨T, hTx⟩ : ∃ T, ((tl s).drop k).take n = T := ⟨_, rfl⟩
                  rw [hTx] at HN0 hX
                  have HN : Hid (_ = _) := HN0.out
                  have sl : ∀ w, (Instr.slice 9 (.string s) (some (.int .i64 (k : Int))) (some (.int .i64 (E : Int))) none).run Try.prog w = .ok (.string (bs T)) w := fun w => by
                    rw [run_slice_string w 9 s .i64 .i64 _ _ Try.underlying9 (by omega) (by omega) (by omega), Int.toNat_natCast, Int.toNat_natCast, hX]
                  have hne : ((E : Int) == (k : Int)) = false := by simp only [beq_eq_false_iff_ne]; omega
                  clear hn hX hTx t1 t2 hA hN HK hL hbk hd htl hE HN0 h0
                  rcases hway with x1 | ⟨x1, x2⟩ | ⟨x1, hk1, x2⟩
                  all_goals
                    go_wp2_with (first
                      | (go_at_call 58; refine (hbl _).mono ?_; rintro e w' ⟨rfl, hw⟩; rw [hw])
                      | (go_at_call 59; refine (hle _).mono ?_; rintro e w' ⟨rfl, hw⟩; rw [hw])
                      | (go_at_call 61; refine hsg.mono ?_; rintro e w5 ⟨rfl, hb5⟩)
                      | (at_builtin; refine wpList_append_tok 66 70 Try.underlying66 Try.infoR rfl _ _ rfl w.heap.size _ ⟨w5.heap.size, 0, none⟩ acc ⟨2, T, k⟩ rfl rfl ((hO.below hb5).below (below_alloc _ _)) (cells_lit _ _ _ _ rfl _ _ rfl rfl) (by omega) (by have := hb5.size; simp; omega) ?_; intro v' w3 hO' hg'))
                    go_roundw
                    case rel => exact ⟨E, f, acc ++ [⟨2, T, k⟩], by omega, rfl, by simp; omega, hO', app_below (hB.trans (hb5.mono hsz)) (by have := hb5.size; omega) (hO.below hb5) hg', ⟨by have := HF.out; omega, HN.out⟩⟩
                    case measure => simp [intOf]; omega
        · have HE : Hid (R = .inr (acc ++ [⟨0, [], s.size⟩])) := by
            obtain ⟨h1, h2⟩ := HK.out
            have e : scanQ f k ((tl s).drop k) = scanP f k ((tl s).drop k) := by
              rw [List.drop_of_length_le (by rw [tl_len]; omega), scanQ]
              rfl
            rw [e] at h2
            exact scanP_out hlt h1 hk acc R h2
          clear HK
          go_wp2_with (at_builtin; refine wpList_append_tok 66 70 Try.underlying66 Try.infoR rfl _ _ rfl w.heap.size _ ⟨w4.heap.size, 0, none⟩ acc ⟨0, [], s.size⟩ rfl rfl (hO.below (below_alloc _ _)) (cells_lit _ _ _ _ rfl _ _ rfl rfl) (by omega) (by simp; omega) ?_; intro v' w3 hO' hg')
          go_ret3
          exact ⟨_, by rw [HE.out]; rfl, by rw [HE.out]; exact hO', app_below hB hsz hO hg'⟩
end Go.Proofs.Ytpfnjeefhddikaa
